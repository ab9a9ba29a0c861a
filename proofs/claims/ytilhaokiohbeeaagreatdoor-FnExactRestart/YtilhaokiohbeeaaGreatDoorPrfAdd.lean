/- The contract of the program's add: a vote's server and tag come to a proof's rows. -/
import Derived.Test.YtilhaokiohbeeaaGreatDoorG04
import Derived.Test.YtilhaokiohbeeaaGreatDoorG25
import Derived.Deep.RegionHeld3
-- UNF Gen
namespace Go.Proofs.YtilhaokiohbeeaaGreatDoor
open Go.RowKit
/-- What add leaves. -/
def AddP (w0 : World) (g : Nat) (p : Prf) (x : Vot) (e : Ending) (w' : World) : Prop :=
  ∃ X : PrX, e = .returned (.tuple #[]) ∧ PrBx w0 w' g #[.int .i64 X.p.vw, .int .i64 X.p.nm, X.vs, X.vt] X ∧ X.p = ⟨p.vw, p.nm, p.sv ++ [x.sv], p.tg ++ [x.tg]⟩
set_option maxHeartbeats 4000000 in
set_option maxRecDepth 100000 in
theorem add_at (w0 w : World) (g : Nat) (vw nm : Int) (sv tg : List Int) (a b : Option Addr) (n c m d : Nat) (x : Vot) (L : PrBx w0 w g #[.int .i64 vw, .int .i64 nm, .slice a n c, .slice b m d] ⟨⟨vw, nm, sv, tg⟩, .slice a n c, .slice b m d⟩) (hl : sv.length ≤ 1000) (hl2 : tg.length ≤ 1000) :
    Calls Tryz.prog 245 #[.pointer (some ⟨g, 0, none⟩), .agg #[.int .i64 x.vw, .int .i64 x.nm, .int .i64 x.sv, .int .i64 x.tg]] w fun e w' => AddP w0 g ⟨vw, nm, sv, tg⟩ x e w' := by
  have HL : Hid (sv.length ≤ 1000 ∧ tg.length ≤ 1000) := ⟨hl, hl2⟩
  clear hl hl2
  have hx : BoxV (w.alloc (.cells (VC x) 36)) w.heap.size x := boxV_new w x
  replace L := L.below (below1 w (.cells (VC x) 36))
  unfold VC at L
  obtain ⟨hv, hhv⟩ : ∃ hv, hv = w.heap.size := ⟨_, rfl⟩
  rw [← hhv] at hx
  go_enter Tryz.func245, Tryz.ntmps245
  go_wp2_with fail
  rw [← hhv]
  revert hx
  revert L
  unfold VC
  generalize w.alloc (.cells #[.int .i64 x.vw, .int .i64 x.nm, .int .i64 x.sv, .int .i64 x.tg] 36) = W1
  intro L hx
  clear hhv w
  refine wp_region_noPanic ?_
  refine wp_region_held_drew (S := fun w' : World => w'.cell? ⟨hv, 2, none⟩ = some (.int .i64 x.sv)) (by kernel_rfl) hx.facts.2.2.1 (fun hS => ?_)
  replace L := L.drew
  replace hx : BoxV W1.drew hv x := hx
  refine tkG 0 4 hS ?_
  try simp only [Act.put, List.setIfInBounds_toArray, List.set_cons_zero, List.set_cons_succ]
  refine tkG 1 5 hS ?_
  try simp only [Act.put, List.setIfInBounds_toArray, List.set_cons_zero, List.set_cons_succ]
  refine tkG 2 6 hS ?_
  try simp only [Act.put, List.setIfInBounds_toArray, List.set_cons_zero, List.set_cons_succ]
  refine tkG 3 7 hS ?_
  try simp only [Act.put, List.setIfInBounds_toArray, List.set_cons_zero, List.set_cons_succ]
  refine tkG 5 9 hS ?_
  try simp only [Act.put, List.setIfInBounds_toArray, List.set_cons_zero, List.set_cons_succ]
  refine tkG 6 10 hS ?_
  try simp only [Act.put, List.setIfInBounds_toArray, List.set_cons_zero, List.set_cons_succ]
  revert hS
  revert hx
  revert L
  generalize W1.drew = V
  intro L hx hS
  refine wpAnyH_ready (rs := [4, 7]) (by kernel_rfl) (by simp) ?_
  refine AllReadyH.cons rfl (fun K hK => ?_) ?_
  have c := L.box.cell 2 rfl
  go_simp
  clear c hS
  refine hK.out _ _ hx.facts.2.2.1 (fun hS => ?_)
  clear hK K
  try simp only [List.setIfInBounds_toArray, List.set_cons_zero, List.set_cons_succ]
  clear hS
  refine listed_asX (l' := #[true, true, true, true, true, true, true, false, false, false, false, false]) (by kernel_rfl) ?_
  revert hx
  revert L
  revert V
  refine ?ad4
  rotate_left 1
  refine AllReadyH.cons rfl (fun K hK => ?_) AllReadyH.nil
  refine step_objX rfl 11 rfl (.cells #[.int .i64 x.sv] 2) (.slice (some ⟨V.heap.size, 0, none⟩) 1 1) (by go_simp; (try rfl)) ?_
  have hrow := rdI_one V x.sv
  replace L := L.below (below1 V (.cells #[.int .i64 x.sv] 2))
  replace hx := hx.below (below1 V (.cells #[.int .i64 x.sv] 2))
  clear hS
  refine hK.out _ _ hx.facts.2.2.1 (fun hS => ?_)
  clear hK K
  try simp only [List.setIfInBounds_toArray, List.set_cons_zero, List.set_cons_succ]
  revert hS
  revert hx
  revert hrow
  revert L
  generalize V.alloc (.cells #[.int .i64 x.sv] 2) = V1
  generalize V.heap.size = rb
  intro L hrow hx hS
  clear hS
  refine listed_asX (l' := #[true, true, true, true, false, true, true, true, false, false, false, false]) (by kernel_rfl) ?_
  revert hrow
  revert hx
  revert L
  revert rb
  revert V1
  clear V
  refine ?ad7
  rotate_left 1
  intro V0 L hx
  have hS : (fun w' : World => w'.cell? ⟨hv, 2, none⟩ = some (.int .i64 x.sv)) V0 := hx.facts.2.2.1
  refine wpAnyH_ready (rs := [7]) (by kernel_rfl) (by simp) ?_
  refine AllReadyH.cons rfl (fun K hK => ?_) AllReadyH.nil
  refine step_objX rfl 11 rfl (.cells #[.int .i64 x.sv] 2) (.slice (some ⟨V0.heap.size, 0, none⟩) 1 1) (by go_simp; (try rfl)) ?_
  have hrow := rdI_one V0 x.sv
  replace L := L.below (below1 V0 (.cells #[.int .i64 x.sv] 2))
  replace hx := hx.below (below1 V0 (.cells #[.int .i64 x.sv] 2))
  clear hS
  refine hK.out _ _ hx.facts.2.2.1 (fun hS => ?_)
  clear hK K
  try simp only [List.setIfInBounds_toArray, List.set_cons_zero, List.set_cons_succ]
  revert hS
  revert hx
  revert hrow
  revert L
  generalize V0.alloc (.cells #[.int .i64 x.sv] 2) = V1
  generalize V0.heap.size = rb
  intro L hrow hx hS
  clear hS
  refine listed_asX (l' := #[true, true, true, true, true, true, true, true, false, false, false, false]) (by kernel_rfl) ?_
  revert hrow
  revert hx
  revert L
  revert rb
  revert V1
  clear V0
  refine ?ad47
  rotate_left 1
  intro V0 rb L hx hrow
  have hS : (fun w' : World => w'.cell? ⟨hv, 2, none⟩ = some (.int .i64 x.sv)) V0 := hx.facts.2.2.1
  refine wpAnyH_ready (rs := [4]) (by kernel_rfl) (by simp) ?_
  refine AllReadyH.cons rfl (fun K hK => ?_) AllReadyH.nil
  have c := L.box.cell 2 rfl
  go_simp
  clear c hS
  refine hK.out _ _ hx.facts.2.2.1 (fun hS => ?_)
  clear hK K
  try simp only [List.setIfInBounds_toArray, List.set_cons_zero, List.set_cons_succ]
  clear hS
  refine listed_asX (l' := #[true, true, true, true, true, true, true, true, false, false, false, false]) (by kernel_rfl) ?_
  revert hrow
  revert hx
  revert L
  revert rb
  revert V0
  exact ?ad47
  intro V0 rb L hx hrow
  have hS : (fun w' : World => w'.cell? ⟨hv, 2, none⟩ = some (.int .i64 x.sv)) V0 := hx.facts.2.2.1
  refine wpAnyH_ready (rs := [8]) (by kernel_rfl) (by simp) ?_
  refine AllReadyH.cons rfl (fun K hK => ?_) AllReadyH.nil
  refine step_intsX rfl 12 rfl _ _ rfl w0.heap.size (.slice a n c) (.slice (some ⟨rb, 0, none⟩) 1 1) sv [x.sv] rfl rfl L.own.sv hrow (by have := HL.out; simp; omega) L.bel.size ?_
  intro vz V1 hoz hgz haz
  have hx1 : BoxV V1 hv x := (hgz.block hv hx.lt (fun e => Bx.row (cs := VC x) hx L.own.sv (by decide) hv e.symm rfl)).trans hx
  replace L := L.app hoz hgz haz
  obtain ⟨za, zc, hvz⟩ := ownSlX hoz
  clear hoz hgz haz hrow hS hx
  have hx := hx1
  clear hx1
  generalize (sv ++ [x.sv]).length = zn at hvz
  subst hvz
  refine hK.out _ _ hx.facts.2.2.1 (fun hS => ?_)
  clear hK K
  try simp only [List.setIfInBounds_toArray, List.set_cons_zero, List.set_cons_succ]
  refine tkG 9 13 hS ?_
  try simp only [Act.put, List.setIfInBounds_toArray, List.set_cons_zero, List.set_cons_succ]
  refine tkG 10 14 hS ?_
  try simp only [Act.put, List.setIfInBounds_toArray, List.set_cons_zero, List.set_cons_succ]
  clear hS
  refine listed_asX (l' := #[true, true, true, true, true, true, true, true, true, true, true, false]) (by kernel_rfl) ?_
  revert hx
  revert L
  revert zc
  revert zn
  revert za
  revert V1
  clear V0
  refine ?ad478
  rotate_left 1
  intro V0 za zn zc L hx
  have hS : (fun w' : World => w'.cell? ⟨hv, 2, none⟩ = some (.int .i64 x.sv)) V0 := hx.facts.2.2.1
  refine wpAnyH_ready (rs := [11]) (by kernel_rfl) (by simp) ?_
  refine AllReadyH.cons rfl (fun K hK => ?_) AllReadyH.nil
  have c := L.box.cell 2 rfl
  have f := L.box.fz 2
  have L2 := L.set 2 (.slice za zn zc)
  have hx2 : BoxV (V0.setCell ⟨g, 2, none⟩ (.slice za zn zc)) hv x := Bx.other (cs := VC x) hx (fun e => by have h1 := L.box; rw [← e] at h1; unfold Bx at h1; rw [show V0.heap[hv]? = _ from hx] at h1; injection h1 with h1; injection h1 with _ h2; exact absurd h2 (by decide))
  simp only [List.setIfInBounds_toArray, List.set_cons_zero, List.set_cons_succ] at L2
  go_simp
  clear c f L hS hx
  have L := L2
  have hx := hx2
  clear L2 hx2
  refine hK.out _ _ hx.facts.2.2.1 (fun hS => ?_)
  clear hK K
  try simp only [List.setIfInBounds_toArray, List.set_cons_zero, List.set_cons_succ]
  revert hS
  revert hx
  revert L
  generalize V0.setCell ⟨g, 2, none⟩ (.slice za zn zc) = V1
  intro L hx hS
  clear hS
  refine listed_asX (l' := #[true, true, true, true, true, true, true, true, true, true, true, true]) (by kernel_rfl) ?_
  revert hx
  revert L
  revert zc
  revert zn
  revert za
  revert V1
  clear V0
  refine ?ad47811
  rotate_left 1
  intro V0 za zn zc L hx
  have hS : (fun w' : World => w'.cell? ⟨hv, 2, none⟩ = some (.int .i64 x.sv)) V0 := hx.facts.2.2.1
  refine wpAnyH_done (by kernel_rfl) ?_ _
  refine NoPanic.normal ?_
  clear hS
  go_wp2_with fail
  refine wp_region_noPanic ?_
  refine wp_region_held_drew (S := fun w' : World => w'.cell? ⟨hv, 3, none⟩ = some (.int .i64 x.tg)) (by kernel_rfl) hx.facts.2.2.2 (fun hS => ?_)
  replace L := L.drew
  replace hx : BoxV V0.drew hv x := hx
  refine tkG 0 15 hS ?_
  try simp only [Act.put, List.setIfInBounds_toArray, List.set_cons_zero, List.set_cons_succ]
  refine tkG 1 16 hS ?_
  try simp only [Act.put, List.setIfInBounds_toArray, List.set_cons_zero, List.set_cons_succ]
  refine tkG 2 17 hS ?_
  try simp only [Act.put, List.setIfInBounds_toArray, List.set_cons_zero, List.set_cons_succ]
  refine tkG 3 18 hS ?_
  try simp only [Act.put, List.setIfInBounds_toArray, List.set_cons_zero, List.set_cons_succ]
  refine tkG 5 20 hS ?_
  try simp only [Act.put, List.setIfInBounds_toArray, List.set_cons_zero, List.set_cons_succ]
  refine tkG 6 21 hS ?_
  try simp only [Act.put, List.setIfInBounds_toArray, List.set_cons_zero, List.set_cons_succ]
  revert hS
  revert hx
  revert L
  generalize V0.drew = V
  intro L hx hS
  refine wpAnyH_ready (rs := [4, 7]) (by kernel_rfl) (by simp) ?_
  refine AllReadyH.cons rfl (fun K hK => ?_) ?_
  have c := L.box.cell 3 rfl
  go_simp
  clear c hS
  refine hK.out _ _ hx.facts.2.2.2 (fun hS => ?_)
  clear hK K
  try simp only [List.setIfInBounds_toArray, List.set_cons_zero, List.set_cons_succ]
  clear hS
  refine listed_asX (l' := #[true, true, true, true, true, true, true, false, false, false, false, false]) (by kernel_rfl) ?_
  revert hx
  revert L
  revert V
  refine ?ae4
  rotate_left 1
  refine AllReadyH.cons rfl (fun K hK => ?_) AllReadyH.nil
  refine step_objX rfl 22 rfl (.cells #[.int .i64 x.tg] 2) (.slice (some ⟨V.heap.size, 0, none⟩) 1 1) (by go_simp; (try rfl)) ?_
  have hrow := rdI_one V x.tg
  replace L := L.below (below1 V (.cells #[.int .i64 x.tg] 2))
  replace hx := hx.below (below1 V (.cells #[.int .i64 x.tg] 2))
  clear hS
  refine hK.out _ _ hx.facts.2.2.2 (fun hS => ?_)
  clear hK K
  try simp only [List.setIfInBounds_toArray, List.set_cons_zero, List.set_cons_succ]
  revert hS
  revert hx
  revert hrow
  revert L
  generalize V.alloc (.cells #[.int .i64 x.tg] 2) = V1
  generalize V.heap.size = rb
  intro L hrow hx hS
  clear hS
  refine listed_asX (l' := #[true, true, true, true, false, true, true, true, false, false, false, false]) (by kernel_rfl) ?_
  revert hrow
  revert hx
  revert L
  revert rb
  revert V1
  clear V
  refine ?ae7
  rotate_left 1
  intro V0 L hx
  have hS : (fun w' : World => w'.cell? ⟨hv, 3, none⟩ = some (.int .i64 x.tg)) V0 := hx.facts.2.2.2
  refine wpAnyH_ready (rs := [7]) (by kernel_rfl) (by simp) ?_
  refine AllReadyH.cons rfl (fun K hK => ?_) AllReadyH.nil
  refine step_objX rfl 22 rfl (.cells #[.int .i64 x.tg] 2) (.slice (some ⟨V0.heap.size, 0, none⟩) 1 1) (by go_simp; (try rfl)) ?_
  have hrow := rdI_one V0 x.tg
  replace L := L.below (below1 V0 (.cells #[.int .i64 x.tg] 2))
  replace hx := hx.below (below1 V0 (.cells #[.int .i64 x.tg] 2))
  clear hS
  refine hK.out _ _ hx.facts.2.2.2 (fun hS => ?_)
  clear hK K
  try simp only [List.setIfInBounds_toArray, List.set_cons_zero, List.set_cons_succ]
  revert hS
  revert hx
  revert hrow
  revert L
  generalize V0.alloc (.cells #[.int .i64 x.tg] 2) = V1
  generalize V0.heap.size = rb
  intro L hrow hx hS
  clear hS
  refine listed_asX (l' := #[true, true, true, true, true, true, true, true, false, false, false, false]) (by kernel_rfl) ?_
  revert hrow
  revert hx
  revert L
  revert rb
  revert V1
  clear V0
  refine ?ae47
  rotate_left 1
  intro V0 rb L hx hrow
  have hS : (fun w' : World => w'.cell? ⟨hv, 3, none⟩ = some (.int .i64 x.tg)) V0 := hx.facts.2.2.2
  refine wpAnyH_ready (rs := [4]) (by kernel_rfl) (by simp) ?_
  refine AllReadyH.cons rfl (fun K hK => ?_) AllReadyH.nil
  have c := L.box.cell 3 rfl
  go_simp
  clear c hS
  refine hK.out _ _ hx.facts.2.2.2 (fun hS => ?_)
  clear hK K
  try simp only [List.setIfInBounds_toArray, List.set_cons_zero, List.set_cons_succ]
  clear hS
  refine listed_asX (l' := #[true, true, true, true, true, true, true, true, false, false, false, false]) (by kernel_rfl) ?_
  revert hrow
  revert hx
  revert L
  revert rb
  revert V0
  exact ?ae47
  intro V0 rb L hx hrow
  have hS : (fun w' : World => w'.cell? ⟨hv, 3, none⟩ = some (.int .i64 x.tg)) V0 := hx.facts.2.2.2
  refine wpAnyH_ready (rs := [8]) (by kernel_rfl) (by simp) ?_
  refine AllReadyH.cons rfl (fun K hK => ?_) AllReadyH.nil
  refine step_intsX rfl 23 rfl _ _ rfl w0.heap.size (.slice b m d) (.slice (some ⟨rb, 0, none⟩) 1 1) tg [x.tg] rfl rfl L.own.tg hrow (by have := HL.out; simp; omega) L.bel.size ?_
  intro vz V1 hoz hgz haz
  have hx1 : BoxV V1 hv x := (hgz.block hv hx.lt (fun e => Bx.row (cs := VC x) hx L.own.tg (by decide) hv e.symm rfl)).trans hx
  replace L := L.apt hoz hgz haz
  obtain ⟨ya, yc, hvz⟩ := ownSlX hoz
  clear hoz hgz haz hrow hS hx
  have hx := hx1
  clear hx1
  generalize (tg ++ [x.tg]).length = yn at hvz
  subst hvz
  refine hK.out _ _ hx.facts.2.2.2 (fun hS => ?_)
  clear hK K
  try simp only [List.setIfInBounds_toArray, List.set_cons_zero, List.set_cons_succ]
  refine tkG 9 24 hS ?_
  try simp only [Act.put, List.setIfInBounds_toArray, List.set_cons_zero, List.set_cons_succ]
  refine tkG 10 25 hS ?_
  try simp only [Act.put, List.setIfInBounds_toArray, List.set_cons_zero, List.set_cons_succ]
  clear hS
  refine listed_asX (l' := #[true, true, true, true, true, true, true, true, true, true, true, false]) (by kernel_rfl) ?_
  revert hx
  revert L
  revert yc
  revert yn
  revert ya
  revert V1
  clear V0
  refine ?ae478
  rotate_left 1
  intro V0 ya yn yc L hx
  have hS : (fun w' : World => w'.cell? ⟨hv, 3, none⟩ = some (.int .i64 x.tg)) V0 := hx.facts.2.2.2
  refine wpAnyH_ready (rs := [11]) (by kernel_rfl) (by simp) ?_
  refine AllReadyH.cons rfl (fun K hK => ?_) AllReadyH.nil
  have c := L.box.cell 3 rfl
  have f := L.box.fz 3
  have L2 := L.set 3 (.slice ya yn yc)
  have hx2 : BoxV (V0.setCell ⟨g, 3, none⟩ (.slice ya yn yc)) hv x := Bx.other (cs := VC x) hx (fun e => by have h1 := L.box; rw [← e] at h1; unfold Bx at h1; rw [show V0.heap[hv]? = _ from hx] at h1; injection h1 with h1; injection h1 with _ h2; exact absurd h2 (by decide))
  simp only [List.setIfInBounds_toArray, List.set_cons_zero, List.set_cons_succ] at L2
  go_simp
  clear c f L hS hx
  have L := L2
  have hx := hx2
  clear L2 hx2
  refine hK.out _ _ hx.facts.2.2.2 (fun hS => ?_)
  clear hK K
  try simp only [List.setIfInBounds_toArray, List.set_cons_zero, List.set_cons_succ]
  revert hS
  revert hx
  revert L
  generalize V0.setCell ⟨g, 3, none⟩ (.slice ya yn yc) = V1
  intro L hx hS
  clear hS
  refine listed_asX (l' := #[true, true, true, true, true, true, true, true, true, true, true, true]) (by kernel_rfl) ?_
  revert hx
  revert L
  revert yc
  revert yn
  revert ya
  revert V1
  clear V0
  refine ?ae47811
  rotate_left 1
  intro V0 ya yn yc L hx
  have hS : (fun w' : World => w'.cell? ⟨hv, 3, none⟩ = some (.int .i64 x.tg)) V0 := hx.facts.2.2.2
  refine wpAnyH_done (by kernel_rfl) ?_ _
  refine NoPanic.normal ?_
  clear hS
  go_wp2
  exact bodyPost_ret (v := .tuple #[]) (by simp [results, Tryz.results245, go_sem]) rfl ⟨⟨⟨vw, nm, sv ++ [x.sv], tg ++ [x.tg]⟩, .slice za zn zc, .slice ya yn yc⟩, rfl, L, rfl⟩
end Go.Proofs.YtilhaokiohbeeaaGreatDoor
