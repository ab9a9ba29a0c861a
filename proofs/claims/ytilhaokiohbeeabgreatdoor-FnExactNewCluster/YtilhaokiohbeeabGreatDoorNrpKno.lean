/- The contract of the program's knows for the first Proof, where there is no Block. -/
-- UNF Gen
import Derived.Test.YtilhaokiohbeeabGreatDoorNrpKey
import Derived.Test.YtilhaokiohbeeabGreatDoorBxGen
namespace Go.Proofs.YtilhaokiohbeeabGreatDoor
open Go.RowKit
set_option maxHeartbeats 4000000 in
set_option maxRecDepth 100000 in
theorem knows_zero (g r c : Nat) (w : World) (hg : g < w.heap.size) (hc : w.cell? ⟨g, 15, none⟩ = some (.map (some r))) (hm : w.heap[r]? = some (.map #[] c)) :
    Calls Tryz.prog 165 #[.pointer (some ⟨g, 0, none⟩), .agg #[.int .i64 0, .int .i64 0, .slice none 0 0, .slice none 0 0]] w fun e w' => e = .returned (.bool true) ∧ Below w.heap.size w w' := by
  have hr : r < w.heap.size := (Array.getElem?_eq_some_iff.1 hm).1
  have FS : Hid (∀ W', Below w.heap.size w W' → Bx W' w.heap.size 52 #[.int .i64 0, .int .i64 0, .slice none 0 0, .slice none 0 0] → W'.cell? ⟨g, 15, none⟩ = some (.map (some r)) ∧ W'.cell? ⟨w.heap.size, 0, none⟩ = some (.int .i64 0) ∧ W'.cell? ⟨w.heap.size, 1, none⟩ = some (.int .i64 0) ∧ W'.cell? ⟨w.heap.size, 2, none⟩ = some (.slice none 0 0) ∧ W'.cell? ⟨w.heap.size, 3, none⟩ = some (.slice none 0 0) ∧ (Instr.lookup 145 (.map (some r)) (.agg #[.int .i64 0, .int .i64 0]) true).run Tryz.prog W' = .ok (.tuple #[.agg #[.int .i64 0, .int .i64 0, .int .i64 0, .int .i64 0, .slice none 0 0, .slice none 0 0, .slice none 0 0, .int .i64 0], .bool false]) W') := fun W' h x => ⟨(h.cell (p := ⟨g, 15, none⟩) hg).trans hc, x.c4.1, x.c4.2.1, x.c4.2.2.1, x.c4.2.2.2, look_empty W' r c ((h.block r hr).trans hm)⟩
  have HB := below1 w (.cells #[.int .i64 0, .int .i64 0, .slice none 0 0, .slice none 0 0] 52)
  have hx := bx_new w 52 #[.int .i64 0, .int .i64 0, .slice none 0 0, .slice none 0 0]
  obtain ⟨w1, hw1⟩ : ∃ w1, w1 = w.alloc (.cells #[.int .i64 0, .int .i64 0, .slice none 0 0, .slice none 0 0] 52) := ⟨_, rfl⟩
  clear hg hc hm hr
  go_enter Tryz.func165, Tryz.ntmps165
  go_wp2_with fail
  rw [← hw1] at HB hx ⊢
  clear hw1
  refine wp_region_noPanic ?_
  refine wp_region_held_drew (S := fun W' : World => W'.cell? ⟨g, 15, none⟩ = some (.map (some r)) ∧ W'.cell? ⟨w.heap.size, 0, none⟩ = some (.int .i64 0) ∧ W'.cell? ⟨w.heap.size, 1, none⟩ = some (.int .i64 0) ∧ W'.cell? ⟨w.heap.size, 2, none⟩ = some (.slice none 0 0) ∧ W'.cell? ⟨w.heap.size, 3, none⟩ = some (.slice none 0 0) ∧ (Instr.lookup 145 (.map (some r)) (.agg #[.int .i64 0, .int .i64 0]) true).run Tryz.prog W' = .ok (.tuple #[.agg #[.int .i64 0, .int .i64 0, .int .i64 0, .int .i64 0, .slice none 0 0, .slice none 0 0, .slice none 0 0, .int .i64 0], .bool false]) W') (by kernel_rfl) (FS.out _ HB.drew (Bx.of_block hx rfl)) (fun hS => ?_)
  replace HB := HB.drew
  replace hx : Bx w1.drew w.heap.size 52 #[.int .i64 0, .int .i64 0, .slice none 0 0, .slice none 0 0] := hx
  refine tkG 0 8 hS ?_
  try simp only [Act.put, List.setIfInBounds_toArray, List.set_cons_zero, List.set_cons_succ]
  refine tkG 1 9 hS ?_
  try simp only [Act.put, List.setIfInBounds_toArray, List.set_cons_zero, List.set_cons_succ]
  refine tkG 2 10 hS ?_
  try simp only [Act.put, List.setIfInBounds_toArray, List.set_cons_zero, List.set_cons_succ]
  refine tkG 3 11 hS ?_
  try simp only [Act.put, List.setIfInBounds_toArray, List.set_cons_zero, List.set_cons_succ]
  refine tkG 4 12 hS ?_
  try simp only [Act.put, List.setIfInBounds_toArray, List.set_cons_zero, List.set_cons_succ]
  revert hS
  revert hx
  revert HB
  generalize w1.drew = V
  intro HB hx hS
  refine wpAnyH_ready (rs := [5, 10]) (by kernel_rfl) (by simp) ?_
  refine AllReadyH.cons rfl (fun K hK => ?_) ?_
  go_simp
  refine (key_zero _).mono ?_
  rintro e V1 ⟨rfl, hb⟩
  replace HB := HB.trans (hb.mono HB.size)
  replace hx := hx.below hb
  clear hS hb
  refine hK.out _ _ (FS.out _ HB hx) (fun hS => ?_)
  clear hK K
  try simp only [List.setIfInBounds_toArray, List.set_cons_zero, List.set_cons_succ]
  refine tkG 6 14 hS ?_
  try simp only [Act.put, List.setIfInBounds_toArray, List.set_cons_zero, List.set_cons_succ]
  refine tkG 7 7 hS ?_
  try simp only [Act.put, List.setIfInBounds_toArray, List.set_cons_zero, List.set_cons_succ]
  refine tkG 8 15 hS ?_
  try simp only [Act.put, List.setIfInBounds_toArray, List.set_cons_zero, List.set_cons_succ]
  refine tkG 9 16 hS ?_
  try simp only [Act.put, List.setIfInBounds_toArray, List.set_cons_zero, List.set_cons_succ]
  clear hS
  refine listed_asN (l' := #[true, true, true, true, true, true, true, true, true, true, false, false, false]) (by kernel_rfl) ?_
  revert hx
  revert HB
  revert V1
  clear V
  refine ?kn5
  rotate_left 1
  refine AllReadyH.cons rfl (fun K hK => ?_) AllReadyH.nil
  refine step_objX rfl 5 rfl (.cells #[.int .i64 0, .int .i64 0, .int .i64 0, .int .i64 0, .slice none 0 0, .slice none 0 0, .slice none 0 0, .int .i64 0] 54) (.pointer (some ⟨V.heap.size, 0, none⟩)) (by go_simp; (try rfl)) ?_
  have hl := HB.size
  have hz := bx_new V 54 #[.int .i64 0, .int .i64 0, .int .i64 0, .int .i64 0, .slice none 0 0, .slice none 0 0, .slice none 0 0, .int .i64 0]
  replace HB := HB.alloc HB.size (.cells #[.int .i64 0, .int .i64 0, .int .i64 0, .int .i64 0, .slice none 0 0, .slice none 0 0, .slice none 0 0, .int .i64 0] 54)
  replace hx := hx.below (below1 V (.cells #[.int .i64 0, .int .i64 0, .int .i64 0, .int .i64 0, .slice none 0 0, .slice none 0 0, .slice none 0 0, .int .i64 0] 54))
  clear hS
  refine hK.out _ _ (FS.out _ HB hx) (fun hS => ?_)
  clear hK K
  try simp only [List.setIfInBounds_toArray, List.set_cons_zero, List.set_cons_succ]
  revert hS
  revert hx
  revert HB
  revert hz
  revert hl
  generalize V.alloc (.cells #[.int .i64 0, .int .i64 0, .int .i64 0, .int .i64 0, .slice none 0 0, .slice none 0 0, .slice none 0 0, .int .i64 0] 54) = V1
  generalize V.heap.size = zb
  intro hl hz HB hx hS
  clear hS
  refine listed_asN (l' := #[true, true, true, true, true, false, false, false, false, false, true, false, false]) (by kernel_rfl) ?_
  revert hl
  revert hz
  revert hx
  revert HB
  revert zb
  revert V1
  clear V
  refine ?kn10
  rotate_left 1
  intro V0 HB hx
  have hS : (fun W' : World => W'.cell? ⟨g, 15, none⟩ = some (.map (some r)) ∧ W'.cell? ⟨w.heap.size, 0, none⟩ = some (.int .i64 0) ∧ W'.cell? ⟨w.heap.size, 1, none⟩ = some (.int .i64 0) ∧ W'.cell? ⟨w.heap.size, 2, none⟩ = some (.slice none 0 0) ∧ W'.cell? ⟨w.heap.size, 3, none⟩ = some (.slice none 0 0) ∧ (Instr.lookup 145 (.map (some r)) (.agg #[.int .i64 0, .int .i64 0]) true).run Tryz.prog W' = .ok (.tuple #[.agg #[.int .i64 0, .int .i64 0, .int .i64 0, .int .i64 0, .slice none 0 0, .slice none 0 0, .slice none 0 0, .int .i64 0], .bool false]) W') V0 := (FS.out _ HB hx)
  refine wpAnyH_ready (rs := [10]) (by kernel_rfl) (by simp) ?_
  refine AllReadyH.cons rfl (fun K hK => ?_) AllReadyH.nil
  refine step_objX rfl 5 rfl (.cells #[.int .i64 0, .int .i64 0, .int .i64 0, .int .i64 0, .slice none 0 0, .slice none 0 0, .slice none 0 0, .int .i64 0] 54) (.pointer (some ⟨V0.heap.size, 0, none⟩)) (by go_simp; (try rfl)) ?_
  have hl := HB.size
  have hz := bx_new V0 54 #[.int .i64 0, .int .i64 0, .int .i64 0, .int .i64 0, .slice none 0 0, .slice none 0 0, .slice none 0 0, .int .i64 0]
  replace HB := HB.alloc HB.size (.cells #[.int .i64 0, .int .i64 0, .int .i64 0, .int .i64 0, .slice none 0 0, .slice none 0 0, .slice none 0 0, .int .i64 0] 54)
  replace hx := hx.below (below1 V0 (.cells #[.int .i64 0, .int .i64 0, .int .i64 0, .int .i64 0, .slice none 0 0, .slice none 0 0, .slice none 0 0, .int .i64 0] 54))
  clear hS
  refine hK.out _ _ (FS.out _ HB hx) (fun hS => ?_)
  clear hK K
  try simp only [List.setIfInBounds_toArray, List.set_cons_zero, List.set_cons_succ]
  revert hS
  revert hx
  revert HB
  revert hz
  revert hl
  generalize V0.alloc (.cells #[.int .i64 0, .int .i64 0, .int .i64 0, .int .i64 0, .slice none 0 0, .slice none 0 0, .slice none 0 0, .int .i64 0] 54) = V1
  generalize V0.heap.size = zb
  intro hl hz HB hx hS
  clear hS
  refine listed_asN (l' := #[true, true, true, true, true, true, true, true, true, true, true, false, false]) (by kernel_rfl) ?_
  revert hl
  revert hz
  revert hx
  revert HB
  revert zb
  revert V1
  clear V0
  refine ?kn510
  rotate_left 1
  intro V0 zb HB hx hz hl
  have hS : (fun W' : World => W'.cell? ⟨g, 15, none⟩ = some (.map (some r)) ∧ W'.cell? ⟨w.heap.size, 0, none⟩ = some (.int .i64 0) ∧ W'.cell? ⟨w.heap.size, 1, none⟩ = some (.int .i64 0) ∧ W'.cell? ⟨w.heap.size, 2, none⟩ = some (.slice none 0 0) ∧ W'.cell? ⟨w.heap.size, 3, none⟩ = some (.slice none 0 0) ∧ (Instr.lookup 145 (.map (some r)) (.agg #[.int .i64 0, .int .i64 0]) true).run Tryz.prog W' = .ok (.tuple #[.agg #[.int .i64 0, .int .i64 0, .int .i64 0, .int .i64 0, .slice none 0 0, .slice none 0 0, .slice none 0 0, .int .i64 0], .bool false]) W') V0 := (FS.out _ HB hx)
  refine wpAnyH_ready (rs := [5]) (by kernel_rfl) (by simp) ?_
  refine AllReadyH.cons rfl (fun K hK => ?_) AllReadyH.nil
  go_simp
  refine (key_zero _).mono ?_
  rintro e V1 ⟨rfl, hb⟩
  replace HB := HB.trans (hb.mono HB.size)
  replace hx := hx.below hb
  replace hz := hz.below hb
  clear hS hb
  refine hK.out _ _ (FS.out _ HB hx) (fun hS => ?_)
  clear hK K
  try simp only [List.setIfInBounds_toArray, List.set_cons_zero, List.set_cons_succ]
  refine tkG 6 14 hS ?_
  try simp only [Act.put, List.setIfInBounds_toArray, List.set_cons_zero, List.set_cons_succ]
  refine tkG 7 7 hS ?_
  try simp only [Act.put, List.setIfInBounds_toArray, List.set_cons_zero, List.set_cons_succ]
  refine tkG 8 15 hS ?_
  try simp only [Act.put, List.setIfInBounds_toArray, List.set_cons_zero, List.set_cons_succ]
  refine tkG 9 16 hS ?_
  try simp only [Act.put, List.setIfInBounds_toArray, List.set_cons_zero, List.set_cons_succ]
  clear hS
  refine listed_asN (l' := #[true, true, true, true, true, true, true, true, true, true, true, false, false]) (by kernel_rfl) ?_
  revert hl
  revert hz
  revert hx
  revert HB
  revert zb
  revert V1
  clear V0
  exact ?kn510
  intro V0 zb HB hx hz hl
  have hS : (fun W' : World => W'.cell? ⟨g, 15, none⟩ = some (.map (some r)) ∧ W'.cell? ⟨w.heap.size, 0, none⟩ = some (.int .i64 0) ∧ W'.cell? ⟨w.heap.size, 1, none⟩ = some (.int .i64 0) ∧ W'.cell? ⟨w.heap.size, 2, none⟩ = some (.slice none 0 0) ∧ W'.cell? ⟨w.heap.size, 3, none⟩ = some (.slice none 0 0) ∧ (Instr.lookup 145 (.map (some r)) (.agg #[.int .i64 0, .int .i64 0]) true).run Tryz.prog W' = .ok (.tuple #[.agg #[.int .i64 0, .int .i64 0, .int .i64 0, .int .i64 0, .slice none 0 0, .slice none 0 0, .slice none 0 0, .int .i64 0], .bool false]) W') V0 := (FS.out _ HB hx)
  refine wpAnyH_ready (rs := [11]) (by kernel_rfl) (by simp) ?_
  refine AllReadyH.cons rfl (fun K hK => ?_) AllReadyH.nil
  obtain ⟨c0, c1, c2, c3, c4, c5, c6, c7⟩ := hz.c8
  obtain ⟨f0, f1, f2, f3, f4, f5, f6, f7⟩ := hz.f8
  have HNE : Hid (w.heap.size ≠ zb) := fun e => by have h1 := hx; rw [e] at h1; unfold Bx at h1 hz; rw [h1] at hz; injection hz with hz; injection hz with _ h2; exact absurd h2 (by decide)
  go_simp
  clear c0 c1 c2 c3 c4 c5 c6 c7 f0 f1 f2 f3 f4 f5 f6 f7 hS
  replace HB : Below w.heap.size w (World.setCell (World.setCell (World.setCell (World.setCell (World.setCell (World.setCell (World.setCell (World.setCell V0 ⟨zb, 0, none⟩ (.int .i64 0)) ⟨zb, 1, none⟩ (.int .i64 0)) ⟨zb, 2, none⟩ (.int .i64 0)) ⟨zb, 3, none⟩ (.int .i64 0)) ⟨zb, 4, none⟩ (.slice none 0 0)) ⟨zb, 5, none⟩ (.slice none 0 0)) ⟨zb, 6, none⟩ (.slice none 0 0)) ⟨zb, 7, none⟩ (.int .i64 0)) := ((((((((HB.setCell (p := ⟨zb, 0, none⟩) hl _).setCell (p := ⟨zb, 1, none⟩) hl _).setCell (p := ⟨zb, 2, none⟩) hl _).setCell (p := ⟨zb, 3, none⟩) hl _).setCell (p := ⟨zb, 4, none⟩) hl _).setCell (p := ⟨zb, 5, none⟩) hl _).setCell (p := ⟨zb, 6, none⟩) hl _).setCell (p := ⟨zb, 7, none⟩) hl _)
  replace hx : Bx (World.setCell (World.setCell (World.setCell (World.setCell (World.setCell (World.setCell (World.setCell (World.setCell V0 ⟨zb, 0, none⟩ (.int .i64 0)) ⟨zb, 1, none⟩ (.int .i64 0)) ⟨zb, 2, none⟩ (.int .i64 0)) ⟨zb, 3, none⟩ (.int .i64 0)) ⟨zb, 4, none⟩ (.slice none 0 0)) ⟨zb, 5, none⟩ (.slice none 0 0)) ⟨zb, 6, none⟩ (.slice none 0 0)) ⟨zb, 7, none⟩ (.int .i64 0)) w.heap.size 52 #[.int .i64 0, .int .i64 0, .slice none 0 0, .slice none 0 0] := (Bx.other (c := zb) (j := 7) (Bx.other (c := zb) (j := 6) (Bx.other (c := zb) (j := 5) (Bx.other (c := zb) (j := 4) (Bx.other (c := zb) (j := 3) (Bx.other (c := zb) (j := 2) (Bx.other (c := zb) (j := 1) (Bx.other (c := zb) (j := 0) hx HNE.out) HNE.out) HNE.out) HNE.out) HNE.out) HNE.out) HNE.out) HNE.out)
  refine hK.out _ _ (FS.out _ HB hx) (fun hS => ?_)
  clear hK K
  try simp only [List.setIfInBounds_toArray, List.set_cons_zero, List.set_cons_succ]
  clear hz hl HNE
  revert hS
  revert hx
  revert HB
  generalize (World.setCell (World.setCell (World.setCell (World.setCell (World.setCell (World.setCell (World.setCell (World.setCell V0 ⟨zb, 0, none⟩ (.int .i64 0)) ⟨zb, 1, none⟩ (.int .i64 0)) ⟨zb, 2, none⟩ (.int .i64 0)) ⟨zb, 3, none⟩ (.int .i64 0)) ⟨zb, 4, none⟩ (.slice none 0 0)) ⟨zb, 5, none⟩ (.slice none 0 0)) ⟨zb, 6, none⟩ (.slice none 0 0)) ⟨zb, 7, none⟩ (.int .i64 0)) = V1
  intro HB hx hS
  refine tkG 12 6 hS ?_
  try simp only [Act.put, List.setIfInBounds_toArray, List.set_cons_zero, List.set_cons_succ]
  clear hS
  refine listed_asN (l' := #[true, true, true, true, true, true, true, true, true, true, true, true, true]) (by kernel_rfl) ?_
  revert hx
  revert HB
  revert V1
  clear V0
  refine ?kn51011
  rotate_left 1
  intro V0 HB hx
  have hS : (fun W' : World => W'.cell? ⟨g, 15, none⟩ = some (.map (some r)) ∧ W'.cell? ⟨w.heap.size, 0, none⟩ = some (.int .i64 0) ∧ W'.cell? ⟨w.heap.size, 1, none⟩ = some (.int .i64 0) ∧ W'.cell? ⟨w.heap.size, 2, none⟩ = some (.slice none 0 0) ∧ W'.cell? ⟨w.heap.size, 3, none⟩ = some (.slice none 0 0) ∧ (Instr.lookup 145 (.map (some r)) (.agg #[.int .i64 0, .int .i64 0]) true).run Tryz.prog W' = .ok (.tuple #[.agg #[.int .i64 0, .int .i64 0, .int .i64 0, .int .i64 0, .slice none 0 0, .slice none 0 0, .slice none 0 0, .int .i64 0], .bool false]) W') V0 := (FS.out _ HB hx)
  refine wpAnyH_done (by kernel_rfl) ?_ _
  refine NoPanic.normal ?_
  clear hS
  obtain ⟨p0, p1, p2, p3⟩ := hx.c4
  go_wp2_with fail
  refine (isFirst_zero _).mono ?_
  rintro e w5 ⟨rfl, hb5⟩
  have bz := HB.trans (hb5.mono HB.size)
  clear hb5 p0 p1 p2 p3 hx HB
  go_wp2
  go_ret
  exact ⟨rfl, bz⟩
end Go.Proofs.YtilhaokiohbeeabGreatDoor
