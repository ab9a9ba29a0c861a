/- The contracts of the program's Proof.key and voter.knows. The contracts of the library's look for a number in a list. A voter in memory: its box, its own Blocks, their names, the map that finds them. -/
import Derived.Test.YtilhaokiohbeeaaGreatDoorG36
import Derived.Test.YtilhaokiohbeeaaGreatDoorG03
import Derived.Test.YtilhaokiohbeeaaGreatDoorPrfSpec
import Derived.Test.YtilhaokiohbeeaaGreatDoorG02
import Derived.Deep.RegionLaw
import Derived.Test.YtilhaokiohbeeaaGreatDoorRepSpk
-- UNF Gen
namespace Go.Proofs.YtilhaokiohbeeaaGreatDoor
open Go.RowKit
theorem listed_asV {P : Program} {md : Region.Mode} {ops : Array Oper} {Q : Exit → Act → World → Prop} {S : World → Prop} {fuel : Nat} {l l' : Array Bool} {a : Act} {w : World} (hl : l = l') (h : wpAnyH P md ops Q S fuel l' a w) : wpAnyH P md ops Q S fuel l a w := by subst hl; exact h
set_option maxHeartbeats 1000000 in
set_option maxRecDepth 100000 in
theorem key_any (pv pn : Int) (a1 a2 : Option Addr) (l1 k1 l2 k2 : Nat) (w : World) :
    Calls Tryz.prog 220 #[.agg #[.int .i64 pv, .int .i64 pn, .slice a1 l1 k1, .slice a2 l2 k2]] w fun e w' => e = .returned (.agg #[.int .i64 pv, .int .i64 pn]) ∧ Below w.heap.size w w' := by
  have hb := below1 w (.cells #[.int .i64 pv, .int .i64 pn, .slice a1 l1 k1, .slice a2 l2 k2] 26)
  go_enter Tryz.func220, Tryz.ntmps220
  go_wp2
  refine bodyPost_ret (v := .agg #[.int .i64 pv, .int .i64 pn]) (by simp [results, Tryz.results220, go_sem]) rfl ⟨rfl, by first | exact (hb.alloc (by simp) _) | exact ((hb.alloc (by simp) _).setCell (by simp) _)⟩
set_option maxHeartbeats 4000000 in
set_option maxRecDepth 100000 in
theorem knows_at (g r : Nat) (pv pn : Int) (a1 a2 : Option Addr) (l1 k1 l2 k2 : Nat) (ua ub uc ud ue : Int) (x1 x2 x3 : Option Addr) (y1 z1 y2 z2 y3 z3 : Nat) (is f : Bool) (w : World) (hg : g < w.heap.size) (hc : w.cell? ⟨g, 15, none⟩ = some (.map (some r)))
    (hL : ∀ W', Below w.heap.size w W' → (Instr.lookup 121 (.map (some r)) (.agg #[.int .i64 pv, .int .i64 pn]) true).run Tryz.prog W' = .ok (.tuple #[.agg #[.int .i64 ua, .int .i64 ub, .int .i64 uc, .int .i64 ud, .slice x1 y1 z1, .slice x2 y2 z2, .slice x3 y3 z3, .int .i64 ue], .bool is]) W') (hfr : (decide (pv = 0) && (decide (pn = 0) && (decide (l1 = 0) && decide (l2 = 0)))) = f) :
    Calls Tryz.prog 195 #[.pointer (some ⟨g, 0, none⟩), .agg #[.int .i64 pv, .int .i64 pn, .slice a1 l1 k1, .slice a2 l2 k2]] w fun e w' => e = .returned (.bool (is || f)) ∧ Below w.heap.size w w' := by
  have FS : Hid (∀ W', Below w.heap.size w W' → Bx W' w.heap.size 26 #[.int .i64 pv, .int .i64 pn, .slice a1 l1 k1, .slice a2 l2 k2] → W'.cell? ⟨g, 15, none⟩ = some (.map (some r)) ∧ W'.cell? ⟨w.heap.size, 0, none⟩ = some (.int .i64 pv) ∧ W'.cell? ⟨w.heap.size, 1, none⟩ = some (.int .i64 pn) ∧ W'.cell? ⟨w.heap.size, 2, none⟩ = some (.slice a1 l1 k1) ∧ W'.cell? ⟨w.heap.size, 3, none⟩ = some (.slice a2 l2 k2) ∧ (Instr.lookup 121 (.map (some r)) (.agg #[.int .i64 pv, .int .i64 pn]) true).run Tryz.prog W' = .ok (.tuple #[.agg #[.int .i64 ua, .int .i64 ub, .int .i64 uc, .int .i64 ud, .slice x1 y1 z1, .slice x2 y2 z2, .slice x3 y3 z3, .int .i64 ue], .bool is]) W') := fun W' h x => ⟨(h.cell (p := ⟨g, 15, none⟩) hg).trans hc, x.c4.1, x.c4.2.1, x.c4.2.2.1, x.c4.2.2.2, hL W' h⟩
  have HF : Hid (∀ W, Calls Tryz.prog 221 #[.agg #[.int .i64 pv, .int .i64 pn, .slice a1 l1 k1, .slice a2 l2 k2]] W fun e w' => e = .returned (.bool f) ∧ Below W.heap.size W w') := fun W => isFirst_any pv pn a1 a2 l1 k1 l2 k2 f hfr W
  have HB := below1 w (.cells #[.int .i64 pv, .int .i64 pn, .slice a1 l1 k1, .slice a2 l2 k2] 26)
  have hx := bx_new w 26 #[.int .i64 pv, .int .i64 pn, .slice a1 l1 k1, .slice a2 l2 k2]
  obtain ⟨w1, hw1⟩ : ∃ w1, w1 = w.alloc (.cells #[.int .i64 pv, .int .i64 pn, .slice a1 l1 k1, .slice a2 l2 k2] 26) := ⟨_, rfl⟩
  clear hg hc hL hfr
  go_enter Tryz.func195, Tryz.ntmps195
  go_wp2_with fail
  rw [← hw1] at HB hx ⊢
  clear hw1
  refine wp_region_noPanic ?_
  refine wp_region_held_drew (S := fun W' : World => W'.cell? ⟨g, 15, none⟩ = some (.map (some r)) ∧ W'.cell? ⟨w.heap.size, 0, none⟩ = some (.int .i64 pv) ∧ W'.cell? ⟨w.heap.size, 1, none⟩ = some (.int .i64 pn) ∧ W'.cell? ⟨w.heap.size, 2, none⟩ = some (.slice a1 l1 k1) ∧ W'.cell? ⟨w.heap.size, 3, none⟩ = some (.slice a2 l2 k2) ∧ (Instr.lookup 121 (.map (some r)) (.agg #[.int .i64 pv, .int .i64 pn]) true).run Tryz.prog W' = .ok (.tuple #[.agg #[.int .i64 ua, .int .i64 ub, .int .i64 uc, .int .i64 ud, .slice x1 y1 z1, .slice x2 y2 z2, .slice x3 y3 z3, .int .i64 ue], .bool is]) W') (by kernel_rfl) (FS.out _ HB.drew (Bx.of_block hx rfl)) (fun hS => ?_)
  replace HB := HB.drew
  replace hx : Bx w1.drew w.heap.size 26 #[.int .i64 pv, .int .i64 pn, .slice a1 l1 k1, .slice a2 l2 k2] := hx
  refine tkG 0 8 hS ?_
  try simp only [Act.put, List.setIfInBounds_toArray, List.set_cons_zero, List.set_cons_succ]
  refine tkG 1 9 hS ?_
  try simp only [Act.put, List.setIfInBounds_toArray, List.set_cons_zero, List.set_cons_succ]
  refine tkG 2 10 hS ?_
  try simp only [Act.put, List.setIfInBounds_toArray, List.set_cons_zero, List.set_cons_succ]
  refine tkG 3 11 hS ?_
  try simp only [Act.put, List.setIfInBounds_toArray, List.set_cons_zero, List.set_cons_succ]
  refine tkG 4 12 hS ?_
  try simp only [Act.put, List.setIfInBounds_toArray, List.set_cons_zero, List.set_cons_succ]
  revert hS
  revert hx
  revert HB
  generalize w1.drew = V
  intro HB hx hS
  refine wpAnyH_ready (rs := [5, 10]) (by kernel_rfl) (by simp) ?_
  refine AllReadyH.cons rfl (fun K hK => ?_) ?_
  go_simp
  refine (key_any pv pn a1 a2 l1 k1 l2 k2 _).mono ?_
  rintro e V1 ⟨rfl, hb⟩
  replace HB := HB.trans (hb.mono HB.size)
  replace hx := hx.below hb
  clear hS hb
  refine hK.out _ _ (FS.out _ HB hx) (fun hS => ?_)
  clear hK K
  try simp only [List.setIfInBounds_toArray, List.set_cons_zero, List.set_cons_succ]
  refine tkG 6 14 hS ?_
  try simp only [Act.put, List.setIfInBounds_toArray, List.set_cons_zero, List.set_cons_succ]
  refine tkG 7 7 hS ?_
  try simp only [Act.put, List.setIfInBounds_toArray, List.set_cons_zero, List.set_cons_succ]
  refine tkG 8 15 hS ?_
  try simp only [Act.put, List.setIfInBounds_toArray, List.set_cons_zero, List.set_cons_succ]
  refine tkG 9 16 hS ?_
  try simp only [Act.put, List.setIfInBounds_toArray, List.set_cons_zero, List.set_cons_succ]
  clear hS
  refine listed_asV (l' := #[true, true, true, true, true, true, true, true, true, true, false, false, false]) (by kernel_rfl) ?_
  revert hx
  revert HB
  revert V1
  clear V
  refine ?kn5
  rotate_left 1
  refine AllReadyH.cons rfl (fun K hK => ?_) AllReadyH.nil
  refine step_objX rfl 5 rfl (.cells #[.int .i64 0, .int .i64 0, .int .i64 0, .int .i64 0, .slice none 0 0, .slice none 0 0, .slice none 0 0, .int .i64 0] 34) (.pointer (some ⟨V.heap.size, 0, none⟩)) (by go_simp; (try rfl)) ?_
  have hl := HB.size
  have hz := bx_new V 34 #[.int .i64 0, .int .i64 0, .int .i64 0, .int .i64 0, .slice none 0 0, .slice none 0 0, .slice none 0 0, .int .i64 0]
  replace HB := HB.alloc HB.size (.cells #[.int .i64 0, .int .i64 0, .int .i64 0, .int .i64 0, .slice none 0 0, .slice none 0 0, .slice none 0 0, .int .i64 0] 34)
  replace hx := hx.below (below1 V (.cells #[.int .i64 0, .int .i64 0, .int .i64 0, .int .i64 0, .slice none 0 0, .slice none 0 0, .slice none 0 0, .int .i64 0] 34))
  clear hS
  refine hK.out _ _ (FS.out _ HB hx) (fun hS => ?_)
  clear hK K
  try simp only [List.setIfInBounds_toArray, List.set_cons_zero, List.set_cons_succ]
  revert hS
  revert hx
  revert HB
  revert hz
  revert hl
  generalize V.alloc (.cells #[.int .i64 0, .int .i64 0, .int .i64 0, .int .i64 0, .slice none 0 0, .slice none 0 0, .slice none 0 0, .int .i64 0] 34) = V1
  generalize V.heap.size = zb
  intro hl hz HB hx hS
  clear hS
  refine listed_asV (l' := #[true, true, true, true, true, false, false, false, false, false, true, false, false]) (by kernel_rfl) ?_
  revert hl
  revert hz
  revert hx
  revert HB
  revert zb
  revert V1
  clear V
  refine ?kn10
  rotate_left 1
  intro V0 HB hx
  have hS : (fun W' : World => W'.cell? ⟨g, 15, none⟩ = some (.map (some r)) ∧ W'.cell? ⟨w.heap.size, 0, none⟩ = some (.int .i64 pv) ∧ W'.cell? ⟨w.heap.size, 1, none⟩ = some (.int .i64 pn) ∧ W'.cell? ⟨w.heap.size, 2, none⟩ = some (.slice a1 l1 k1) ∧ W'.cell? ⟨w.heap.size, 3, none⟩ = some (.slice a2 l2 k2) ∧ (Instr.lookup 121 (.map (some r)) (.agg #[.int .i64 pv, .int .i64 pn]) true).run Tryz.prog W' = .ok (.tuple #[.agg #[.int .i64 ua, .int .i64 ub, .int .i64 uc, .int .i64 ud, .slice x1 y1 z1, .slice x2 y2 z2, .slice x3 y3 z3, .int .i64 ue], .bool is]) W') V0 := (FS.out _ HB hx)
  refine wpAnyH_ready (rs := [10]) (by kernel_rfl) (by simp) ?_
  refine AllReadyH.cons rfl (fun K hK => ?_) AllReadyH.nil
  refine step_objX rfl 5 rfl (.cells #[.int .i64 0, .int .i64 0, .int .i64 0, .int .i64 0, .slice none 0 0, .slice none 0 0, .slice none 0 0, .int .i64 0] 34) (.pointer (some ⟨V0.heap.size, 0, none⟩)) (by go_simp; (try rfl)) ?_
  have hl := HB.size
  have hz := bx_new V0 34 #[.int .i64 0, .int .i64 0, .int .i64 0, .int .i64 0, .slice none 0 0, .slice none 0 0, .slice none 0 0, .int .i64 0]
  replace HB := HB.alloc HB.size (.cells #[.int .i64 0, .int .i64 0, .int .i64 0, .int .i64 0, .slice none 0 0, .slice none 0 0, .slice none 0 0, .int .i64 0] 34)
  replace hx := hx.below (below1 V0 (.cells #[.int .i64 0, .int .i64 0, .int .i64 0, .int .i64 0, .slice none 0 0, .slice none 0 0, .slice none 0 0, .int .i64 0] 34))
  clear hS
  refine hK.out _ _ (FS.out _ HB hx) (fun hS => ?_)
  clear hK K
  try simp only [List.setIfInBounds_toArray, List.set_cons_zero, List.set_cons_succ]
  revert hS
  revert hx
  revert HB
  revert hz
  revert hl
  generalize V0.alloc (.cells #[.int .i64 0, .int .i64 0, .int .i64 0, .int .i64 0, .slice none 0 0, .slice none 0 0, .slice none 0 0, .int .i64 0] 34) = V1
  generalize V0.heap.size = zb
  intro hl hz HB hx hS
  clear hS
  refine listed_asV (l' := #[true, true, true, true, true, true, true, true, true, true, true, false, false]) (by kernel_rfl) ?_
  revert hl
  revert hz
  revert hx
  revert HB
  revert zb
  revert V1
  clear V0
  refine ?kn510
  rotate_left 1
  intro V0 zb HB hx hz hl
  have hS : (fun W' : World => W'.cell? ⟨g, 15, none⟩ = some (.map (some r)) ∧ W'.cell? ⟨w.heap.size, 0, none⟩ = some (.int .i64 pv) ∧ W'.cell? ⟨w.heap.size, 1, none⟩ = some (.int .i64 pn) ∧ W'.cell? ⟨w.heap.size, 2, none⟩ = some (.slice a1 l1 k1) ∧ W'.cell? ⟨w.heap.size, 3, none⟩ = some (.slice a2 l2 k2) ∧ (Instr.lookup 121 (.map (some r)) (.agg #[.int .i64 pv, .int .i64 pn]) true).run Tryz.prog W' = .ok (.tuple #[.agg #[.int .i64 ua, .int .i64 ub, .int .i64 uc, .int .i64 ud, .slice x1 y1 z1, .slice x2 y2 z2, .slice x3 y3 z3, .int .i64 ue], .bool is]) W') V0 := (FS.out _ HB hx)
  refine wpAnyH_ready (rs := [5]) (by kernel_rfl) (by simp) ?_
  refine AllReadyH.cons rfl (fun K hK => ?_) AllReadyH.nil
  go_simp
  refine (key_any pv pn a1 a2 l1 k1 l2 k2 _).mono ?_
  rintro e V1 ⟨rfl, hb⟩
  replace HB := HB.trans (hb.mono HB.size)
  replace hx := hx.below hb
  replace hz := hz.below hb
  clear hS hb
  refine hK.out _ _ (FS.out _ HB hx) (fun hS => ?_)
  clear hK K
  try simp only [List.setIfInBounds_toArray, List.set_cons_zero, List.set_cons_succ]
  refine tkG 6 14 hS ?_
  try simp only [Act.put, List.setIfInBounds_toArray, List.set_cons_zero, List.set_cons_succ]
  refine tkG 7 7 hS ?_
  try simp only [Act.put, List.setIfInBounds_toArray, List.set_cons_zero, List.set_cons_succ]
  refine tkG 8 15 hS ?_
  try simp only [Act.put, List.setIfInBounds_toArray, List.set_cons_zero, List.set_cons_succ]
  refine tkG 9 16 hS ?_
  try simp only [Act.put, List.setIfInBounds_toArray, List.set_cons_zero, List.set_cons_succ]
  clear hS
  refine listed_asV (l' := #[true, true, true, true, true, true, true, true, true, true, true, false, false]) (by kernel_rfl) ?_
  revert hl
  revert hz
  revert hx
  revert HB
  revert zb
  revert V1
  clear V0
  exact ?kn510
  intro V0 zb HB hx hz hl
  have hS : (fun W' : World => W'.cell? ⟨g, 15, none⟩ = some (.map (some r)) ∧ W'.cell? ⟨w.heap.size, 0, none⟩ = some (.int .i64 pv) ∧ W'.cell? ⟨w.heap.size, 1, none⟩ = some (.int .i64 pn) ∧ W'.cell? ⟨w.heap.size, 2, none⟩ = some (.slice a1 l1 k1) ∧ W'.cell? ⟨w.heap.size, 3, none⟩ = some (.slice a2 l2 k2) ∧ (Instr.lookup 121 (.map (some r)) (.agg #[.int .i64 pv, .int .i64 pn]) true).run Tryz.prog W' = .ok (.tuple #[.agg #[.int .i64 ua, .int .i64 ub, .int .i64 uc, .int .i64 ud, .slice x1 y1 z1, .slice x2 y2 z2, .slice x3 y3 z3, .int .i64 ue], .bool is]) W') V0 := (FS.out _ HB hx)
  refine wpAnyH_ready (rs := [11]) (by kernel_rfl) (by simp) ?_
  refine AllReadyH.cons rfl (fun K hK => ?_) AllReadyH.nil
  obtain ⟨c0, c1, c2, c3, c4, c5, c6, c7⟩ := hz.c8
  obtain ⟨f0, f1, f2, f3, f4, f5, f6, f7⟩ := hz.f8
  have HNE : Hid (w.heap.size ≠ zb) := fun e => by have h1 := hx; rw [e] at h1; unfold Bx at h1 hz; rw [h1] at hz; injection hz with hz; injection hz with _ h2; exact absurd h2 (by decide)
  go_simp
  clear c0 c1 c2 c3 c4 c5 c6 c7 f0 f1 f2 f3 f4 f5 f6 f7 hS
  replace HB : Below w.heap.size w (World.setCell (World.setCell (World.setCell (World.setCell (World.setCell (World.setCell (World.setCell (World.setCell V0 ⟨zb, 0, none⟩ (.int .i64 ua)) ⟨zb, 1, none⟩ (.int .i64 ub)) ⟨zb, 2, none⟩ (.int .i64 uc)) ⟨zb, 3, none⟩ (.int .i64 ud)) ⟨zb, 4, none⟩ (.slice x1 y1 z1)) ⟨zb, 5, none⟩ (.slice x2 y2 z2)) ⟨zb, 6, none⟩ (.slice x3 y3 z3)) ⟨zb, 7, none⟩ (.int .i64 ue)) := ((((((((HB.setCell (p := ⟨zb, 0, none⟩) hl _).setCell (p := ⟨zb, 1, none⟩) hl _).setCell (p := ⟨zb, 2, none⟩) hl _).setCell (p := ⟨zb, 3, none⟩) hl _).setCell (p := ⟨zb, 4, none⟩) hl _).setCell (p := ⟨zb, 5, none⟩) hl _).setCell (p := ⟨zb, 6, none⟩) hl _).setCell (p := ⟨zb, 7, none⟩) hl _)
  replace hx : Bx (World.setCell (World.setCell (World.setCell (World.setCell (World.setCell (World.setCell (World.setCell (World.setCell V0 ⟨zb, 0, none⟩ (.int .i64 ua)) ⟨zb, 1, none⟩ (.int .i64 ub)) ⟨zb, 2, none⟩ (.int .i64 uc)) ⟨zb, 3, none⟩ (.int .i64 ud)) ⟨zb, 4, none⟩ (.slice x1 y1 z1)) ⟨zb, 5, none⟩ (.slice x2 y2 z2)) ⟨zb, 6, none⟩ (.slice x3 y3 z3)) ⟨zb, 7, none⟩ (.int .i64 ue)) w.heap.size 26 #[.int .i64 pv, .int .i64 pn, .slice a1 l1 k1, .slice a2 l2 k2] := (Bx.other (c := zb) (j := 7) (Bx.other (c := zb) (j := 6) (Bx.other (c := zb) (j := 5) (Bx.other (c := zb) (j := 4) (Bx.other (c := zb) (j := 3) (Bx.other (c := zb) (j := 2) (Bx.other (c := zb) (j := 1) (Bx.other (c := zb) (j := 0) hx HNE.out) HNE.out) HNE.out) HNE.out) HNE.out) HNE.out) HNE.out) HNE.out)
  refine hK.out _ _ (FS.out _ HB hx) (fun hS => ?_)
  clear hK K
  try simp only [List.setIfInBounds_toArray, List.set_cons_zero, List.set_cons_succ]
  clear hz hl HNE
  revert hS
  revert hx
  revert HB
  generalize (World.setCell (World.setCell (World.setCell (World.setCell (World.setCell (World.setCell (World.setCell (World.setCell V0 ⟨zb, 0, none⟩ (.int .i64 ua)) ⟨zb, 1, none⟩ (.int .i64 ub)) ⟨zb, 2, none⟩ (.int .i64 uc)) ⟨zb, 3, none⟩ (.int .i64 ud)) ⟨zb, 4, none⟩ (.slice x1 y1 z1)) ⟨zb, 5, none⟩ (.slice x2 y2 z2)) ⟨zb, 6, none⟩ (.slice x3 y3 z3)) ⟨zb, 7, none⟩ (.int .i64 ue)) = V1
  intro HB hx hS
  refine tkG 12 6 hS ?_
  try simp only [Act.put, List.setIfInBounds_toArray, List.set_cons_zero, List.set_cons_succ]
  clear hS
  refine listed_asV (l' := #[true, true, true, true, true, true, true, true, true, true, true, true, true]) (by kernel_rfl) ?_
  revert hx
  revert HB
  revert V1
  clear V0
  refine ?kn51011
  rotate_left 1
  intro V0 HB hx
  have hS : (fun W' : World => W'.cell? ⟨g, 15, none⟩ = some (.map (some r)) ∧ W'.cell? ⟨w.heap.size, 0, none⟩ = some (.int .i64 pv) ∧ W'.cell? ⟨w.heap.size, 1, none⟩ = some (.int .i64 pn) ∧ W'.cell? ⟨w.heap.size, 2, none⟩ = some (.slice a1 l1 k1) ∧ W'.cell? ⟨w.heap.size, 3, none⟩ = some (.slice a2 l2 k2) ∧ (Instr.lookup 121 (.map (some r)) (.agg #[.int .i64 pv, .int .i64 pn]) true).run Tryz.prog W' = .ok (.tuple #[.agg #[.int .i64 ua, .int .i64 ub, .int .i64 uc, .int .i64 ud, .slice x1 y1 z1, .slice x2 y2 z2, .slice x3 y3 z3, .int .i64 ue], .bool is]) W') V0 := (FS.out _ HB hx)
  refine wpAnyH_done (by kernel_rfl) ?_ _
  refine NoPanic.normal ?_
  clear hS
  obtain ⟨p0, p1, p2, p3⟩ := hx.c4
  cases is with
  | true =>
    go_wp2
    go_ret
    exact ⟨rfl, HB⟩
  | false =>
  go_wp2_with fail
  refine (HF.out _).mono ?_
  rintro e w5 ⟨rfl, hb5⟩
  have bz := HB.trans (hb5.mono HB.size)
  clear hb5 p0 p1 p2 p3 hx HB
  go_wp2
  go_ret
  exact ⟨rfl, bz⟩
end Go.Proofs.YtilhaokiohbeeaaGreatDoor
-- UNF Gen
namespace Go.Proofs.YtilhaokiohbeeaaGreatDoor
open Go.RowKit
/-- Where a number stands first. -/
def IdxN (w : World) (bs : List Int) (x : Int) (e : Ending) (w' : World) : Prop :=
  w' = w ∧ ((∃ j : Nat, j < bs.length ∧ bs.getD j 0 = x ∧ e = .returned (.int .i64 (j : Int))) ∨ (x ∉ bs ∧ e = .returned (.int .i64 (-1))))
set_option maxHeartbeats 1000000 in
set_option maxRecDepth 100000 in
theorem idxN_any (v : Value) (bs : List Int) (x : Int) (w : World) (hr : RdI w v bs) :
    Calls Tryz.prog 199 #[v, .int .i64 x] w fun e w' => IdxN w bs x e w' := by
  obtain ⟨a, cap, hv, hl, hm, -, hc⟩ := hr
  unfold maxLen at hm
  obtain ⟨nn, hnn⟩ : ∃ nn, nn = bs.length := ⟨_, rfl⟩
  rw [← hnn] at hv hl
  have HNN : Hid (nn = bs.length) := hnn
  have HC : Hid (bs = [] ∨ ∃ b off, a = some ⟨b, off, none⟩ ∧ ∀ i (h : i < bs.length), w.cell? ⟨b, off + i, none⟩ = some (.int .i64 bs[i])) := hc
  subst hv
  clear hnn hc
  go_enter Tryz.func199, Tryz.ntmps199
  go_wp2
  go_loopw [8] (fun i wr => ∃ k : Nat, k ≤ nn ∧ i = .int .i64 k ∧ wr = w ∧ Hid (∀ i, i < k → bs.getD i 0 ≠ x)) (fun i _ => nn - (intOf i).toNat)
  case atStart => exact ⟨0, Nat.zero_le _, rfl, rfl, fun i hi => by omega⟩
  case round =>
    obtain ⟨k, hk, rfl, rfl, HN⟩ := hrel
    by_cases hlt : k < nn
    · have hkc : k < cap := by omega
      obtain ⟨b, off, rfl, hck⟩ : ∃ b off, a = some ⟨b, off, none⟩ ∧ wr.cell? ⟨b, off + k, none⟩ = some (.int .i64 (bs.getD k 0)) := by
        have hkl : k < bs.length := by rw [← HNN.out]; exact hlt
        rcases HC.out with e | ⟨b, off, ha, hcc⟩
        · rw [e] at hkl; simp at hkl
        · exact ⟨b, off, ha, by rw [hcc k hkl]; simp [List.getD, List.getElem?_eq_getElem hkl]⟩
      by_cases hx : x = bs.getD k 0
      · have END : Hid (IdxN wr bs x (.returned (.int .i64 (k : Int))) wr) := ⟨rfl, .inl ⟨k, by rw [← HNN.out]; exact hlt, hx.symm, rfl⟩⟩
        generalize bs.getD k 0 = y at hck hx
        subst hx
        clear HN HC
        go_wp2
        go_ret
        exact END.out
      · have HN2 : Hid (∀ i, i < k + 1 → bs.getD i 0 ≠ x) := fun i hi e => by
          by_cases hik : i = k
          · rw [hik] at e; exact hx e.symm
          · exact HN.out i (by omega) e
        generalize bs.getD k 0 = y at hck hx
        clear HN HC
        go_wp2
        go_roundw
        case rel => exact ⟨k + 1, by omega, by go_num, by simp, HN2⟩
        case measure => simp [intOf]; omega
    · have hke : k = nn := by omega
      have END : Hid (IdxN wr bs x (.returned (.int .i64 (-1))) wr) := by
        refine ⟨rfl, .inr ⟨fun hm => ?_, rfl⟩⟩
        obtain ⟨i, hi, e⟩ := List.getElem_of_mem hm
        exact HN.out i (by rw [hke, HNN.out]; exact hi) (by simp [List.getD, List.getElem?_eq_getElem hi, e])
      clear HN HC
      go_wp2
      go_ret
      exact END.out
set_option maxHeartbeats 1000000 in
set_option maxRecDepth 100000 in
theorem conN_any (v : Value) (bs : List Int) (x : Int) (w : World) (hr : RdI w v bs) :
    Calls Tryz.prog 197 #[v, .int .i64 x] w fun e w' => e = .returned (.bool (decide (x ∈ bs))) ∧ w' = w := by
  have HI : Hid (Calls Tryz.prog 199 #[v, .int .i64 x] w fun e w' => IdxN w bs x e w') := idxN_any v bs x w hr
  clear hr
  go_enter Tryz.func197, Tryz.ntmps197
  go_wp2_with fail
  refine HI.out.mono ?_
  rintro e w2 ⟨hw, hz⟩
  subst hw
  rcases hz with ⟨j, hj, hx, rfl⟩ | ⟨hx, rfl⟩
  · have hm : decide (x ∈ bs) = true := by
      rw [decide_eq_true_iff, ← hx]
      simp [List.getD, List.getElem?_eq_getElem hj]
    clear hx
    go_wp2
    go_ret
    rw [hm]
    exact ⟨rfl, rfl⟩
  · have hm : decide (x ∈ bs) = false := decide_eq_false hx
    clear hx
    go_wp2
    go_ret
    rw [hm]
    exact ⟨rfl, rfl⟩
end Go.Proofs.YtilhaokiohbeeaaGreatDoor
-- UNF Gen
namespace Go.Proofs.YtilhaokiohbeeaaGreatDoor
open Go.RowKit
theorem Bx.c17 {w : World} {b t : Nat} {u0 u1 u2 u3 u4 u5 u6 u7 u8 u9 u10 u11 u12 u13 u14 u15 u16 : Value} (h : Bx w b t #[u0, u1, u2, u3, u4, u5, u6, u7, u8, u9, u10, u11, u12, u13, u14, u15, u16]) : w.cell? ⟨b, 0, none⟩ = some u0 ∧ w.cell? ⟨b, 1, none⟩ = some u1 ∧ w.cell? ⟨b, 2, none⟩ = some u2 ∧ w.cell? ⟨b, 3, none⟩ = some u3 ∧ w.cell? ⟨b, 4, none⟩ = some u4 ∧ w.cell? ⟨b, 5, none⟩ = some u5 ∧ w.cell? ⟨b, 6, none⟩ = some u6 ∧ w.cell? ⟨b, 7, none⟩ = some u7 ∧ w.cell? ⟨b, 8, none⟩ = some u8 ∧ w.cell? ⟨b, 9, none⟩ = some u9 ∧ w.cell? ⟨b, 10, none⟩ = some u10 ∧ w.cell? ⟨b, 11, none⟩ = some u11 ∧ w.cell? ⟨b, 12, none⟩ = some u12 ∧ w.cell? ⟨b, 13, none⟩ = some u13 ∧ w.cell? ⟨b, 14, none⟩ = some u14 ∧ w.cell? ⟨b, 15, none⟩ = some u15 ∧ w.cell? ⟨b, 16, none⟩ = some u16 := ⟨h.cell 0 rfl, h.cell 1 rfl, h.cell 2 rfl, h.cell 3 rfl, h.cell 4 rfl, h.cell 5 rfl, h.cell 6 rfl, h.cell 7 rfl, h.cell 8 rfl, h.cell 9 rfl, h.cell 10 rfl, h.cell 11 rfl, h.cell 12 rfl, h.cell 13 rfl, h.cell 14 rfl, h.cell 15 rfl, h.cell 16 rfl⟩
/-- A voter: its Replica, the names' row, the map's block and what it holds, what it sends. -/
structure Vt where
  X : RepX
  vnm : Value
  mb : Nat
  Ms : List BlX
  vst : Value
def vtN (V : Vt) : List Int := V.X.bs.map (fun x => namN x.b)
structure VtA (w0 W : World) (g : Nat) (V : Vt) : Prop where
  bel : Below w0.heap.size w0 W
  ge : w0.heap.size ≤ g
  mge : w0.heap.size ≤ V.mb
  box : Bx W g 123 #[.int .i64 V.X.idn, .int .i64 V.X.n, .int .i64 V.X.vw, .int .i64 V.X.vo, .int .i64 V.X.lo, .int .i64 V.X.pr, .int .i64 V.X.hi.p.vw, .int .i64 V.X.hi.p.nm, V.X.hi.vs, V.X.hi.vt, V.X.vb, V.X.vv, V.X.vn, V.X.vd, V.vnm, .map (some V.mb), V.vst]
  bl : OwnBs W w0.heap.size V.X.vb V.X.bs
  ib : InOB W w0.heap.size V.X.bs
  nm : OwnI W w0.heap.size V.vnm (vtN V)
  nod : (bblks V.X.bs ++ oneB V.vnm).Nodup
  mp : ∃ es c, W.heap[V.mb]? = some (.map es c) ∧ MapR es V.Ms
  im : InBs w0 V.Ms
  eqb : V.Ms.map (·.b) = V.X.bs.map (·.b)
  uni : (vtN V).Nodup
  fit : ∀ X ∈ V.X.bs, FitBl X.b
  sm : SmB V.X.bs
  len : V.X.bs.length ≤ 60
theorem VtA.next {w0 W W' : World} {g : Nat} {V : Vt} (h : VtA w0 W g V) (hb : Below W.heap.size W W') : VtA w0 W' g V := by
  obtain ⟨es, c, hm, hr⟩ := h.mp
  exact ⟨h.bel.trans (hb.mono h.bel.size), h.ge, h.mge, h.box.below hb, h.bl.below hb, h.ib.below hb, h.nm.below hb, h.nod, ⟨es, c, (hb.block _ (Array.getElem?_eq_some_iff.1 hm).1).trans hm, hr⟩, h.im, h.eqb, h.uni, h.fit, h.sm, h.len⟩
theorem VtA.fitM {w0 W : World} {g : Nat} {V : Vt} (h : VtA w0 W g V) : FitMs V.Ms := fun M hM => by
  have : M.b ∈ V.X.bs.map (·.b) := by rw [← h.eqb]; exact List.mem_map.2 ⟨M, hM, rfl⟩
  obtain ⟨X, hX, hb⟩ := List.mem_map.1 this
  rw [← hb]
  exact (h.fit X hX).vw
theorem VtA.uniM {w0 W : World} {g : Nat} {V : Vt} (h : VtA w0 W g V) : ∀ M ∈ V.Ms, ∀ M' ∈ V.Ms, namN M.b = namN M'.b → M = M' := by
  have hn : (V.Ms.map (fun x => namN x.b)).Nodup := by
    have e1 : V.Ms.map (fun x => namN x.b) = (V.Ms.map (·.b)).map namN := by simp
    have e2 : vtN V = (V.X.bs.map (·.b)).map namN := by simp [vtN]
    rw [e1, h.eqb, ← e2]
    exact h.uni
  intro M hM M' hM' e
  obtain ⟨i, hi, rfl⟩ := List.getElem_of_mem hM
  obtain ⟨j, hj, rfl⟩ := List.getElem_of_mem hM'
  have hp := List.pairwise_iff_getElem.1 hn
  rcases Nat.lt_trichotomy i j with hij | hij | hij
  · exact absurd (by rw [List.getElem_map, List.getElem_map]; exact e) (hp i j (by simpa using hi) (by simpa using hj) hij)
  · subst hij; rfl
  · exact absurd (by rw [List.getElem_map, List.getElem_map]; exact e.symm) (hp j i (by simpa using hj) (by simpa using hi) hij)
theorem fnd_any (bs : List Blk) (nm vw : Int) : (fndB bs nm vw).isSome = bs.any (isB nm vw) := by
  unfold fndB
  exact List.findIdx?_isSome
theorem VtA.fnd {w0 W : World} {g : Nat} {V : Vt} (h : VtA w0 W g V) (nm vw : Int) : (fndB (bsOf V.X.bs) nm vw).isSome = V.Ms.any (fun M => isB nm vw M.b) := by
  have e : bsOf V.X.bs = V.Ms.map (·.b) := h.eqb.symm
  rw [fnd_any, e, List.any_map]
  rfl
theorem VtA.lt {w0 W : World} {g : Nat} {V : Vt} (h : VtA w0 W g V) : g < W.heap.size := h.box.lt
theorem RdPr.sls {w : World} {X : PrX} (h : RdPr w X) : ∃ a1 k1 a2 k2, X.vs = .slice a1 X.p.sv.length k1 ∧ X.vt = .slice a2 X.p.tg.length k2 ∧ X.p.sv.length ≤ k1 ∧ k1 ≤ maxLen ∧ X.p.tg.length ≤ k2 ∧ k2 ≤ maxLen := by
  obtain ⟨a1, k1, h1, l1, m1, -⟩ := h.sv
  obtain ⟨a2, k2, h2, l2, m2, -⟩ := h.tg
  exact ⟨a1, k1, a2, k2, h1, h2, l1, m1, l2, m2⟩
theorem knowsV_any {w0 W : World} {g : Nat} {V : Vt} (P : PrX) (h : VtA w0 W g V) (hp : RdPr W P) (hf : FitPr P.p) :
    Calls Tryz.prog 195 #[.pointer (some ⟨g, 0, none⟩), .agg #[.int .i64 P.p.vw, .int .i64 P.p.nm, P.vs, P.vt]] W fun e w' => e = .returned (.bool (knoB (bsOf V.X.bs) P.p)) ∧ Below W.heap.size W w' := by
  obtain ⟨a1, k1, a2, k2, e1, e2, -, -, -, -⟩ := hp.sls
  obtain ⟨es, c, hm, hr⟩ := h.mp
  have hc : W.cell? ⟨g, 15, none⟩ = some (.map (some V.mb)) := h.box.c17.2.2.2.2.2.2.2.2.2.2.2.2.2.2.2.1
  have hkeep : ∀ W', Below W.heap.size W W' → W'.heap[V.mb]? = some (.map es c) := fun W' hb => (hb.block _ (Array.getElem?_eq_some_iff.1 hm).1).trans hm
  rw [e1, e2]
  rcases look_any hr h.fitM h.uniM P.p.vw P.p.nm hf.vw hf.nm with ⟨M, hM, hb, hL⟩ | ⟨hno, hL⟩
  · obtain ⟨x1, y1, z1, x2, y2, z2, x3, y3, z3, f1, f2, f3⟩ := (h.im M hM).slices
    have hk := knows_at g V.mb P.p.vw P.p.nm a1 a2 P.p.sv.length k1 P.p.tg.length k2 M.b.vw M.b.pa M.b.p.vw M.b.p.nm M.b.sv x1 x2 x3 y1 z1 y2 z2 y3 z3 true (frsB P.p) W h.lt hc (fun W' hbw => by have := hL W' V.mb c (hkeep W' hbw); unfold BsA at this; rw [f1, f2, f3] at this; exact this) rfl
    refine hk.mono fun e w' ⟨he, hbw⟩ => ⟨?_, hbw⟩
    have : (fndB (bsOf V.X.bs) P.p.nm P.p.vw).isSome = true := by
      rw [h.fnd, List.any_eq_true]
      exact ⟨M, hM, hb⟩
    rw [he]; unfold knoB; rw [this]; simp
  · have hk := knows_at g V.mb P.p.vw P.p.nm a1 a2 P.p.sv.length k1 P.p.tg.length k2 0 0 0 0 0 none none none 0 0 0 0 0 0 false (frsB P.p) W h.lt hc (fun W' hbw => hL W' V.mb c (hkeep W' hbw)) rfl
    refine hk.mono fun e w' ⟨he, hbw⟩ => ⟨?_, hbw⟩
    have : (fndB (bsOf V.X.bs) P.p.nm P.p.vw).isSome = false := by
      rw [h.fnd, List.any_eq_false]
      intro M hM
      simp [hno M hM]
    rw [he]; unfold knoB; rw [this]; simp
end Go.Proofs.YtilhaokiohbeeaaGreatDoor
