/- Over a Replica without lists: the program's voterOf, ReplicaOk, NewReplica. -/
-- UNF Gen
import Derived.Test.YtilhaokiohbeeabGreatDoorNrpNum
import Derived.Test.YtilhaokiohbeeabGreatDoorNrpKno
namespace Go.Proofs.YtilhaokiohbeeabGreatDoor
open Go.RowKit
set_option maxHeartbeats 4000000 in
set_option maxRecDepth 100000 in
theorem proofOkV_zero (g r c : Nat) (n : Int) (w : World) (hs : srvB n = true) (hg : g < w.heap.size) (hn : w.cell? ⟨g, 1, none⟩ = some (.int .i64 n)) (hc : w.cell? ⟨g, 15, none⟩ = some (.map (some r))) (hm : w.heap[r]? = some (.map #[] c)) :
    Calls Tryz.prog 131 #[.pointer (some ⟨g, 0, none⟩), .agg #[.int .i64 0, .int .i64 0, .slice none 0 0, .slice none 0 0]] w fun e w' => e = .returned (.bool true) ∧ Below w.heap.size w w' := by
  have hr : r < w.heap.size := (Array.getElem?_eq_some_iff.1 hm).1
  have FS : Hid (∀ W', Below w.heap.size w W' → Bx W' w.heap.size 52 #[.int .i64 0, .int .i64 0, .slice none 0 0, .slice none 0 0] → W'.cell? ⟨g, 1, none⟩ = some (.int .i64 n) ∧ W'.cell? ⟨w.heap.size, 0, none⟩ = some (.int .i64 0) ∧ W'.cell? ⟨w.heap.size, 1, none⟩ = some (.int .i64 0) ∧ W'.cell? ⟨w.heap.size, 2, none⟩ = some (.slice none 0 0) ∧ W'.cell? ⟨w.heap.size, 3, none⟩ = some (.slice none 0 0)) := fun W' h x => ⟨(h.cell (p := ⟨g, 1, none⟩) hg).trans hn, x.c4.1, x.c4.2.1, x.c4.2.2.1, x.c4.2.2.2⟩
  have HKN : Hid (∀ V, Below w.heap.size w V → Calls Tryz.prog 165 #[.pointer (some ⟨g, 0, none⟩), .agg #[.int .i64 0, .int .i64 0, .slice none 0 0, .slice none 0 0]] V fun e w' => e = .returned (.bool true) ∧ Below V.heap.size V w') := fun V h => knows_zero g r c V (Nat.lt_of_lt_of_le hg h.size) ((h.cell (p := ⟨g, 15, none⟩) hg).trans hc) ((h.block r hr).trans hm)
  have HPO : Hid (∀ V, Calls Tryz.prog 168 #[.agg #[.int .i64 0, .int .i64 0, .slice none 0 0, .slice none 0 0], .int .i64 n] V fun e w' => e = .returned (.bool true) ∧ Below V.heap.size V w') := fun V => proofOk_zero n hs V
  have HB := below1 w (.cells #[.int .i64 0, .int .i64 0, .slice none 0 0, .slice none 0 0] 52)
  have hx := bx_new w 52 #[.int .i64 0, .int .i64 0, .slice none 0 0, .slice none 0 0]
  obtain ⟨w1, hw1⟩ : ∃ w1, w1 = w.alloc (.cells #[.int .i64 0, .int .i64 0, .slice none 0 0, .slice none 0 0] 52) := ⟨_, rfl⟩
  clear hg hc hm hr hn hs
  go_enter Tryz.func131, Tryz.ntmps131
  go_wp2_with fail
  rw [← hw1] at HB hx ⊢
  clear hw1
  refine wp_region_noPanic ?_
  refine wp_region_held_drew (S := fun W' : World => W'.cell? ⟨g, 1, none⟩ = some (.int .i64 n) ∧ W'.cell? ⟨w.heap.size, 0, none⟩ = some (.int .i64 0) ∧ W'.cell? ⟨w.heap.size, 1, none⟩ = some (.int .i64 0) ∧ W'.cell? ⟨w.heap.size, 2, none⟩ = some (.slice none 0 0) ∧ W'.cell? ⟨w.heap.size, 3, none⟩ = some (.slice none 0 0)) (by kernel_rfl) (FS.out _ HB.drew (Bx.of_block hx rfl)) (fun h0 => ?_)
  refine tkG 0 5 h0 ?_
  try simp only [Act.put, List.setIfInBounds_toArray, List.set_cons_zero, List.set_cons_succ]
  refine tkG 1 6 h0 ?_
  try simp only [Act.put, List.setIfInBounds_toArray, List.set_cons_zero, List.set_cons_succ]
  refine tkG 2 7 h0 ?_
  try simp only [Act.put, List.setIfInBounds_toArray, List.set_cons_zero, List.set_cons_succ]
  refine tkG 3 8 h0 ?_
  try simp only [Act.put, List.setIfInBounds_toArray, List.set_cons_zero, List.set_cons_succ]
  refine tkG 4 9 h0 ?_
  try simp only [Act.put, List.setIfInBounds_toArray, List.set_cons_zero, List.set_cons_succ]
  refine tkG 5 10 h0 ?_
  try simp only [Act.put, List.setIfInBounds_toArray, List.set_cons_zero, List.set_cons_succ]
  refine wpAnyH_ready (rs := [6]) (by kernel_rfl) (by simp) ?_
  refine AllReadyH.cons rfl (fun K hK => ?_) AllReadyH.nil
  go_simp
  refine (HPO.out _).mono ?_
  rintro e w2 ⟨rfl, hb2⟩
  have HB2 := HB.drew.trans (hb2.mono HB.drew.size)
  have hx2 := Bx.below (w := w1.drew) (b := w.heap.size) (t := 52) (cs := #[.int .i64 0, .int .i64 0, .slice none 0 0, .slice none 0 0]) hx hb2
  refine hK.out _ _ ((FS.out _ HB2 hx2)) (fun h1 => ?_)
  clear hK K
  try simp only [Act.put, List.setIfInBounds_toArray, List.set_cons_zero, List.set_cons_succ]
  clear h0
  refine tkG 7 12 h1 ?_
  try simp only [Act.put, List.setIfInBounds_toArray, List.set_cons_zero, List.set_cons_succ]
  refine tkG 8 13 h1 ?_
  try simp only [Act.put, List.setIfInBounds_toArray, List.set_cons_zero, List.set_cons_succ]
  refine tkG 9 14 h1 ?_
  try simp only [Act.put, List.setIfInBounds_toArray, List.set_cons_zero, List.set_cons_succ]
  refine wpAnyH_ready (rs := [10]) (by kernel_rfl) (by simp) ?_
  refine AllReadyH.cons rfl (fun K hK => ?_) AllReadyH.nil
  go_simp
  refine (HKN.out _ HB2).mono ?_
  rintro e w3 ⟨rfl, hb3⟩
  have HB3 := HB2.trans (hb3.mono HB2.size)
  have hx3 := hx2.below hb3
  refine hK.out _ _ ((FS.out _ HB3 hx3)) (fun h2 => ?_)
  clear hK K
  try simp only [Act.put, List.setIfInBounds_toArray, List.set_cons_zero, List.set_cons_succ]
  clear h1
  refine tkG 11 16 h2 ?_
  try simp only [Act.put, List.setIfInBounds_toArray, List.set_cons_zero, List.set_cons_succ]
  refine tkG 12 4 h2 ?_
  try simp only [Act.put, List.setIfInBounds_toArray, List.set_cons_zero, List.set_cons_succ]
  refine wpAnyH_done (by kernel_rfl) ?_ _
  refine NoPanic.normal ?_
  go_wp2
  go_ret
  exact ⟨rfl, HB3⟩
set_option maxHeartbeats 4000000 in
set_option maxRecDepth 100000 in
theorem doneOk_nil (g : Nat) (w : World) (hc : w.cell? ⟨g, 13, none⟩ = some (.slice none 0 0)) :
    Calls Tryz.prog 132 #[.pointer (some ⟨g, 0, none⟩)] w fun e w' => e = .returned (.bool true) ∧ w' = w := by
  go_enter Tryz.func132, Tryz.ntmps132
  go_wp2
  refine wp_loop_rounds 1 ?_
  rw [rounds_succ]
  go_wp2
  go_ret
  exact ⟨rfl, rfl⟩
set_option maxHeartbeats 4000000 in
set_option maxRecDepth 100000 in
theorem proofCopied_zero (w : World) :
    Calls Tryz.prog 133 #[.agg #[.int .i64 0, .int .i64 0, .slice none 0 0, .slice none 0 0]] w fun e w' => (∃ a1 n1 c1 a2 n2 c2, e = .returned (.agg #[.int .i64 0, .int .i64 0, .slice a1 n1 c1, .slice a2 n2 c2])) ∧ Below w.heap.size w w' := by
  have FS : Hid (∀ W', Below w.heap.size w W' → Bx W' w.heap.size 52 #[.int .i64 0, .int .i64 0, .slice none 0 0, .slice none 0 0] → W'.cell? ⟨w.heap.size, 0, none⟩ = some (.int .i64 0) ∧ W'.cell? ⟨w.heap.size, 1, none⟩ = some (.int .i64 0) ∧ W'.cell? ⟨w.heap.size, 2, none⟩ = some (.slice none 0 0) ∧ W'.cell? ⟨w.heap.size, 3, none⟩ = some (.slice none 0 0)) := fun W' h x => x.c4
  have HB := below2 w (.cells #[.int .i64 0, .int .i64 0, .slice none 0 0, .slice none 0 0] 52) (.cells #[.int .i64 0, .int .i64 0, .slice none 0 0, .slice none 0 0] 52)
  have hx := (bx_new w 52 #[.int .i64 0, .int .i64 0, .slice none 0 0, .slice none 0 0]).below (below1 _ (.cells #[.int .i64 0, .int .i64 0, .slice none 0 0, .slice none 0 0] 52))
  have hy := bx_new (w.alloc (.cells #[.int .i64 0, .int .i64 0, .slice none 0 0, .slice none 0 0] 52)) 52 #[.int .i64 0, .int .i64 0, .slice none 0 0, .slice none 0 0]
  rw [show (w.alloc (.cells #[.int .i64 0, .int .i64 0, .slice none 0 0, .slice none 0 0] 52)).heap.size = w.heap.size + 1 by simp] at hy
  obtain ⟨w1, hw1⟩ : ∃ w1, w1 = (w.alloc (.cells #[.int .i64 0, .int .i64 0, .slice none 0 0, .slice none 0 0] 52)).alloc (.cells #[.int .i64 0, .int .i64 0, .slice none 0 0, .slice none 0 0] 52) := ⟨_, rfl⟩
  go_enter Tryz.func133, Tryz.ntmps133
  go_wp2_with fail
  rw [← hw1] at HB hx hy ⊢
  clear hw1
  refine wp_region_noPanic ?_
  refine wp_region_held_drew (S := fun W' : World => W'.cell? ⟨w.heap.size, 0, none⟩ = some (.int .i64 0) ∧ W'.cell? ⟨w.heap.size, 1, none⟩ = some (.int .i64 0) ∧ W'.cell? ⟨w.heap.size, 2, none⟩ = some (.slice none 0 0) ∧ W'.cell? ⟨w.heap.size, 3, none⟩ = some (.slice none 0 0)) (by kernel_rfl) (FS.out _ HB.drew (Bx.of_block hx rfl)) (fun h0 => ?_)
  refine tkG 0 3 h0 ?_
  try simp only [Act.put, List.setIfInBounds_toArray, List.set_cons_zero, List.set_cons_succ]
  refine tkG 1 4 h0 ?_
  try simp only [Act.put, List.setIfInBounds_toArray, List.set_cons_zero, List.set_cons_succ]
  refine tkG 2 5 h0 ?_
  try simp only [Act.put, List.setIfInBounds_toArray, List.set_cons_zero, List.set_cons_succ]
  refine tkG 3 6 h0 ?_
  try simp only [Act.put, List.setIfInBounds_toArray, List.set_cons_zero, List.set_cons_succ]
  refine tkG 4 7 h0 ?_
  try simp only [Act.put, List.setIfInBounds_toArray, List.set_cons_zero, List.set_cons_succ]
  refine tkG 5 8 h0 ?_
  try simp only [Act.put, List.setIfInBounds_toArray, List.set_cons_zero, List.set_cons_succ]
  refine tkG 7 10 h0 ?_
  try simp only [Act.put, List.setIfInBounds_toArray, List.set_cons_zero, List.set_cons_succ]
  refine tkG 8 11 h0 ?_
  try simp only [Act.put, List.setIfInBounds_toArray, List.set_cons_zero, List.set_cons_succ]
  refine wpAnyH_ready (rs := [6]) (by kernel_rfl) (by simp) ?_
  refine AllReadyH.cons rfl (fun K hK => ?_) AllReadyH.nil
  go_simp
  refine (copiedInts_nil _).mono ?_
  rintro e w2 ⟨⟨u1, rfl, a1, n1, c1, rfl⟩, hb2⟩
  have HB2 := HB.drew.trans (hb2.mono HB.drew.size)
  have hx2 := Bx.below (w := w1.drew) (b := w.heap.size) (t := 52) (cs := #[.int .i64 0, .int .i64 0, .slice none 0 0, .slice none 0 0]) hx hb2
  have hy2 := Bx.below (w := w1.drew) (b := w.heap.size + 1) (t := 52) (cs := #[.int .i64 0, .int .i64 0, .slice none 0 0, .slice none 0 0]) hy hb2
  refine hK.out _ _ ((FS.out _ HB2 hx2)) (fun h1 => ?_)
  clear hK K
  try simp only [Act.put, List.setIfInBounds_toArray, List.set_cons_zero, List.set_cons_succ]
  clear h0
  refine wpAnyH_ready (rs := [9]) (by kernel_rfl) (by simp) ?_
  refine AllReadyH.cons rfl (fun K hK => ?_) AllReadyH.nil
  go_simp
  refine (copiedInts_nil _).mono ?_
  rintro e w3 ⟨⟨u2, rfl, a2, n2, c2, rfl⟩, hb3⟩
  have HB3 := HB2.trans (hb3.mono HB2.size)
  have hx3 := hx2.below hb3
  have hy3 := hy2.below hb3
  obtain ⟨e0, e1, e2, e3⟩ := hy3.c4
  obtain ⟨f0, f1, f2, f3⟩ := hy3.f4
  refine hK.out _ _ ((FS.out _ HB3 hx3)) (fun h2 => ?_)
  clear hK K
  try simp only [Act.put, List.setIfInBounds_toArray, List.set_cons_zero, List.set_cons_succ]
  clear h1
  refine tkG 10 13 h2 ?_
  try simp only [Act.put, List.setIfInBounds_toArray, List.set_cons_zero, List.set_cons_succ]
  refine wpAnyH_ready (rs := [11]) (by kernel_rfl) (by simp) ?_
  refine AllReadyH.cons rfl (fun K hK => ?_) AllReadyH.nil
  go_simp
  have HB4 : Below w.heap.size w (World.setCell (World.setCell (World.setCell (World.setCell w3 ⟨(w.heap.size + 1), 0, none⟩ (.int .i64 0)) ⟨(w.heap.size + 1), 1, none⟩ (.int .i64 0)) ⟨(w.heap.size + 1), 2, none⟩ (.slice a1 n1 c1)) ⟨(w.heap.size + 1), 3, none⟩ (.slice a2 n2 c2)) := ((((HB3.setCell (p := ⟨w.heap.size + 1, 0, none⟩) (Nat.le_succ _) _).setCell (p := ⟨w.heap.size + 1, 1, none⟩) (Nat.le_succ _) _).setCell (p := ⟨w.heap.size + 1, 2, none⟩) (Nat.le_succ _) _).setCell (p := ⟨w.heap.size + 1, 3, none⟩) (Nat.le_succ _) _)
  have hx4 : Bx (World.setCell (World.setCell (World.setCell (World.setCell w3 ⟨(w.heap.size + 1), 0, none⟩ (.int .i64 0)) ⟨(w.heap.size + 1), 1, none⟩ (.int .i64 0)) ⟨(w.heap.size + 1), 2, none⟩ (.slice a1 n1 c1)) ⟨(w.heap.size + 1), 3, none⟩ (.slice a2 n2 c2)) w.heap.size 52 #[.int .i64 0, .int .i64 0, .slice none 0 0, .slice none 0 0] := (Bx.other (c := w.heap.size + 1) (j := 3) (Bx.other (c := w.heap.size + 1) (j := 2) (Bx.other (c := w.heap.size + 1) (j := 1) (Bx.other (c := w.heap.size + 1) (j := 0) hx3 (Nat.ne_of_lt (Nat.lt_succ_self _))) (Nat.ne_of_lt (Nat.lt_succ_self _))) (Nat.ne_of_lt (Nat.lt_succ_self _))) (Nat.ne_of_lt (Nat.lt_succ_self _)))
  have hy4 : Bx (World.setCell (World.setCell (World.setCell (World.setCell w3 ⟨(w.heap.size + 1), 0, none⟩ (.int .i64 0)) ⟨(w.heap.size + 1), 1, none⟩ (.int .i64 0)) ⟨(w.heap.size + 1), 2, none⟩ (.slice a1 n1 c1)) ⟨(w.heap.size + 1), 3, none⟩ (.slice a2 n2 c2)) (w.heap.size + 1) 52 #[.int .i64 0, .int .i64 0, .slice a1 n1 c1, .slice a2 n2 c2] := by have h := (((hy3.set 0 (.int .i64 0)).set 1 (.int .i64 0)).set 2 (.slice a1 n1 c1)).set 3 (.slice a2 n2 c2); simpa using h
  refine hK.out _ _ ((FS.out _ HB4 hx4)) (fun h3 => ?_)
  clear hK K
  try simp only [Act.put, List.setIfInBounds_toArray, List.set_cons_zero, List.set_cons_succ]
  clear h2
  refine wpAnyH_done (by kernel_rfl) ?_ _
  refine NoPanic.normal ?_
  go_wp2
  have q := hy4.c4
  refine bodyPost_ret (v := .agg #[.int .i64 0, .int .i64 0, .slice a1 n1 c1, .slice a2 n2 c2]) (by obtain ⟨q0, q1, q2, q3⟩ := q; simp [results, Tryz.results133, go_sem, q0, q1, q2, q3]) rfl ⟨⟨_, _, _, _, _, _, rfl⟩, HB4⟩
end Go.Proofs.YtilhaokiohbeeabGreatDoor
