/- Over a Replica without lists: the program's voterOf. -/
-- UNF Gen
import Derived.Test.YtilhaokiohbeeabGreatDoorNrpVo1
import Derived.Carry
namespace Go.Proofs.YtilhaokiohbeeabGreatDoor
open Go.RowKit
/-- What voterOf's walk carries: the argument's box, its own block, the map without an entry. -/
structure VO (w W : World) (CLL : Array Value) (g : Nat) (cs : Array Value) : Prop where
  below : Below w.heap.size w W
  arg : Bx W w.heap.size 81 CLL
  own : Bx W g 147 cs
  mp : W.heap[w.heap.size + 1]? = some (.map #[] 0)
  hg : w.heap.size + 1 < g
theorem VO.next {w W W' : World} {CLL cs : Array Value} {g : Nat} (h : VO w W CLL g cs) (hb : Below W.heap.size W W') : VO w W' CLL g cs :=
  ⟨h.below.trans (hb.mono h.below.size), h.arg.below hb, h.own.below hb, (hb.block _ (Array.getElem?_eq_some_iff.1 h.mp).1).trans h.mp, h.hg⟩
theorem VO.drew {w W : World} {CLL cs : Array Value} {g : Nat} (h : VO w W CLL g cs) : VO w W.drew CLL g cs :=
  ⟨h.below.drew, h.arg.of_block rfl, h.own.of_block rfl, h.mp, h.hg⟩
theorem VO.set {w W : World} {CLL cs : Array Value} {g : Nat} (h : VO w W CLL g cs) (i : Nat) (u : Value) : VO w (W.setCell ⟨g, i, none⟩ u) CLL g (cs.setIfInBounds i u) :=
  have hg := h.hg
  ⟨h.below.setCell (p := ⟨g, i, none⟩) (by show w.heap.size ≤ g; omega) _, h.arg.other (by omega), h.own.set i u, (heap_setCell_other W ⟨g, i, none⟩ (w.heap.size + 1) u (by show w.heap.size + 1 ≠ g; omega)).trans h.mp, h.hg⟩
theorem vo_new (w : World) (d n : Int) : VO w ((((w.alloc (.cells #[.int .i64 d, .int .i64 n, .int .i64 1, .int .i64 0, .int .i64 0, .int .i64 0, .int .i64 0, .int .i64 0, .slice none 0 0, .slice none 0 0, .slice none 0 0, .slice none 0 0, .slice none 0 0, .slice none 0 0] 81)).alloc (.map #[] 0)).alloc (.cells #[] 57)).alloc (.cells #[.int .i64 d, .int .i64 n, .int .i64 1, .int .i64 0, .int .i64 0, .int .i64 0, .int .i64 0, .int .i64 0, .slice none 0 0, .slice none 0 0, .slice none 0 0, .slice none 0 0, .slice none 0 0, .slice none 0 0, .slice none 0 0, .map (some (w.heap.size + 1)), .slice (some ⟨w.heap.size + 1 + 1, 0, none⟩) 0 0] 147)) #[.int .i64 d, .int .i64 n, .int .i64 1, .int .i64 0, .int .i64 0, .int .i64 0, .int .i64 0, .int .i64 0, .slice none 0 0, .slice none 0 0, .slice none 0 0, .slice none 0 0, .slice none 0 0, .slice none 0 0] (w.heap.size + 1 + 1 + 1) #[.int .i64 d, .int .i64 n, .int .i64 1, .int .i64 0, .int .i64 0, .int .i64 0, .int .i64 0, .int .i64 0, .slice none 0 0, .slice none 0 0, .slice none 0 0, .slice none 0 0, .slice none 0 0, .slice none 0 0, .slice none 0 0, .map (some (w.heap.size + 1)), .slice (some ⟨w.heap.size + 1 + 1, 0, none⟩) 0 0] := by
  have h1 := bx_new w 81 #[.int .i64 d, .int .i64 n, .int .i64 1, .int .i64 0, .int .i64 0, .int .i64 0, .int .i64 0, .int .i64 0, .slice none 0 0, .slice none 0 0, .slice none 0 0, .slice none 0 0, .slice none 0 0, .slice none 0 0]
  refine ⟨(((below1 _ _).alloc (by simp) _).alloc (by simp; omega) _).alloc (by simp; omega) _, ?_, ?_, ?_, by omega⟩
  · exact ((h1.below (below1 _ _)).below (below1 _ _)).below (below1 _ _)
  · have h := bx_new (((w.alloc (.cells #[.int .i64 d, .int .i64 n, .int .i64 1, .int .i64 0, .int .i64 0, .int .i64 0, .int .i64 0, .int .i64 0, .slice none 0 0, .slice none 0 0, .slice none 0 0, .slice none 0 0, .slice none 0 0, .slice none 0 0] 81)).alloc (.map #[] 0)).alloc (.cells #[] 57)) 147 #[.int .i64 d, .int .i64 n, .int .i64 1, .int .i64 0, .int .i64 0, .int .i64 0, .int .i64 0, .int .i64 0, .slice none 0 0, .slice none 0 0, .slice none 0 0, .slice none 0 0, .slice none 0 0, .slice none 0 0, .slice none 0 0, .map (some (w.heap.size + 1)), .slice (some ⟨w.heap.size + 1 + 1, 0, none⟩) 0 0]
    simpa using h
  · have h : (((w.alloc (.cells #[.int .i64 d, .int .i64 n, .int .i64 1, .int .i64 0, .int .i64 0, .int .i64 0, .int .i64 0, .int .i64 0, .slice none 0 0, .slice none 0 0, .slice none 0 0, .slice none 0 0, .slice none 0 0, .slice none 0 0] 81)).alloc (.map #[] 0)).heap[(w.alloc (.cells #[.int .i64 d, .int .i64 n, .int .i64 1, .int .i64 0, .int .i64 0, .int .i64 0, .int .i64 0, .int .i64 0, .slice none 0 0, .slice none 0 0, .slice none 0 0, .slice none 0 0, .slice none 0 0, .slice none 0 0] 81)).heap.size]?) = some (.map #[] 0) := heap_alloc_new _ _
    rw [show (w.alloc (.cells #[.int .i64 d, .int .i64 n, .int .i64 1, .int .i64 0, .int .i64 0, .int .i64 0, .int .i64 0, .int .i64 0, .slice none 0 0, .slice none 0 0, .slice none 0 0, .slice none 0 0, .slice none 0 0, .slice none 0 0] 81)).heap.size = w.heap.size + 1 by simp] at h
    have l1 : w.heap.size + 1 < ((w.alloc (.cells #[.int .i64 d, .int .i64 n, .int .i64 1, .int .i64 0, .int .i64 0, .int .i64 0, .int .i64 0, .int .i64 0, .slice none 0 0, .slice none 0 0, .slice none 0 0, .slice none 0 0, .slice none 0 0, .slice none 0 0] 81)).alloc (.map #[] 0)).heap.size := (Array.getElem?_eq_some_iff.1 h).1
    exact ((below1 _ _).block _ (by simp)).trans (((below1 _ _).block _ l1).trans h)
set_option maxHeartbeats 4000000 in
set_option maxRecDepth 100000 in
theorem voterOf_no (d n : Int) (h : nrB d n = false) (w : World) :
    Calls Tryz.prog 87 #[.agg #[.int .i64 d, .int .i64 n, .int .i64 1, .int .i64 0, .int .i64 0, .int .i64 0, .int .i64 0, .int .i64 0, .slice none 0 0, .slice none 0 0, .slice none 0 0, .slice none 0 0, .slice none 0 0, .slice none 0 0]] w fun e w' => (∃ p, e = .returned (.tuple #[p, .bool false])) ∧ Below w.heap.size w w' := by
  have HN : Hid (∀ V, Calls Tryz.prog 128 #[.agg #[.int .i64 d, .int .i64 n, .int .i64 1, .int .i64 0, .int .i64 0, .int .i64 0, .int .i64 0, .int .i64 0, .slice none 0 0, .slice none 0 0, .slice none 0 0, .slice none 0 0, .slice none 0 0, .slice none 0 0]] V fun e w' => e = .returned (.bool false) ∧ Below V.heap.size V w') := fun V => by
    cases hs : srvB n with
    | false => exact numbersOk_no d n hs V
    | true => exact numbersOk_srv d n false hs (by unfold nrB at h; rw [hs] at h; exact h) V
  clear h
  have hmm := @run_makeMap Tryz.prog
  go_enter Tryz.func87, Tryz.ntmps87
  go_wp2_with fail
  refine (HN.out _).mono ?_
  rintro e w2 ⟨rfl, hb2⟩
  go_wp2
  refine bodyPost_ret (v := .tuple #[.pointer (some ⟨w.heap.size + 1 + 1 + 1, 0, none⟩), .bool false]) (by simp [results, Tryz.results87, go_sem]) rfl ⟨⟨_, rfl⟩, Below.trans ?_ (hb2.mono ?_)⟩
  · exact (((below1 _ _).alloc (by simp) _).alloc (by simp; omega) _).alloc (by simp; omega) _
  · simp; omega
set_option maxHeartbeats 4000000 in
set_option maxRecDepth 100000 in
theorem voterOf_yes (d n : Int) (h : nrB d n = true) (w : World) :
    Calls Tryz.prog 87 #[.agg #[.int .i64 d, .int .i64 n, .int .i64 1, .int .i64 0, .int .i64 0, .int .i64 0, .int .i64 0, .int .i64 0, .slice none 0 0, .slice none 0 0, .slice none 0 0, .slice none 0 0, .slice none 0 0, .slice none 0 0]] w fun e w' => (∃ p, e = .returned (.tuple #[p, .bool true])) ∧ Below w.heap.size w w' := by
  have hs : srvB n = true := by unfold nrB at h; simp at h; exact h.1
  have HN : Hid (∀ V, Calls Tryz.prog 128 #[.agg #[.int .i64 d, .int .i64 n, .int .i64 1, .int .i64 0, .int .i64 0, .int .i64 0, .int .i64 0, .int .i64 0, .slice none 0 0, .slice none 0 0, .slice none 0 0, .slice none 0 0, .slice none 0 0, .slice none 0 0]] V fun e w' => e = .returned (.bool true) ∧ Below V.heap.size V w') := fun V => numbersOk_srv d n true hs (by unfold nrB at h; rw [hs] at h; exact h) V
  have HH : Hid (∀ V, Calls Tryz.prog 129 #[.agg #[.int .i64 d, .int .i64 n, .int .i64 1, .int .i64 0, .int .i64 0, .int .i64 0, .int .i64 0, .int .i64 0, .slice none 0 0, .slice none 0 0, .slice none 0 0, .slice none 0 0, .slice none 0 0, .slice none 0 0]] V fun e w' => e = .returned (.bool true) ∧ Below V.heap.size V w') := fun V => heardOk_nil d n V
  have HP : Hid (∀ g r c V, g < V.heap.size → V.cell? ⟨g, 1, none⟩ = some (.int .i64 n) → V.cell? ⟨g, 15, none⟩ = some (.map (some r)) → V.heap[r]? = some (.map #[] c) → Calls Tryz.prog 131 #[.pointer (some ⟨g, 0, none⟩), .agg #[.int .i64 0, .int .i64 0, .slice none 0 0, .slice none 0 0]] V fun e w' => e = .returned (.bool true) ∧ Below V.heap.size V w') := fun g r c V h1 h2 h3 h4 => proofOkV_zero g r c n V hs h1 h2 h3 h4
  have FSA : Hid (∀ {g cs} W', VO w W' #[.int .i64 d, .int .i64 n, .int .i64 1, .int .i64 0, .int .i64 0, .int .i64 0, .int .i64 0, .int .i64 0, .slice none 0 0, .slice none 0 0, .slice none 0 0, .slice none 0 0, .slice none 0 0, .slice none 0 0] g cs → W'.cell? ⟨w.heap.size, 6, none⟩ = some (.int .i64 0) ∧ W'.cell? ⟨w.heap.size, 7, none⟩ = some (.int .i64 0) ∧ W'.cell? ⟨w.heap.size, 8, none⟩ = some (.slice none 0 0) ∧ W'.cell? ⟨w.heap.size, 9, none⟩ = some (.slice none 0 0) ∧ W'.cell? ⟨w.heap.size, 13, none⟩ = some (.slice none 0 0)) := fun W' V => ⟨V.arg.cell 6 rfl, V.arg.cell 7 rfl, V.arg.cell 8 rfl, V.arg.cell 9 rfl, V.arg.cell 13 rfl⟩
  have FSB : Hid (∀ {g cs} W', VO w W' #[.int .i64 d, .int .i64 n, .int .i64 1, .int .i64 0, .int .i64 0, .int .i64 0, .int .i64 0, .int .i64 0, .slice none 0 0, .slice none 0 0, .slice none 0 0, .slice none 0 0, .slice none 0 0, .slice none 0 0] g cs → W'.cell? ⟨w.heap.size, 11, none⟩ = some (.slice none 0 0) ∧ W'.cell? ⟨w.heap.size, 12, none⟩ = some (.slice none 0 0)) := fun W' V => ⟨V.arg.cell 11 rfl, V.arg.cell 12 rfl⟩
  have V0 := vo_new w d n
  obtain ⟨w1, hw1⟩ : ∃ w1, w1 = ((((w.alloc (.cells #[.int .i64 d, .int .i64 n, .int .i64 1, .int .i64 0, .int .i64 0, .int .i64 0, .int .i64 0, .int .i64 0, .slice none 0 0, .slice none 0 0, .slice none 0 0, .slice none 0 0, .slice none 0 0, .slice none 0 0] 81)).alloc (.map #[] 0)).alloc (.cells #[] 57)).alloc (.cells #[.int .i64 d, .int .i64 n, .int .i64 1, .int .i64 0, .int .i64 0, .int .i64 0, .int .i64 0, .int .i64 0, .slice none 0 0, .slice none 0 0, .slice none 0 0, .slice none 0 0, .slice none 0 0, .slice none 0 0, .slice none 0 0, .map (some (w.heap.size + 1)), .slice (some ⟨w.heap.size + 1 + 1, 0, none⟩) 0 0] 147)) := ⟨_, rfl⟩
  clear h hs
  have hmm := @run_makeMap Tryz.prog
  go_enter Tryz.func87, Tryz.ntmps87
  go_wp2_with fail
  rw [← hw1] at V0 ⊢
  clear hw1 hmm
  refine (HN.out _).mono ?_
  rintro e w2 ⟨rfl, hb2⟩
  have V2 := V0.next hb2
  clear V0 hb2
  have a0 := V2.arg.cell 0 rfl
  have a1 := V2.arg.cell 1 rfl
  have a2 := V2.arg.cell 2 rfl
  have a3 := V2.arg.cell 3 rfl
  have a4 := V2.arg.cell 4 rfl
  have a5 := V2.arg.cell 5 rfl
  have a6 := V2.arg.cell 6 rfl
  have a7 := V2.arg.cell 7 rfl
  have a8 := V2.arg.cell 8 rfl
  have a9 := V2.arg.cell 9 rfl
  have a10 := V2.arg.cell 10 rfl
  have a11 := V2.arg.cell 11 rfl
  have a12 := V2.arg.cell 12 rfl
  have a13 := V2.arg.cell 13 rfl
  go_wp2_with fail
  refine (HH.out _).mono ?_
  rintro e w3 ⟨rfl, hb3⟩
  clear a0 a1 a2 a3 a4 a5 a6 a7 a8 a9 a10 a11 a12 a13
  have V3 := (V2.next hb3).next (below1 w3 (.cells #[] 54))
  have V4 : VO w ((w3.alloc (.cells #[] 54)).setCell ⟨w.heap.size + 1 + 1 + 1, 10, none⟩ (.slice (some ⟨w3.heap.size, 0, none⟩) 0 0)) #[.int .i64 d, .int .i64 n, .int .i64 1, .int .i64 0, .int .i64 0, .int .i64 0, .int .i64 0, .int .i64 0, .slice none 0 0, .slice none 0 0, .slice none 0 0, .slice none 0 0, .slice none 0 0, .slice none 0 0] (w.heap.size + 1 + 1 + 1) #[.int .i64 d, .int .i64 n, .int .i64 1, .int .i64 0, .int .i64 0, .int .i64 0, .int .i64 0, .int .i64 0, .slice none 0 0, .slice none 0 0, .slice (some ⟨w3.heap.size, 0, none⟩) 0 0, .slice none 0 0, .slice none 0 0, .slice none 0 0, .slice none 0 0, .map (some (w.heap.size + 1)), .slice (some ⟨w.heap.size + 1 + 1, 0, none⟩) 0 0] := V3.set 10 (.slice (some ⟨w3.heap.size, 0, none⟩) 0 0)
  clear V2 hb3
  have c10 := V3.own.cell 10 rfl
  have f10 := V3.own.fz 10
  have a6 := V4.arg.cell 6 rfl
  have a7 := V4.arg.cell 7 rfl
  have a8 := V4.arg.cell 8 rfl
  have a9 := V4.arg.cell 9 rfl
  have a10 := V4.arg.cell 10 rfl
  go_wp2
  refine wp_loop_rounds 1 ?_
  rw [rounds_succ]
  go_wp2_with fail
  refine (HP.out (w.heap.size + 1 + 1 + 1) (w.heap.size + 1) 0 _ (by have := V4.own.lt; exact this) (V4.own.cell 1 rfl) (V4.own.cell 15 rfl) V4.mp).mono ?_
  rintro e w5 ⟨rfl, hb5⟩
  have V5 := V4.next hb5
  clear V3 V4 hb5 c10 f10 a6 a7 a8 a9 a10
  go_wp2_with fail
  refine (doneOk_nil (w.heap.size + 1 + 1 + 1) _ (V5.own.cell 13 rfl)).mono ?_
  rintro e w6 ⟨rfl, hw6⟩
  subst hw6
  have V6 : VO w w6 #[.int .i64 d, .int .i64 n, .int .i64 1, .int .i64 0, .int .i64 0, .int .i64 0, .int .i64 0, .int .i64 0, .slice none 0 0, .slice none 0 0, .slice none 0 0, .slice none 0 0, .slice none 0 0, .slice none 0 0] (w.heap.size + 1 + 1 + 1) #[.int .i64 d, .int .i64 n, .int .i64 1, .int .i64 0, .int .i64 0, .int .i64 0, .int .i64 0, .int .i64 0, .slice none 0 0, .slice none 0 0, .slice (some ⟨w3.heap.size, 0, none⟩) 0 0, .slice none 0 0, .slice none 0 0, .slice none 0 0, .slice none 0 0, .map (some (w.heap.size + 1)), .slice (some ⟨w.heap.size + 1 + 1, 0, none⟩) 0 0] := V5
  clear V5
  go_wp2_with fail
  refine wp_region_noPanic ?_
  refine wp_region_held_drew (S := fun W' : World => W'.cell? ⟨w.heap.size, 6, none⟩ = some (.int .i64 0) ∧ W'.cell? ⟨w.heap.size, 7, none⟩ = some (.int .i64 0) ∧ W'.cell? ⟨w.heap.size, 8, none⟩ = some (.slice none 0 0) ∧ W'.cell? ⟨w.heap.size, 9, none⟩ = some (.slice none 0 0) ∧ W'.cell? ⟨w.heap.size, 13, none⟩ = some (.slice none 0 0)) (by kernel_rfl) (FSA.out _ V6.drew) (fun h0 => ?_)
  refine tkG 0 50 h0 ?_
  try simp only [Act.put, List.setIfInBounds_toArray, List.set_cons_zero, List.set_cons_succ]
  refine tkG 1 51 h0 ?_
  try simp only [Act.put, List.setIfInBounds_toArray, List.set_cons_zero, List.set_cons_succ]
  refine tkG 2 52 h0 ?_
  try simp only [Act.put, List.setIfInBounds_toArray, List.set_cons_zero, List.set_cons_succ]
  refine tkG 3 53 h0 ?_
  try simp only [Act.put, List.setIfInBounds_toArray, List.set_cons_zero, List.set_cons_succ]
  refine tkG 5 55 h0 ?_
  try simp only [Act.put, List.setIfInBounds_toArray, List.set_cons_zero, List.set_cons_succ]
  refine tkG 6 56 h0 ?_
  try simp only [Act.put, List.setIfInBounds_toArray, List.set_cons_zero, List.set_cons_succ]
  refine wpAnyH_ready (rs := [4]) (by kernel_rfl) (by simp) ?_
  refine AllReadyH.cons rfl (fun K hK => ?_) AllReadyH.nil
  go_simp
  refine (proofCopied_zero _).mono ?_
  rintro e w7 ⟨⟨b1, m1, l1, b2, m2, l2, rfl⟩, hb7⟩
  have V7 := V6.drew.next hb7
  refine hK.out _ _ ((FSA.out _ V7)) (fun h1 => ?_)
  clear hK K
  try simp only [Act.put, List.setIfInBounds_toArray, List.set_cons_zero, List.set_cons_succ]
  clear h0
  refine wpAnyH_ready (rs := [7]) (by kernel_rfl) (by simp) ?_
  refine AllReadyH.cons rfl (fun K hK => ?_) AllReadyH.nil
  go_simp
  refine (copiedInts_nil _).mono ?_
  rintro e w8 ⟨⟨_, rfl, a1, n1, k1, rfl⟩, hb8⟩
  have V8 := V7.next hb8
  have c6 := V8.own.cell 6 rfl
  have f6 := V8.own.fz 6
  have c7 := V8.own.cell 7 rfl
  have f7 := V8.own.fz 7
  have c8 := V8.own.cell 8 rfl
  have f8 := V8.own.fz 8
  have c9 := V8.own.cell 9 rfl
  have f9 := V8.own.fz 9
  refine hK.out _ _ ((FSA.out _ V8)) (fun h2 => ?_)
  clear hK K
  try simp only [Act.put, List.setIfInBounds_toArray, List.set_cons_zero, List.set_cons_succ]
  clear h1
  refine tkG 8 58 h2 ?_
  try simp only [Act.put, List.setIfInBounds_toArray, List.set_cons_zero, List.set_cons_succ]
  refine tkG 9 59 h2 ?_
  try simp only [Act.put, List.setIfInBounds_toArray, List.set_cons_zero, List.set_cons_succ]
  refine tkG 10 60 h2 ?_
  try simp only [Act.put, List.setIfInBounds_toArray, List.set_cons_zero, List.set_cons_succ]
  refine wpAnyH_ready (rs := [11]) (by kernel_rfl) (by simp) ?_
  refine AllReadyH.cons rfl (fun K hK => ?_) AllReadyH.nil
  go_simp
  have V9 := (((V8.set 6 (.int .i64 0)).set 7 (.int .i64 0)).set 8 (.slice b1 m1 l1)).set 9 (.slice b2 m2 l2)
  clear c6 f6 c7 f7 c8 f8 c9 f9
  have c13 := V9.own.cell 13 rfl
  have f13 := V9.own.fz 13
  refine hK.out _ _ ((FSA.out _ V9)) (fun h3 => ?_)
  clear hK K
  try simp only [Act.put, List.setIfInBounds_toArray, List.set_cons_zero, List.set_cons_succ]
  clear h2
  refine tkG 12 61 h3 ?_
  try simp only [Act.put, List.setIfInBounds_toArray, List.set_cons_zero, List.set_cons_succ]
  refine tkG 13 62 h3 ?_
  try simp only [Act.put, List.setIfInBounds_toArray, List.set_cons_zero, List.set_cons_succ]
  refine tkG 14 63 h3 ?_
  try simp only [Act.put, List.setIfInBounds_toArray, List.set_cons_zero, List.set_cons_succ]
  refine wpAnyH_ready (rs := [15]) (by kernel_rfl) (by simp) ?_
  refine AllReadyH.cons rfl (fun K hK => ?_) AllReadyH.nil
  go_simp
  have V10 := V9.set 13 (.slice a1 n1 k1)
  clear c13 f13
  refine hK.out _ _ ((FSA.out _ V10)) (fun h4 => ?_)
  clear hK K
  try simp only [Act.put, List.setIfInBounds_toArray, List.set_cons_zero, List.set_cons_succ]
  clear h3
  refine wpAnyH_done (by kernel_rfl) ?_ _
  refine NoPanic.normal ?_
  have V11 : VO w (World.setCell (World.setCell (World.setCell (World.setCell (World.setCell w8 ⟨w.heap.size + 1 + 1 + 1, 6, none⟩ (.int .i64 0)) ⟨w.heap.size + 1 + 1 + 1, 7, none⟩ (.int .i64 0)) ⟨w.heap.size + 1 + 1 + 1, 8, none⟩ (.slice b1 m1 l1)) ⟨w.heap.size + 1 + 1 + 1, 9, none⟩ (.slice b2 m2 l2)) ⟨w.heap.size + 1 + 1 + 1, 13, none⟩ (.slice a1 n1 k1)) #[.int .i64 d, .int .i64 n, .int .i64 1, .int .i64 0, .int .i64 0, .int .i64 0, .int .i64 0, .int .i64 0, .slice none 0 0, .slice none 0 0, .slice none 0 0, .slice none 0 0, .slice none 0 0, .slice none 0 0] (w.heap.size + 1 + 1 + 1) #[.int .i64 d, .int .i64 n, .int .i64 1, .int .i64 0, .int .i64 0, .int .i64 0, .int .i64 0, .int .i64 0, .slice b1 m1 l1, .slice b2 m2 l2, .slice (some ⟨w3.heap.size, 0, none⟩) 0 0, .slice none 0 0, .slice none 0 0, .slice a1 n1 k1, .slice none 0 0, .map (some (w.heap.size + 1)), .slice (some ⟨w.heap.size + 1 + 1, 0, none⟩) 0 0] := V10
  clear V6 V7 V8 V9 V10
  try clear h4
  revert V11
  generalize (World.setCell (World.setCell (World.setCell (World.setCell (World.setCell w8 ⟨w.heap.size + 1 + 1 + 1, 6, none⟩ (.int .i64 0)) ⟨w.heap.size + 1 + 1 + 1, 7, none⟩ (.int .i64 0)) ⟨w.heap.size + 1 + 1 + 1, 8, none⟩ (.slice b1 m1 l1)) ⟨w.heap.size + 1 + 1 + 1, 9, none⟩ (.slice b2 m2 l2)) ⟨w.heap.size + 1 + 1 + 1, 13, none⟩ (.slice a1 n1 k1)) = W11
  intro V11
  go_wp2_with fail
  refine wp_region_noPanic ?_
  refine wp_region_held_drew (S := fun W' : World => W'.cell? ⟨w.heap.size, 11, none⟩ = some (.slice none 0 0) ∧ W'.cell? ⟨w.heap.size, 12, none⟩ = some (.slice none 0 0)) (by kernel_rfl) (FSB.out _ V11.drew) (fun y0 => ?_)
  refine tkG 0 64 y0 ?_
  try simp only [Act.put, List.setIfInBounds_toArray, List.set_cons_zero, List.set_cons_succ]
  refine tkG 1 65 y0 ?_
  try simp only [Act.put, List.setIfInBounds_toArray, List.set_cons_zero, List.set_cons_succ]
  refine tkG 2 66 y0 ?_
  try simp only [Act.put, List.setIfInBounds_toArray, List.set_cons_zero, List.set_cons_succ]
  refine tkG 3 67 y0 ?_
  try simp only [Act.put, List.setIfInBounds_toArray, List.set_cons_zero, List.set_cons_succ]
  refine tkG 5 69 y0 ?_
  try simp only [Act.put, List.setIfInBounds_toArray, List.set_cons_zero, List.set_cons_succ]
  refine tkG 6 70 y0 ?_
  try simp only [Act.put, List.setIfInBounds_toArray, List.set_cons_zero, List.set_cons_succ]
  refine wpAnyH_ready (rs := [4]) (by kernel_rfl) (by simp) ?_
  refine AllReadyH.cons rfl (fun K hK => ?_) AllReadyH.nil
  go_simp
  refine (copiedVotes_nil _).mono ?_
  rintro e w12 ⟨⟨_, rfl, a2, n2, k2, rfl⟩, hb12⟩
  have V12 := V11.drew.next hb12
  refine hK.out _ _ ((FSB.out _ V12)) (fun y1 => ?_)
  clear hK K
  try simp only [Act.put, List.setIfInBounds_toArray, List.set_cons_zero, List.set_cons_succ]
  clear y0
  refine wpAnyH_ready (rs := [7]) (by kernel_rfl) (by simp) ?_
  refine AllReadyH.cons rfl (fun K hK => ?_) AllReadyH.nil
  go_simp
  refine (copiedNews_nil _).mono ?_
  rintro e w13 ⟨⟨_, rfl, a3, n3, k3, rfl⟩, hb13⟩
  have V13 := V12.next hb13
  have c11 := V13.own.cell 11 rfl
  have f11 := V13.own.fz 11
  refine hK.out _ _ ((FSB.out _ V13)) (fun y2 => ?_)
  clear hK K
  try simp only [Act.put, List.setIfInBounds_toArray, List.set_cons_zero, List.set_cons_succ]
  clear y1
  refine tkG 8 72 y2 ?_
  try simp only [Act.put, List.setIfInBounds_toArray, List.set_cons_zero, List.set_cons_succ]
  refine tkG 9 73 y2 ?_
  try simp only [Act.put, List.setIfInBounds_toArray, List.set_cons_zero, List.set_cons_succ]
  refine tkG 10 74 y2 ?_
  try simp only [Act.put, List.setIfInBounds_toArray, List.set_cons_zero, List.set_cons_succ]
  refine wpAnyH_ready (rs := [11]) (by kernel_rfl) (by simp) ?_
  refine AllReadyH.cons rfl (fun K hK => ?_) AllReadyH.nil
  go_simp
  have V14 := V13.set 11 (.slice a2 n2 k2)
  clear c11 f11
  have c12 := V14.own.cell 12 rfl
  have f12 := V14.own.fz 12
  refine hK.out _ _ ((FSB.out _ V14)) (fun y3 => ?_)
  clear hK K
  try simp only [Act.put, List.setIfInBounds_toArray, List.set_cons_zero, List.set_cons_succ]
  clear y2
  refine tkG 12 75 y3 ?_
  try simp only [Act.put, List.setIfInBounds_toArray, List.set_cons_zero, List.set_cons_succ]
  refine tkG 13 76 y3 ?_
  try simp only [Act.put, List.setIfInBounds_toArray, List.set_cons_zero, List.set_cons_succ]
  refine tkG 14 77 y3 ?_
  try simp only [Act.put, List.setIfInBounds_toArray, List.set_cons_zero, List.set_cons_succ]
  refine wpAnyH_ready (rs := [15]) (by kernel_rfl) (by simp) ?_
  refine AllReadyH.cons rfl (fun K hK => ?_) AllReadyH.nil
  go_simp
  have V15 := V14.set 12 (.slice a3 n3 k3)
  clear c12 f12
  refine hK.out _ _ ((FSB.out _ V15)) (fun y4 => ?_)
  clear hK K
  try simp only [Act.put, List.setIfInBounds_toArray, List.set_cons_zero, List.set_cons_succ]
  clear y3
  refine wpAnyH_done (by kernel_rfl) ?_ _
  refine NoPanic.normal ?_
  go_wp2
  exact bodyPost_ret (v := .tuple #[.pointer (some ⟨w.heap.size + 1 + 1 + 1, 0, none⟩), .bool true]) (by simp [results, Tryz.results87, go_sem]) rfl ⟨⟨_, rfl⟩, V15.below⟩
end Go.Proofs.YtilhaokiohbeeabGreatDoor
