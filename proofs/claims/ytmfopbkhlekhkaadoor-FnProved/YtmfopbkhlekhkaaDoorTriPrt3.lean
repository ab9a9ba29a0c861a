/- The contract of the program's Parted. -/
-- UNF Gen
import Derived.Test.YtmfopbkhlekhkaaDoorTriPrt2
import Derived.Test.YtmfopbkhlekhkaaDoorTriHld2
import Derived.Test.YtmfopbkhlekhkaaDoorTriCat
namespace Go.Proofs.YtmfopbkhlekhkaaDoor
open Go.RowKit
theorem exec_load_row {P : Program} {oi : Oper} {a : Act} {w : World} (ty : TypeId) (x : Operand) (ho : oi.op = .load ty x) (g : Nat) (hx : a.eval x = .pointer (some ⟨g, 0, none⟩)) (t : TypeId) (cs : Array Value) (fr : Nat × Nat) (d : TypeDesc) (hg : w.heap[g]? = some (.cells cs t fr))
    (hu : P.underlying ty = some d) (hd : (match d with | .struct _ | .array _ _ => true | _ => false) = true) (hi : (P.info? ty).map (·.size) = some cs.size) : (execOp a.eval oi).run P w = .ok (.value (.agg cs)) w := by
  unfold execOp
  simp only [ho, hx, Instr.loadAt, Instr.sureAddr, Sem.run_bind, Sem.run_pure, Result.andThen_ok, run_loadVar_row w g t ty cs fr d hg hu hd hi]
/-- The 27 cells of what ladderOf tells. -/
def ladC (p v : Int) (ws : List Int) : List Int := if tldB p v ws.length = true then ladK p.toNat v ws 8 else z27
theorem ladC_len (p v : Int) (ws : List Int) : (ladC p v ws).length = 27 := by
  unfold ladC
  split
  · exact ladK_len _ _ _ _
  · rfl
theorem ladder_any (p v : Int) (vw : Value) (ws : List Int) (w : World) (hr : RdI w vw ws) (hi : ∀ j, I64 (ws.getD j 0)) (ht : Tab w) :
    Calls Tryd.prog 46 #[.int .i64 p, .int .i64 v, vw] w fun e w' => e = .returned (.tuple #[.agg (IV (ladC p v ws)).toArray, .bool (tldB p v ws.length)]) ∧ Below w.heap.size w w' := by
  cases h : tldB p v ws.length with
  | false =>
    have e : ladC p v ws = z27 := by unfold ladC; rw [h]; rfl
    rw [e, ← Z27_eq]
    exact ladderNo_any p v vw ws w hr h
  | true =>
    have e : ladC p v ws = ladK p.toNat v ws 8 := by unfold ladC; rw [if_pos h]
    rw [e, ← LAD_eq]
    obtain ⟨hp, hv, hn⟩ := tldB_iff.1 h
    obtain ⟨A, rfl⟩ : ∃ A : Nat, p = (A : Int) := ⟨p.toNat, by omega⟩
    rw [Int.toNat_natCast]
    exact ladderYes_any A v vw ws w hr hi (by omega) hv hn ht
theorem fnd_none {A : Nat} {v : Int} {ws : List Int} {o : Int} {us : List Int} : ∀ k, (∀ j, j ≤ k → rnL A v ws j ≠ rnL A o us j) → fndL A v ws o us k = []
  | 0, h => by unfold fndL; rw [if_neg (h 0 (Nat.le_refl _))]
  | k + 1, h => fnd_no (fnd_none k (fun j hj => h j (by omega))) (h (k + 1) (Nat.le_refl _))
theorem fnd_first {A : Nat} {v : Int} {ws : List Int} {o : Int} {us : List Int} {k : Nat} (h : ∀ j, j < k → rnL A v ws j ≠ rnL A o us j) (e : rnL A v ws k = rnL A o us k) : fndL A v ws o us k = fourL A v ws o us k := by
  cases k with
  | zero => unfold fndL; rw [if_pos e]
  | succ k => exact fnd_new (fnd_none k (fun j hj => h j (by omega))) e
theorem fnd_on {A : Nat} {v : Int} {ws : List Int} {o : Int} {us : List Int} {k : Nat} (h : fndL A v ws o us k ≠ []) (d : Nat) : fndL A v ws o us (k + d) = fndL A v ws o us k := by
  induction d with
  | zero => rfl
  | succ d ih => rw [← Nat.add_assoc, fnd_stay (by rw [ih]; exact h), ih]
theorem heap_cellL {W : World} {q : Nat} {ns : List Int} (h : W.heap[q]? = some (.cells (IV ns).toArray 68 (0, 0))) {j : Nat} (hj : j < ns.length) : W.cell? ⟨q, j, none⟩ = some (.int .i64 (ns.getD j 0)) := by
  simp [World.cell?, h, IV, List.getD, hj]
theorem rd_two {W : World} {q : Nat} {ns : List Int} (h : W.heap[q]? = some (.cells (IV ns).toArray 68 (0, 0))) {j : Nat} (hj : j + 1 < ns.length) : RdI W (.slice (some ⟨q, j, none⟩) 2 2) [ns.getD j 0, ns.getD (j + 1) 0] := by
  refine ⟨some ⟨q, j, none⟩, 2, rfl, Nat.le_refl _, by unfold maxLen; omega, (fun h => by cases h), .inr ⟨q, j, rfl, fun i hi => ?_⟩⟩
  have hi2 : i = 0 ∨ i = 1 := by simp at hi; omega
  rcases hi2 with rfl | rfl
  · exact heap_cellL h (by omega)
  · exact heap_cellL h hj
theorem lad_num {A : Nat} {v : Int} {ws : List Int} {k : Nat} (hk : k ≤ 8) : (ladK A v ws 8).getD (k * 3 + 2) 0 = rnL A v ws k ∧ (ladK A v ws 8).getD (k * 3) 0 = lpa A v ws k ∧ (ladK A v ws 8).getD (k * 3 + 1) 0 = lpb A v ws k := by
  refine ⟨?_, ?_, ?_⟩
  · rw [List.getD, ladK_get, if_pos (by omega)]
    unfold lad27
    rw [if_pos (by omega), if_neg (by omega), if_neg (by omega), show (k * 3 + 2) / 3 = k by omega]
    rfl
  · rw [List.getD, ladK_get, if_pos (by omega)]
    unfold lad27
    rw [if_pos (by omega), if_pos (by omega), show (k * 3) / 3 = k by omega]
    rfl
  · rw [List.getD, ladK_get, if_pos (by omega)]
    unfold lad27
    rw [if_pos (by omega), if_neg (by omega), if_pos (by omega), show (k * 3 + 1) / 3 = k by omega]
    rfl
set_option maxHeartbeats 8000000 in
set_option maxRecDepth 100000 in
theorem implParted_any (p v o : Int) (vw vu : Value) (ws us : List Int) (w : World) (hr : RdI w vw ws) (hu : RdI w vu us) (hi : ∀ j, I64 (ws.getD j 0)) (hj : ∀ j, I64 (us.getD j 0)) (ht : Tab w) :
    Calls Tryd.prog 25 #[.int .i64 p, .int .i64 v, vw, .int .i64 o, vu] w fun e w' => PtdPost w p v ws o us e w' := by
  obtain ⟨t1, h1⟩ : ∃ t, t = tldB p v ws.length := ⟨_, rfl⟩
  obtain ⟨t2, h2⟩ : ∃ t, t = tldB p o us.length := ⟨_, rfl⟩
  have H1 : Hid (t1 = tldB p v ws.length) := h1
  have H2 : Hid (t2 = tldB p o us.length) := h2
  obtain ⟨N1, hN1⟩ : ∃ n, n = ladC p v ws := ⟨_, rfl⟩
  obtain ⟨N2, hN2⟩ : ∃ n, n = ladC p o us := ⟨_, rfl⟩
  have HN1 : Hid (N1 = ladC p v ws) := hN1
  have HN2 : Hid (N2 = ladC p o us) := hN2
  have hl1 : N1.length = 27 := by rw [hN1]; exact ladC_len _ _ _
  have hl2 : N2.length = 27 := by rw [hN2]; exact ladC_len _ _ _
  have HL1 : Hid (∀ W, RdI W vw ws → Tab W → Calls Tryd.prog 46 #[.int .i64 p, .int .i64 v, vw] W fun e w' => e = .returned (.tuple #[.agg (IV N1).toArray, .bool t1]) ∧ Below W.heap.size W w') := fun W h t => by rw [h1, hN1]; exact ladder_any p v vw ws W h hi t
  have HL2 : Hid (∀ W, RdI W vu us → Tab W → Calls Tryd.prog 46 #[.int .i64 p, .int .i64 o, vu] W fun e w' => e = .returned (.tuple #[.agg (IV N2).toArray, .bool t2]) ∧ Below W.heap.size W w') := fun W h t => by rw [h2, hN2]; exact ladder_any p o vu us W h hj t
  have hsz1 : (Tryd.prog.info? 68).map (·.size) = some (IV N1).toArray.size := by rw [List.size_toArray, IV_length, hl1]; kernel_rfl
  have hsz2 : (Tryd.prog.info? 68).map (·.size) = some (IV N2).toArray.size := by rw [List.size_toArray, IV_length, hl2]; kernel_rfl
  have hall1 := IV_all N1
  have hall2 := IV_all N2
  have hos1 : (#[.int .i64 0, .int .i64 0, .int .i64 0, .int .i64 0, .int .i64 0, .int .i64 0, .int .i64 0, .int .i64 0, .int .i64 0, .int .i64 0, .int .i64 0, .int .i64 0, .int .i64 0, .int .i64 0, .int .i64 0, .int .i64 0, .int .i64 0, .int .i64 0, .int .i64 0, .int .i64 0, .int .i64 0, .int .i64 0, .int .i64 0, .int .i64 0, .int .i64 0, .int .i64 0, .int .i64 0] : Array Value).size = (IV N1).toArray.size := by
    have e : (IV N1).toArray.size = 27 := by rw [List.size_toArray, IV_length, hl1]
    rw [e]; rfl
  have hos2 : (#[.int .i64 0, .int .i64 0, .int .i64 0, .int .i64 0, .int .i64 0, .int .i64 0, .int .i64 0, .int .i64 0, .int .i64 0, .int .i64 0, .int .i64 0, .int .i64 0, .int .i64 0, .int .i64 0, .int .i64 0, .int .i64 0, .int .i64 0, .int .i64 0, .int .i64 0, .int .i64 0, .int .i64 0, .int .i64 0, .int .i64 0, .int .i64 0, .int .i64 0, .int .i64 0, .int .i64 0] : Array Value).size = (IV N2).toArray.size := by
    have e : (IV N2).toArray.size = 27 := by rw [List.size_toArray, IV_length, hl2]
    rw [e]; rfl
  obtain ⟨CC1, hC1⟩ : ∃ c, c = (IV N1).toArray := ⟨_, rfl⟩
  obtain ⟨CC2, hC2⟩ : ∃ c, c = (IV N2).toArray := ⟨_, rfl⟩
  have HC1 : Hid (CC1 = (IV N1).toArray) := hC1
  have HC2 : Hid (CC2 = (IV N2).toArray) := hC2
  rw [← hC1] at HL1 hsz1 hall1 hos1
  rw [← hC2] at HL2 hsz2 hall2 hos2
  clear h1 h2 hN1 hN2 hC1 hC2 hi hj
  go_enter Tryd.func25, Tryd.ntmps25
  go_wp2_with fail
  refine (HL1.out _ hr ht).mono ?_
  rintro e w1 ⟨rfl, b1⟩
  have hg1 := setRow_heap (w1.alloc (.cells #[.int .i64 0, .int .i64 0, .int .i64 0, .int .i64 0, .int .i64 0, .int .i64 0, .int .i64 0, .int .i64 0, .int .i64 0, .int .i64 0, .int .i64 0, .int .i64 0, .int .i64 0, .int .i64 0, .int .i64 0, .int .i64 0, .int .i64 0, .int .i64 0, .int .i64 0, .int .i64 0, .int .i64 0, .int .i64 0, .int .i64 0, .int .i64 0, .int .i64 0, .int .i64 0, .int .i64 0] 68)) w1.heap.size _ CC1 _ _ (heap_alloc_new w1 _)
  have b2 := below_setRow (g := w1.heap.size) (c := CC1) (b1.alloc b1.size (.cells #[.int .i64 0, .int .i64 0, .int .i64 0, .int .i64 0, .int .i64 0, .int .i64 0, .int .i64 0, .int .i64 0, .int .i64 0, .int .i64 0, .int .i64 0, .int .i64 0, .int .i64 0, .int .i64 0, .int .i64 0, .int .i64 0, .int .i64 0, .int .i64 0, .int .i64 0, .int .i64 0, .int .i64 0, .int .i64 0, .int .i64 0, .int .i64 0, .int .i64 0, .int .i64 0, .int .i64 0] 68)) b1.size
  go_wp2_with (refine wpList_store_row rfl 68 _ _ rfl w1.heap.size CC1 rfl rfl 68 _ (heap_alloc_new w1 _) hsz1 hos1 hall1 ?_)
  generalize (w1.alloc (.cells #[.int .i64 0, .int .i64 0, .int .i64 0, .int .i64 0, .int .i64 0, .int .i64 0, .int .i64 0, .int .i64 0, .int .i64 0, .int .i64 0, .int .i64 0, .int .i64 0, .int .i64 0, .int .i64 0, .int .i64 0, .int .i64 0, .int .i64 0, .int .i64 0, .int .i64 0, .int .i64 0, .int .i64 0, .int .i64 0, .int .i64 0, .int .i64 0, .int .i64 0, .int .i64 0, .int .i64 0] 68)).setRow w1.heap.size CC1 = V1 at hg1 b2 ⊢
  have hq1 : w.heap.size ≤ w1.heap.size := b1.size
  generalize w1.heap.size = q1 at hg1 hq1 ⊢
  clear b1
  refine (HL2.out _ (hu.below b2) (ht.on b2)).mono ?_
  rintro e w2 ⟨rfl, hb2⟩
  have hq12 : q1 < V1.heap.size := (Array.getElem?_eq_some_iff.1 hg1).1
  have hg1' := (hb2.block _ hq12).trans hg1
  have b3 := b2.trans (hb2.mono b2.size)
  have hq13 : q1 < w2.heap.size := Nat.lt_of_lt_of_le hq12 hb2.size
  clear hb2 b2 hg1 hq12
  have hg2 := setRow_heap (w2.alloc (.cells #[.int .i64 0, .int .i64 0, .int .i64 0, .int .i64 0, .int .i64 0, .int .i64 0, .int .i64 0, .int .i64 0, .int .i64 0, .int .i64 0, .int .i64 0, .int .i64 0, .int .i64 0, .int .i64 0, .int .i64 0, .int .i64 0, .int .i64 0, .int .i64 0, .int .i64 0, .int .i64 0, .int .i64 0, .int .i64 0, .int .i64 0, .int .i64 0, .int .i64 0, .int .i64 0, .int .i64 0] 68)) w2.heap.size _ CC2 _ _ (heap_alloc_new w2 _)
  have b2 := below_setRow (g := w2.heap.size) (c := CC2) (b3.alloc b3.size (.cells #[.int .i64 0, .int .i64 0, .int .i64 0, .int .i64 0, .int .i64 0, .int .i64 0, .int .i64 0, .int .i64 0, .int .i64 0, .int .i64 0, .int .i64 0, .int .i64 0, .int .i64 0, .int .i64 0, .int .i64 0, .int .i64 0, .int .i64 0, .int .i64 0, .int .i64 0, .int .i64 0, .int .i64 0, .int .i64 0, .int .i64 0, .int .i64 0, .int .i64 0, .int .i64 0, .int .i64 0] 68)) b3.size
  have hg3 := (setRow_other (w2.alloc (.cells #[.int .i64 0, .int .i64 0, .int .i64 0, .int .i64 0, .int .i64 0, .int .i64 0, .int .i64 0, .int .i64 0, .int .i64 0, .int .i64 0, .int .i64 0, .int .i64 0, .int .i64 0, .int .i64 0, .int .i64 0, .int .i64 0, .int .i64 0, .int .i64 0, .int .i64 0, .int .i64 0, .int .i64 0, .int .i64 0, .int .i64 0, .int .i64 0, .int .i64 0, .int .i64 0, .int .i64 0] 68)) w2.heap.size q1 CC2 (by omega)).trans (((below1 w2 (.cells #[.int .i64 0, .int .i64 0, .int .i64 0, .int .i64 0, .int .i64 0, .int .i64 0, .int .i64 0, .int .i64 0, .int .i64 0, .int .i64 0, .int .i64 0, .int .i64 0, .int .i64 0, .int .i64 0, .int .i64 0, .int .i64 0, .int .i64 0, .int .i64 0, .int .i64 0, .int .i64 0, .int .i64 0, .int .i64 0, .int .i64 0, .int .i64 0, .int .i64 0, .int .i64 0, .int .i64 0] 68)).block _ hq13).trans hg1')
  clear hg1'
  go_wp2_with (refine wpList_store_row rfl 68 _ _ rfl w2.heap.size CC2 rfl rfl 68 _ (heap_alloc_new w2 _) hsz2 hos2 hall2 ?_)
  generalize (w2.alloc (.cells #[.int .i64 0, .int .i64 0, .int .i64 0, .int .i64 0, .int .i64 0, .int .i64 0, .int .i64 0, .int .i64 0, .int .i64 0, .int .i64 0, .int .i64 0, .int .i64 0, .int .i64 0, .int .i64 0, .int .i64 0, .int .i64 0, .int .i64 0, .int .i64 0, .int .i64 0, .int .i64 0, .int .i64 0, .int .i64 0, .int .i64 0, .int .i64 0, .int .i64 0, .int .i64 0, .int .i64 0] 68)).setRow w2.heap.size CC2 = V2 at hg2 hg3 b2 ⊢
  have hq2 : w.heap.size ≤ w2.heap.size := b3.size
  generalize w2.heap.size = q2 at hg2 hq2 hq13 ⊢
  clear b3 HL1 HL2 hos1 hos2 hall1 hall2
  cases t1 with
  | false =>
    have RES : Hid (ptdB p v ws o us = false) := by unfold Hid ptdB; rw [← H1.out]; rfl
    refine wp_region_noPanic ?_
    refine wp_region_held_drew (S := fun _ => True) (by kernel_rfl) trivial (fun hS => ?_)
    refine tkG 0 31 hS ?_
    try simp only [Act.put, List.setIfInBounds_toArray, List.set_cons_zero, List.set_cons_succ]
    refine tkG 1 32 hS ?_
    try simp only [Act.put, List.setIfInBounds_toArray, List.set_cons_zero, List.set_cons_succ]
    refine tkG 2 33 hS ?_
    try simp only [Act.put, List.setIfInBounds_toArray, List.set_cons_zero, List.set_cons_succ]
    refine tkS 3 34 hS ?_
    try simp only [Act.put, List.setIfInBounds_toArray, List.set_cons_zero, List.set_cons_succ]
    refine tkS 4 35 hS ?_
    try simp only [Act.put, List.setIfInBounds_toArray, List.set_cons_zero, List.set_cons_succ]
    refine tkG 5 36 hS ?_
    try simp only [Act.put, List.setIfInBounds_toArray, List.set_cons_zero, List.set_cons_succ]
    refine tkG 6 37 hS ?_
    try simp only [Act.put, List.setIfInBounds_toArray, List.set_cons_zero, List.set_cons_succ]
    refine tkS 7 38 hS ?_
    try simp only [Act.put, List.setIfInBounds_toArray, List.set_cons_zero, List.set_cons_succ]
    refine tkS 8 39 hS ?_
    try simp only [Act.put, List.setIfInBounds_toArray, List.set_cons_zero, List.set_cons_succ]
    refine tkS 9 40 hS ?_
    try simp only [Act.put, List.setIfInBounds_toArray, List.set_cons_zero, List.set_cons_succ]
    refine tkG 10 41 hS ?_
    try simp only [Act.put, List.setIfInBounds_toArray, List.set_cons_zero, List.set_cons_succ]
    refine tkG 11 42 hS ?_
    try simp only [Act.put, List.setIfInBounds_toArray, List.set_cons_zero, List.set_cons_succ]
    refine tkS 12 43 hS ?_
    try simp only [Act.put, List.setIfInBounds_toArray, List.set_cons_zero, List.set_cons_succ]
    refine tkS 13 44 hS ?_
    try simp only [Act.put, List.setIfInBounds_toArray, List.set_cons_zero, List.set_cons_succ]
    refine tkS 14 45 hS ?_
    try simp only [Act.put, List.setIfInBounds_toArray, List.set_cons_zero, List.set_cons_succ]
    refine tkS 15 46 hS ?_
    try simp only [Act.put, List.setIfInBounds_toArray, List.set_cons_zero, List.set_cons_succ]
    refine tkS 16 47 hS ?_
    try simp only [Act.put, List.setIfInBounds_toArray, List.set_cons_zero, List.set_cons_succ]
    refine tkG 17 48 hS ?_
    try simp only [Act.put, List.setIfInBounds_toArray, List.set_cons_zero, List.set_cons_succ]
    refine wpAnyH_done (by kernel_rfl) ?_ _
    refine NoPanic.normal ?_
    clear hS
    go_wp2
    go_ret2
    exact ptd_no RES.out b2.drew
  | true =>
    cases t2 with
    | false =>
      have RES : Hid (ptdB p v ws o us = false) := by unfold Hid ptdB; rw [← H1.out, ← H2.out]; rfl
      refine wp_region_noPanic ?_
      refine wp_region_held_drew (S := fun _ => True) (by kernel_rfl) trivial (fun hS => ?_)
      refine tkG 0 31 hS ?_
      try simp only [Act.put, List.setIfInBounds_toArray, List.set_cons_zero, List.set_cons_succ]
      refine tkG 1 32 hS ?_
      try simp only [Act.put, List.setIfInBounds_toArray, List.set_cons_zero, List.set_cons_succ]
      refine tkG 2 33 hS ?_
      try simp only [Act.put, List.setIfInBounds_toArray, List.set_cons_zero, List.set_cons_succ]
      refine tkG 3 34 hS ?_
      try simp only [Act.put, List.setIfInBounds_toArray, List.set_cons_zero, List.set_cons_succ]
      refine tkG 4 35 hS ?_
      try simp only [Act.put, List.setIfInBounds_toArray, List.set_cons_zero, List.set_cons_succ]
      refine tkG 5 36 hS ?_
      try simp only [Act.put, List.setIfInBounds_toArray, List.set_cons_zero, List.set_cons_succ]
      refine tkG 6 37 hS ?_
      try simp only [Act.put, List.setIfInBounds_toArray, List.set_cons_zero, List.set_cons_succ]
      refine tkS 7 38 hS ?_
      try simp only [Act.put, List.setIfInBounds_toArray, List.set_cons_zero, List.set_cons_succ]
      refine tkS 8 39 hS ?_
      try simp only [Act.put, List.setIfInBounds_toArray, List.set_cons_zero, List.set_cons_succ]
      refine tkS 9 40 hS ?_
      try simp only [Act.put, List.setIfInBounds_toArray, List.set_cons_zero, List.set_cons_succ]
      refine tkG 10 41 hS ?_
      try simp only [Act.put, List.setIfInBounds_toArray, List.set_cons_zero, List.set_cons_succ]
      refine tkG 11 42 hS ?_
      try simp only [Act.put, List.setIfInBounds_toArray, List.set_cons_zero, List.set_cons_succ]
      refine tkS 12 43 hS ?_
      try simp only [Act.put, List.setIfInBounds_toArray, List.set_cons_zero, List.set_cons_succ]
      refine tkS 13 44 hS ?_
      try simp only [Act.put, List.setIfInBounds_toArray, List.set_cons_zero, List.set_cons_succ]
      refine tkS 14 45 hS ?_
      try simp only [Act.put, List.setIfInBounds_toArray, List.set_cons_zero, List.set_cons_succ]
      refine tkS 15 46 hS ?_
      try simp only [Act.put, List.setIfInBounds_toArray, List.set_cons_zero, List.set_cons_succ]
      refine tkS 16 47 hS ?_
      try simp only [Act.put, List.setIfInBounds_toArray, List.set_cons_zero, List.set_cons_succ]
      refine tkG 17 48 hS ?_
      try simp only [Act.put, List.setIfInBounds_toArray, List.set_cons_zero, List.set_cons_succ]
      refine wpAnyH_done (by kernel_rfl) ?_ _
      refine NoPanic.normal ?_
      clear hS
      go_wp2
      go_ret2
      exact ptd_no RES.out b2.drew
    | true =>
      by_cases hvo : v = o
      · have RES : Hid (ptdB p v ws o us = false) := by unfold Hid ptdB; rw [decide_eq_false (fun h => h hvo)]; simp
        subst hvo
        have hvb : (v == v) = true := by simp
        refine wp_region_noPanic ?_
        refine wp_region_held_drew (S := fun _ => True) (by kernel_rfl) trivial (fun hS => ?_)
        refine tkG 0 31 hS ?_
        try simp only [Act.put, List.setIfInBounds_toArray, List.set_cons_zero, List.set_cons_succ]
        refine tkG 1 32 hS ?_
        try simp only [Act.put, List.setIfInBounds_toArray, List.set_cons_zero, List.set_cons_succ]
        refine tkG 2 33 hS ?_
        try simp only [Act.put, List.setIfInBounds_toArray, List.set_cons_zero, List.set_cons_succ]
        refine tkG 3 34 hS ?_
        try simp only [Act.put, List.setIfInBounds_toArray, List.set_cons_zero, List.set_cons_succ]
        refine tkG 4 35 hS ?_
        try simp only [Act.put, List.setIfInBounds_toArray, List.set_cons_zero, List.set_cons_succ]
        refine tkG 5 36 hS ?_
        try simp only [Act.put, List.setIfInBounds_toArray, List.set_cons_zero, List.set_cons_succ]
        refine tkG 6 37 hS ?_
        try simp only [Act.put, List.setIfInBounds_toArray, List.set_cons_zero, List.set_cons_succ]
        refine tkG 7 38 hS ?_
        try simp only [Act.put, List.setIfInBounds_toArray, List.set_cons_zero, List.set_cons_succ]
        refine tkG 8 39 hS ?_
        try simp only [Act.put, List.setIfInBounds_toArray, List.set_cons_zero, List.set_cons_succ]
        refine tkG 9 40 hS ?_
        try simp only [Act.put, List.setIfInBounds_toArray, List.set_cons_zero, List.set_cons_succ]
        refine tkG 10 41 hS ?_
        try simp only [Act.put, List.setIfInBounds_toArray, List.set_cons_zero, List.set_cons_succ]
        refine tkG 11 42 hS ?_
        try simp only [Act.put, List.setIfInBounds_toArray, List.set_cons_zero, List.set_cons_succ]
        refine tkS 12 43 hS ?_
        try simp only [Act.put, List.setIfInBounds_toArray, List.set_cons_zero, List.set_cons_succ]
        refine tkS 13 44 hS ?_
        try simp only [Act.put, List.setIfInBounds_toArray, List.set_cons_zero, List.set_cons_succ]
        refine tkS 14 45 hS ?_
        try simp only [Act.put, List.setIfInBounds_toArray, List.set_cons_zero, List.set_cons_succ]
        refine tkS 15 46 hS ?_
        try simp only [Act.put, List.setIfInBounds_toArray, List.set_cons_zero, List.set_cons_succ]
        refine tkS 16 47 hS ?_
        try simp only [Act.put, List.setIfInBounds_toArray, List.set_cons_zero, List.set_cons_succ]
        refine tkG 17 48 hS ?_
        try simp only [Act.put, List.setIfInBounds_toArray, List.set_cons_zero, List.set_cons_succ]
        refine wpAnyH_done (by kernel_rfl) ?_ _
        refine NoPanic.normal ?_
        clear hS
        go_wp2
        go_ret2
        exact ptd_no RES.out b2.drew
      · have hvb : (v == o) = false := beq_false_of_ne hvo
        obtain ⟨hp, hv, hn⟩ := tldB_iff.1 H1.out.symm
        obtain ⟨A, rfl⟩ : ∃ A : Nat, p = (A : Int) := ⟨p.toNat, by omega⟩
        have e1 : N1 = ladK A v ws 8 := by rw [HN1.out]; unfold ladC; rw [if_pos H1.out.symm, Int.toNat_natCast]
        have e2 : N2 = ladK A o us 8 := by rw [HN2.out]; unfold ladC; rw [if_pos H2.out.symm, Int.toNat_natCast]
        have RES : Hid (ptdB (A : Int) v ws o us = decide (rnL A v ws 8 = rnL A o us 8)) := by unfold Hid ptdB; rw [← H1.out, ← H2.out, Int.toNat_natCast, decide_eq_true hvo]; rfl
        have HP1 : Hid (∀ W, Calls Tryd.prog 47 #[.agg CC1] W fun e w' => e = .returned (.int .i64 (rnL A v ws 8)) ∧ Below W.heap.size W w') := fun W => by rw [HC1.out, e1, ← LAD_eq]; exact ladPeak_any A v ws W
        have HP2 : Hid (∀ W, Calls Tryd.prog 47 #[.agg CC2] W fun e w' => e = .returned (.int .i64 (rnL A o us 8)) ∧ Below W.heap.size W w') := fun W => by rw [HC2.out, e2, ← LAD_eq]; exact ladPeak_any A o us W
        have HG1 : Hid (CC1 = (IV (ladK A v ws 8)).toArray) := by unfold Hid; rw [HC1.out, e1]
        have HG2 : Hid (CC2 = (IV (ladK A o us 8)).toArray) := by unfold Hid; rw [HC2.out, e2]
        obtain ⟨n1, hn1⟩ : ∃ n, n = rnL A v ws 8 := ⟨_, rfl⟩
        obtain ⟨n2, hn2⟩ : ∃ n, n = rnL A o us 8 := ⟨_, rfl⟩
        have HM1 : Hid (n1 = rnL A v ws 8) := hn1
        have HM2 : Hid (n2 = rnL A o us 8) := hn2
        rw [← hn1] at HP1 RES
        rw [← hn2] at HP2 RES
        clear hn1 hn2 e1 e2 HN1 HN2 HC1 HC2 H1 H2 hp hv hn hl1 hl2
        refine wp_region_noPanic ?_
        refine wp_region_held_drew (S := fun W => W.heap[q1]? = some (.cells CC1 68 (0, 0)) ∧ W.heap[q2]? = some (.cells CC2 68 (0, 0))) (by kernel_rfl) ⟨hg3, hg2⟩ (fun hS => ?_)
        refine tkG 0 31 hS ?_
        try simp only [Act.put, List.setIfInBounds_toArray, List.set_cons_zero, List.set_cons_succ]
        refine tkG 1 32 hS ?_
        try simp only [Act.put, List.setIfInBounds_toArray, List.set_cons_zero, List.set_cons_succ]
        refine tkG 2 33 hS ?_
        try simp only [Act.put, List.setIfInBounds_toArray, List.set_cons_zero, List.set_cons_succ]
        refine tkG 3 34 hS ?_
        try simp only [Act.put, List.setIfInBounds_toArray, List.set_cons_zero, List.set_cons_succ]
        refine tkG 4 35 hS ?_
        try simp only [Act.put, List.setIfInBounds_toArray, List.set_cons_zero, List.set_cons_succ]
        refine tkG 5 36 hS ?_
        try simp only [Act.put, List.setIfInBounds_toArray, List.set_cons_zero, List.set_cons_succ]
        refine tkG 6 37 hS ?_
        try simp only [Act.put, List.setIfInBounds_toArray, List.set_cons_zero, List.set_cons_succ]
        refine tkG 7 38 hS ?_
        try simp only [Act.put, List.setIfInBounds_toArray, List.set_cons_zero, List.set_cons_succ]
        refine tkG 8 39 hS ?_
        try simp only [Act.put, List.setIfInBounds_toArray, List.set_cons_zero, List.set_cons_succ]
        refine tkG 9 40 hS ?_
        try simp only [Act.put, List.setIfInBounds_toArray, List.set_cons_zero, List.set_cons_succ]
        refine tkG 10 41 hS ?_
        try simp only [Act.put, List.setIfInBounds_toArray, List.set_cons_zero, List.set_cons_succ]
        refine tkG 11 42 hS ?_
        try simp only [Act.put, List.setIfInBounds_toArray, List.set_cons_zero, List.set_cons_succ]
        refine tkG 12 43 hS ?_ (hy := fun w hS => exec_load_row 68 _ rfl q1 rfl 68 CC1 (0, 0) _ hS.1 Tryd.underlying68 (by rfl) hsz1)
        try simp only [Act.put, List.setIfInBounds_toArray, List.set_cons_zero, List.set_cons_succ]
        refine tkG 14 45 hS ?_ (hy := fun w hS => exec_load_row 68 _ rfl q2 rfl 68 CC2 (0, 0) _ hS.2 Tryd.underlying68 (by rfl) hsz2)
        try simp only [Act.put, List.setIfInBounds_toArray, List.set_cons_zero, List.set_cons_succ]
        have b4 := b2.drew
        refine wpAnyH_ready (rs := [13]) (by kernel_rfl) (by simp) ?_
        refine AllReadyH.cons rfl (fun K hK => ?_) AllReadyH.nil
        go_simp
        refine (HP1.out _).mono ?_
        rintro e V3 ⟨rfl, hb⟩
        have b5 := b4.trans (hb.mono b4.size)
        refine hK.out _ _ ⟨(hb.block q1 (Array.getElem?_eq_some_iff.1 hS.1).1).trans hS.1, (hb.block q2 (Array.getElem?_eq_some_iff.1 hS.2).1).trans hS.2⟩ (fun hB => ?_)
        clear hK K
        try simp only [Act.put, List.setIfInBounds_toArray, List.set_cons_zero, List.set_cons_succ]
        clear hS hb b4
        refine wpAnyH_ready (rs := [15]) (by kernel_rfl) (by simp) ?_
        refine AllReadyH.cons rfl (fun K hK => ?_) AllReadyH.nil
        go_simp
        refine (HP2.out _).mono ?_
        rintro e V4 ⟨rfl, hb⟩
        have b6 := b5.trans (hb.mono b5.size)
        refine hK.out _ _ ⟨(hb.block q1 (Array.getElem?_eq_some_iff.1 hB.1).1).trans hB.1, (hb.block q2 (Array.getElem?_eq_some_iff.1 hB.2).1).trans hB.2⟩ (fun hD => ?_)
        clear hK K
        try simp only [Act.put, List.setIfInBounds_toArray, List.set_cons_zero, List.set_cons_succ]
        clear hB hb b5
        refine tkG 16 47 hD ?_
        try simp only [Act.put, List.setIfInBounds_toArray, List.set_cons_zero, List.set_cons_succ]
        refine tkG 17 48 hD ?_
        try simp only [Act.put, List.setIfInBounds_toArray, List.set_cons_zero, List.set_cons_succ]
        refine wpAnyH_done (by kernel_rfl) ?_ _
        refine NoPanic.normal ?_
        obtain ⟨g1, g2⟩ := hD
        clear b2 hg2 hg3 HP1 HP2 hr hu ht
        by_cases hnn : n1 = n2
        · have hnb : (n1 != n2) = false := by rw [bne_eq_false_iff_eq]; exact hnn
          have RES2 : Hid (ptdB (A : Int) v ws o us = true) := by unfold Hid; rw [RES.out, decide_eq_true hnn]
          have HEQ : Hid (rnL A v ws 8 = rnL A o us 8) := HM1.out.symm.trans (hnn.trans HM2.out)
          subst hnn
          clear RES
          go_wp2
          go_loopw [16] (fun s16 wr => ∃ k : Nat, k ≤ 8 ∧ s16 = .int .i64 (k : Int) ∧ Hid (∀ j, j < k → rnL A v ws j ≠ rnL A o us j) ∧ wr.heap[q1]? = some (.cells CC1 68 (0, 0)) ∧ wr.heap[q2]? = some (.cells CC2 68 (0, 0)) ∧ Below w.heap.size w wr) (fun s16 _ => 8 - (intOf s16).toNat)
          case atStart => exact ⟨0, by omega, rfl, (fun j hj => by omega), g1, g2, b6⟩
          case round =>
            obtain ⟨k, hk, rfl, HNE, r1, r2, hb⟩ := hrel
            clear g1 g2 b6
            have c1 : wr.cell? ⟨q1, k * 3 + 2, none⟩ = some (.int .i64 (rnL A v ws k)) := by
              have h := r1
              rw [HG1.out] at h
              have h2 := heap_cellL h (j := k * 3 + 2) (by rw [ladK_len]; omega)
              rw [(lad_num hk).1] at h2
              exact h2
            have c2 : wr.cell? ⟨q2, k * 3 + 2, none⟩ = some (.int .i64 (rnL A o us k)) := by
              have h := r2
              rw [HG2.out] at h
              have h2 := heap_cellL h (j := k * 3 + 2) (by rw [ladK_len]; omega)
              rw [(lad_num hk).1] at h2
              exact h2
            obtain ⟨x, hx⟩ : ∃ x, x = rnL A v ws k := ⟨_, rfl⟩
            obtain ⟨y, hy⟩ : ∃ y, y = rnL A o us k := ⟨_, rfl⟩
            have HX : Hid (x = rnL A v ws k) := hx
            have HYY : Hid (y = rnL A o us k) := hy
            rw [← hx] at c1
            rw [← hy] at c2
            clear hx hy
            have hk9 : (k : Int) < 9 := by omega
            have hk0 : (0 : Int) ≤ (k : Int) := by omega
            go_wp2_with fail
            refine wp_region_noPanic ?_
            refine wp_region_held_drew (S := fun W => W.cell? ⟨q1, k * 3 + 2, none⟩ = some (.int .i64 x) ∧ W.cell? ⟨q2, k * 3 + 2, none⟩ = some (.int .i64 y)) (by kernel_rfl) ⟨c1, c2⟩ (fun hH => ?_)
            refine tkG 0 50 hH ?_
            try simp only [Act.put, List.setIfInBounds_toArray, List.set_cons_zero, List.set_cons_succ]
            refine tkG 1 51 hH ?_
            try simp only [Act.put, List.setIfInBounds_toArray, List.set_cons_zero, List.set_cons_succ]
            refine tkG 2 52 hH ?_
            try simp only [Act.put, List.setIfInBounds_toArray, List.set_cons_zero, List.set_cons_succ]
            refine tkG 3 53 hH ?_
            try simp only [Act.put, List.setIfInBounds_toArray, List.set_cons_zero, List.set_cons_succ]
            refine tkG 4 54 hH ?_
            try simp only [Act.put, List.setIfInBounds_toArray, List.set_cons_zero, List.set_cons_succ]
            refine tkG 5 55 hH ?_
            try simp only [Act.put, List.setIfInBounds_toArray, List.set_cons_zero, List.set_cons_succ]
            refine tkG 6 56 hH ?_
            try simp only [Act.put, List.setIfInBounds_toArray, List.set_cons_zero, List.set_cons_succ]
            refine tkG 7 57 hH ?_
            try simp only [Act.put, List.setIfInBounds_toArray, List.set_cons_zero, List.set_cons_succ]
            refine tkG 8 58 hH ?_
            try simp only [Act.put, List.setIfInBounds_toArray, List.set_cons_zero, List.set_cons_succ]
            refine wpAnyH_done (by kernel_rfl) ?_ _
            refine NoPanic.normal ?_
            clear hH c1 c2
            replace r1 : wr.drew.heap[q1]? = some (.cells CC1 68 (0, 0)) := r1
            replace r2 : wr.drew.heap[q2]? = some (.cells CC2 68 (0, 0)) := r2
            replace hb := hb.drew
            generalize wr.drew = V at r1 r2 hb ⊢
            by_cases hxy : x = y
            · have hxb : (x != y) = false := by rw [bne_eq_false_iff_eq]; exact hxy
              have HF : Hid (fndL A v ws o us 8 = [lpa A v ws k, lpb A v ws k, lpa A o us k, lpb A o us k]) := by
                have h1 := fnd_first HNE.out (HX.out.symm.trans (hxy.trans HYY.out))
                have h2 := fnd_on (A := A) (v := v) (ws := ws) (o := o) (us := us) (k := k) (by rw [h1]; simp [fourL]) (8 - k)
                rw [show k + (8 - k) = 8 by omega, h1] at h2
                exact h2
              have d1 := rd_two (ns := ladK A v ws 8) (by rw [← HG1.out]; exact r1) (j := k * 3) (by rw [ladK_len]; omega)
              have d2 := rd_two (ns := ladK A o us 8) (by rw [← HG2.out]; exact r2) (j := k * 3) (by rw [ladK_len]; omega)
              rw [(lad_num hk).2.1, (lad_num hk).2.2] at d1 d2
              generalize lpa A v ws k = l0 at HF d1
              generalize lpb A v ws k = l1 at HF d1
              generalize lpa A o us k = l2 at HF d2
              generalize lpb A o us k = l3 at HF d2
              have HEND : Hid (∀ (W V5 : World) (u : Value), Below w.heap.size w W → OwnI V5 W.heap.size u [l0, l1, l2, l3] → Below W.heap.size W V5 → PtdPost w (A : Int) v ws o us (.returned (.tuple #[u, .bool true])) V5) := fun W V5 u h1 h2 h3 => ptd_yes RES2.out (by rw [Int.toNat_natCast, HF.out]; exact OwnI.mono h2 h1.size) (h1.trans (h3.mono h1.size))
              have bX : Below V.heap.size V (V.alloc (.cells #[.slice (some ⟨q1, k * 3, none⟩) 2 2, .slice (some ⟨q2, k * 3, none⟩) 2 2] 28)).drew := (below1 V _).drew
              have e1 := d1.below bX
              have e2 := d2.below bX
              have bW := hb.trans (bX.mono hb.size)
              have HCC : Hid (Calls Tryd.prog _ _ (V.alloc (.cells #[.slice (some ⟨q1, k * 3, none⟩) 2 2, .slice (some ⟨q2, k * 3, none⟩) 2 2] 28)).drew _) := concatI_any [(.slice (some ⟨q1, k * 3, none⟩) 2 2, [l0, l1]), (.slice (some ⟨q2, k * 3, none⟩) 2 2, [l2, l3])] V.heap.size 0 2 (V.alloc (.cells #[.slice (some ⟨q1, k * 3, none⟩) 2 2, .slice (some ⟨q2, k * 3, none⟩) 2 2] 28)).drew (fun i h => by
                match i, h with
                | 0, _ => simp
                | 1, _ => simp) (fun p hp => by
                rcases List.mem_cons.1 hp with rfl | hp
                · exact e1
                · rcases List.mem_cons.1 hp with rfl | hp
                  · exact e2
                  · cases hp) (Nat.le_refl _) (by omega) (by simp [catI]) (by simp [catI])
              clear d1 d2 e1 e2 HF HX HYY HNE hb bX r1 r2
              go_wp2_with fail
              refine wp_region_noPanic ?_
              refine wp_region_held_drew (S := fun _ => True) (by kernel_rfl) trivial (fun hH => ?_)
              refine tkG 0 61 hH ?_
              try simp only [Act.put, List.setIfInBounds_toArray, List.set_cons_zero, List.set_cons_succ]
              refine tkG 1 62 hH ?_
              try simp only [Act.put, List.setIfInBounds_toArray, List.set_cons_zero, List.set_cons_succ]
              refine tkG 2 63 hH ?_
              try simp only [Act.put, List.setIfInBounds_toArray, List.set_cons_zero, List.set_cons_succ]
              refine tkG 3 64 hH ?_
              try simp only [Act.put, List.setIfInBounds_toArray, List.set_cons_zero, List.set_cons_succ]
              refine tkG 4 65 hH ?_
              try simp only [Act.put, List.setIfInBounds_toArray, List.set_cons_zero, List.set_cons_succ]
              refine tkG 5 66 hH ?_
              try simp only [Act.put, List.setIfInBounds_toArray, List.set_cons_zero, List.set_cons_succ]
              refine tkG 6 67 hH ?_
              try simp only [Act.put, List.setIfInBounds_toArray, List.set_cons_zero, List.set_cons_succ]
              refine tkG 7 68 hH ?_
              try simp only [Act.put, List.setIfInBounds_toArray, List.set_cons_zero, List.set_cons_succ]
              refine wpAnyH_ready (rs := [8]) (by kernel_rfl) (by simp) ?_
              refine AllReadyH.cons rfl (fun K hK => ?_) AllReadyH.nil
              go_simp
              refine hK.out _ _ trivial (fun hB => ?_)
              clear hK K
              try simp only [Act.put, List.setIfInBounds_toArray, List.set_cons_zero, List.set_cons_succ]
              clear hH
              refine wpAnyH_ready (rs := [9]) (by kernel_rfl) (by simp) ?_
              refine AllReadyH.cons rfl (fun K hK => ?_) AllReadyH.nil
              go_simp
              refine HCC.out.mono ?_
              rintro e V5 ⟨u, rfl, ho5, hb5⟩
              have HE := HEND.out _ V5 u bW ho5 hb5
              refine hK.out _ _ trivial (fun hD => ?_)
              clear hK K
              try simp only [Act.put, List.setIfInBounds_toArray, List.set_cons_zero, List.set_cons_succ]
              clear hB
              refine tkG 10 10 hD ?_
              try simp only [Act.put, List.setIfInBounds_toArray, List.set_cons_zero, List.set_cons_succ]
              refine tkG 11 11 hD ?_
              try simp only [Act.put, List.setIfInBounds_toArray, List.set_cons_zero, List.set_cons_succ]
              refine wpAnyH_done (by kernel_rfl) ?_ _
              refine NoPanic.normal ?_
              clear hD ho5 hb5 bW
              go_wp2
              go_ret2
              exact HE
            · have hxb : (x != y) = true := by rw [bne_iff_ne]; exact hxy
              have hk8 : k < 8 := by
                apply Nat.lt_of_le_of_ne hk
                intro e
                subst e
                exact hxy (HX.out.trans (HEQ.out.trans HYY.out.symm))
              have HNE2 : Hid (∀ j, j < k + 1 → rnL A v ws j ≠ rnL A o us j) := fun j hj => by
                by_cases e : j = k
                · subst e
                  exact fun h => hxy (HX.out.trans (h.trans HYY.out.symm))
                · exact HNE.out j (by omega)
              go_wp2
              go_roundw
              case rel => exact ⟨k + 1, by omega, by go_num, HNE2, r1, r2, hb⟩
              case measure => simp [intOf]; omega
        · have hnb : (n1 != n2) = true := by rw [bne_iff_ne]; exact hnn
          have RES2 : Hid (ptdB (A : Int) v ws o us = false) := by unfold Hid; rw [RES.out, decide_eq_false hnn]
          clear g1 g2
          go_wp2
          go_ret2
          exact ptd_no RES2.out b6
end Go.Proofs.YtmfopbkhlekhkaaDoor
