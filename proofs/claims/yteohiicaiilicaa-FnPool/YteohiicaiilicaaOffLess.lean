/- The contracts of the program's order of Offers in a row, of its question whether a row is a heap, and of its PoolOk. -/
-- UNF Gen
import Derived.Test.YteohiicaiilicaaOffPoS
namespace Go.Proofs.Yteohiicaiilicaa
open Go.RowKit
theorem offAt_new (W : World) (x : Off) (t : TypeId) : OffAt (W.alloc (.cells #[.int .i64 x.fee, .string x.text] t)) W.heap.size 0 x :=
  ⟨by simp [World.cell?_alloc_at], by simp [World.cell?_alloc_at]⟩
/-- Is no one ahead of the one above it? -/
def heapB (es : List Off) : Bool := (List.range es.length).all fun i => decide (i = 0) || !ahO (nthO es i) (nthO es ((i - 1) / 2))
theorem heapB_yes {es : List Off} (h : ∀ i, i < es.length → 0 < i → ahO (nthO es i) (nthO es ((i - 1) / 2)) = false) : heapB es = true := by
  unfold heapB
  rw [List.all_eq_true]
  intro i hi
  have hi' := List.mem_range.1 hi
  by_cases h0 : i = 0
  · simp [h0]
  · simp [h i hi' (by omega)]
theorem heapB_all {es : List Off} (hb : heapB es = true) {i : Nat} (hi : i < es.length) (h0 : 0 < i) : ahO (nthO es i) (nthO es ((i - 1) / 2)) = false := by
  unfold heapB at hb
  rw [List.all_eq_true] at hb
  have := hb i (List.mem_range.2 hi)
  rw [Bool.or_eq_true] at this
  rcases this with h | h
  · have := of_decide_eq_true h; omega
  · simpa using h
theorem heapB_no {es : List Off} {k : Nat} (hk : k < es.length) (h0 : 0 < k) (h : ahO (nthO es k) (nthO es ((k - 1) / 2)) = true) : heapB es = false := by
  cases hb : heapB es with
  | false => rfl
  | true => rw [heapB_all hb hk h0] at h; cases h
theorem poolOk_heap {es : List Off} (hl : es.length ≤ 50) (hok : ∀ i, i < es.length → okO (nthO es i) = true) : poolOk es = heapB es := by
  cases hb : heapB es with
  | true =>
    refine poolOk_yes hl (fun i hi => ?_)
    by_cases h0 : i = 0
    · exact okAtO_zero h0 (hok i hi)
    · rw [okAtO_at h0 (hok i hi), heapB_all hb hi (by omega)]; rfl
  | false =>
    cases hp : poolOk es with
    | false => rfl
    | true =>
      have H := (poolOk_iff.1 hp).2
      rw [heapB_yes (fun i hi h0 => ?_)] at hb
      · cases hb
      · have := H i hi
        rw [okAtO_at (by omega) (hok i hi)] at this
        simpa using this
set_option maxHeartbeats 4000000 in
set_option maxRecDepth 100000 in
theorem oless_any (v : Value) (es : List Off) (i j : Nat) (w : World) (hr : RdO w v es) (hi : i < es.length) (hj : j < es.length) :
    Calls Try.prog 47 #[v, .int .i64 i, .int .i64 j] w fun e w' => e = .returned (.bool (ahO (nthO es i) (nthO es j))) ∧ Below w.heap.size w w' := by
  obtain ⟨a, cap, hv, hl, hm, _⟩ := id hr
  unfold maxLen at hm
  subst hv
  obtain ⟨b, off, rfl, hc⟩ := hr.at rfl i hi
  obtain ⟨b2, off2, ha2, hd⟩ := hr.at rfl j hj
  simp only [Option.some.injEq, Addr.mk.injEq] at ha2
  obtain ⟨rfl, rfl, _⟩ := ha2
  obtain ⟨c0, c1⟩ := hc
  obtain ⟨d0, d1⟩ := hd
  obtain ⟨x, hx⟩ : ∃ x, x = nthO es i := ⟨_, rfl⟩
  obtain ⟨y, hy⟩ : ∃ y, y = nthO es j := ⟨_, rfl⟩
  rw [← hx] at c0 c1 ⊢
  rw [← hy] at d0 d1 ⊢
  have HCA : Hid (∀ W, Calls Try.prog 57 #[.agg #[.int .i64 x.fee, .string x.text], .agg #[.int .i64 y.fee, .string y.text]] W fun e w' => e = .returned (.bool (ahO x y)) ∧ Below W.heap.size W w') := fun W => ahead_any x y W
  generalize ahO x y = A at HCA ⊢
  clear hx hy hr
  generalize es.length = n at hl hi hj ⊢
  go_enter Try.func47, Try.ntmps47
  go_wp2_with fail
  refine wp_region_noPanic ?_
  refine wp_region_held_drew (S := fun w' => (w'.cell? ⟨b, off + i * 2, none⟩ = some (.int .i64 x.fee) ∧ w'.cell? ⟨b, off + i * 2 + 1, none⟩ = some (.string x.text)) ∧ (w'.cell? ⟨b, off + j * 2, none⟩ = some (.int .i64 y.fee) ∧ w'.cell? ⟨b, off + j * 2 + 1, none⟩ = some (.string y.text))) (by kernel_rfl) ⟨⟨c0, c1⟩, ⟨d0, d1⟩⟩ (fun hH => ?_)
  refine tkG 0 7 hH ?_
  try simp only [Act.put, List.setIfInBounds_toArray, List.set_cons_zero, List.set_cons_succ]
  refine tkG 1 8 hH ?_
  try simp only [Act.put, List.setIfInBounds_toArray, List.set_cons_zero, List.set_cons_succ]
  refine tkG 2 9 hH ?_
  try simp only [Act.put, List.setIfInBounds_toArray, List.set_cons_zero, List.set_cons_succ]
  refine tkG 3 10 hH ?_
  try simp only [Act.put, List.setIfInBounds_toArray, List.set_cons_zero, List.set_cons_succ]
  refine tkG 4 11 hH ?_
  try simp only [Act.put, List.setIfInBounds_toArray, List.set_cons_zero, List.set_cons_succ]
  refine tkG 5 12 hH ?_
  try simp only [Act.put, List.setIfInBounds_toArray, List.set_cons_zero, List.set_cons_succ]
  refine tkG 6 13 hH ?_
  try simp only [Act.put, List.setIfInBounds_toArray, List.set_cons_zero, List.set_cons_succ]
  refine tkG 7 14 hH ?_
  try simp only [Act.put, List.setIfInBounds_toArray, List.set_cons_zero, List.set_cons_succ]
  refine wpAnyH_ready (rs := [8]) (by kernel_rfl) (by simp) ?_
  refine AllReadyH.cons rfl (fun K hK => ?_) AllReadyH.nil
  go_simp
  refine (HCA.out _).mono ?_
  rintro e w1 ⟨rfl, hb1⟩
  refine hK.out _ _ ⟨OffAt.below (w := w.drew) (e := x) hH.1 hb1, OffAt.below (w := w.drew) (e := y) hH.2 hb1⟩ (fun hA => ?_)
  clear hK K
  try simp only [Act.put, List.setIfInBounds_toArray, List.set_cons_zero, List.set_cons_succ]
  refine tkG 9 6 hA ?_
  try simp only [Act.put, List.setIfInBounds_toArray, List.set_cons_zero, List.set_cons_succ]
  refine wpAnyH_done (by kernel_rfl) ?_ _
  refine NoPanic.normal ?_
  have bF : Below w.heap.size w w1 := ((Below.refl w.heap.size w).drew).trans hb1
  clear hH hA hb1 c0 c1 d0 d1
  go_wp2
  go_ret
  exact ⟨rfl, bF⟩
theorem oless_at (v : Value) (es : List Off) (i j : Nat) (x y : Int) (L : Bool) (w : World) (hx : x = (i : Int)) (hy : y = (j : Int)) (hr : RdO w v es) (hi : i < es.length) (hj : j < es.length) (hL : ahO (nthO es i) (nthO es j) = L) :
    Calls Try.prog 47 #[v, .int .i64 x, .int .i64 y] w fun e w' => e = .returned (.bool L) ∧ Below w.heap.size w w' := by
  subst hx; subst hy; subst hL; exact oless_any v es i j w hr hi hj
set_option maxHeartbeats 4000000 in
set_option maxRecDepth 100000 in
theorem isHeap_any (v : Value) (es : List Off) (w : World) (hr : RdO w v es) (hl : es.length ≤ 50) :
    Calls Try.prog 46 #[.int .i64 es.length, .func (.func 47) #[v] #[]] w fun e w' => e = .returned (.bool (heapB es)) ∧ Below w.heap.size w w' := by
  go_enter Try.func46, Try.ntmps46
  go_wp2
  go_loopw [5] (fun i wr => ∃ k : Nat, 1 ≤ k ∧ k ≤ es.length + 1 ∧ i = .int .i64 k ∧ Hid (∀ i, i < k → 0 < i → ahO (nthO es i) (nthO es ((i - 1) / 2)) = false) ∧ Below w.heap.size w wr) (fun i _ => es.length + 1 - (intOf i).toNat)
  case atStart => exact ⟨1, by omega, by omega, rfl, (fun i h1 h2 => by omega), Below.refl _ _⟩
  case round =>
    obtain ⟨k, hk1, hk, rfl, HO, hb⟩ := hrel
    by_cases hlt : k < es.length
    · obtain ⟨j, hj⟩ : ∃ j, j = (k - 1) / 2 := ⟨_, rfl⟩
      obtain ⟨m, hm'⟩ : ∃ m, m = k - 1 := ⟨_, rfl⟩
      have hkm : (k : Int) - 1 = (m : Int) := by omega
      have hwm : IntKind.i64.wrap (m : Int) = (m : Int) := by rw [IntKind.wrap_i64]; omega
      have hdv : (m : Int).tdiv 2 = (j : Int) := by rw [hj, ← hm', Int.tdiv_eq_ediv_of_nonneg (by omega)]; omega
      have hwr : IntKind.i64.wrap (j : Int) = (j : Int) := by rw [IntKind.wrap_i64]; omega
      have hjn : j < es.length := by omega
      have hr2 := hr.below hb
      cases hA : ahO (nthO es k) (nthO es j) with
      | true =>
        have RES : Hid (heapB es = false) := heapB_no hlt (by omega) (by rw [← hj]; exact hA)
        clear hj hm'
        go_wp2_with fail
        refine (oless_at v es k j _ _ true _ ?e1 ?e2 hr2 hlt hjn hA).mono ?_
        case e1 => first | rfl | omega
        case e2 => first | rfl | omega
        rintro e w1 ⟨rfl, hb1⟩
        have bz := hb.trans (hb1.mono hb.size)
        clear hb1 hr2
        go_wp2
        go_ret
        exact ⟨ret_bool RES.out.symm, bz⟩
      | false =>
        have HO2 : Hid (∀ i, i < k + 1 → 0 < i → ahO (nthO es i) (nthO es ((i - 1) / 2)) = false) := fun i h1 h2 => by
          by_cases e : i = k
          · rw [e, ← hj]; exact hA
          · exact HO.out i (by omega) h2
        clear hj hm'
        go_wp2_with fail
        refine (oless_at v es k j _ _ false _ ?e1 ?e2 hr2 hlt hjn hA).mono ?_
        case e1 => first | rfl | omega
        case e2 => first | rfl | omega
        rintro e w1 ⟨rfl, hb1⟩
        have bz := hb.trans (hb1.mono hb.size)
        clear hb1 hr2
        go_wp2
        go_roundw
        case rel => exact ⟨k + 1, by omega, by omega, by go_num, HO2, bz⟩
        case measure => simp [intOf]; omega
    · have RES : Hid (heapB es = true) := heapB_yes (fun i hi h0 => HO.out i (by omega) h0)
      go_wp2
      go_ret
      exact ⟨ret_bool RES.out.symm, hb⟩
set_option maxHeartbeats 4000000 in
set_option maxRecDepth 100000 in
theorem implPoolOk_any (v : Value) (es : List Off) (w : World) (hr : RdO w v es) (hf : ∀ e ∈ es, e.text.size ≤ maxLen) :
    Calls Try.prog 17 #[v] w fun e w' => e = .returned (.bool (poolOk es)) ∧ Below w.heap.size w w' := by
  obtain ⟨a, cap, hv, hl, hm, _⟩ := id hr
  unfold maxLen at hm
  subst hv
  have HF : Hid (∀ e ∈ es, e.text.size ≤ maxLen) := hf
  clear hf
  by_cases hbig : 50 < es.length
  · have RES : Hid (poolOk es = false) := poolOk_big hbig
    go_enter Try.func17, Try.ntmps17
    go_wp2
    go_ret
    exact ⟨ret_bool RES.out.symm, Below.refl _ _⟩
  · go_enter Try.func17, Try.ntmps17
    go_wp2
    go_loopw [10] (fun i wr => ∃ k : Nat, k ≤ es.length ∧ i = .int .i64 k ∧ Hid (∀ i, i < k → okO (nthO es i) = true) ∧ Below w.heap.size w wr) (fun i _ => es.length - (intOf i).toNat)
    case atStart => exact ⟨0, Nat.zero_le _, rfl, (fun i hi => by omega), Below.refl _ _⟩
    case round =>
      obtain ⟨k, hk, rfl, HO, hb⟩ := hrel
      by_cases hlt : k < es.length
      · obtain ⟨b, off, rfl, hc⟩ := hr.at rfl k hlt
        have hc2 := hc.below hb
        have hlt2 := hc2.lt
        obtain ⟨c0, c1⟩ := hc2
        have hfk := HF.out _ (List.getElem_mem hlt)
        rw [← nthO_eq hlt] at hfk
        obtain ⟨x, hx⟩ : ∃ x, x = nthO es k := ⟨_, rfl⟩
        rw [← hx] at c0 c1 hfk
        have HX : Hid (x = nthO es k) := hx
        clear hx hc
        cases hok : okO x with
        | false =>
          have RES : Hid (poolOk es = false) := poolOk_no hlt (okAtO_no (by rw [← HX.out]; exact hok))
          have HC : Hid (∀ W, Calls Try.prog 38 #[.agg #[.int .i64 x.fee, .string x.text]] W fun e w' => e = .returned (.bool false) ∧ Below W.heap.size W w') := fun W => by rw [← hok]; exact offerOk_any x W hfk
          go_wp2_with fail
          refine (HC.out _).mono ?_
          rintro e w1 ⟨rfl, hb1⟩
          have bz : Below w.heap.size w w1 := (hb.alloc hb.size _).trans (hb1.mono (by have := hb.size; simp; omega))
          clear hb1 c0 c1
          go_wp2
          go_ret
          exact ⟨ret_bool RES.out.symm, bz⟩
        | true =>
          have HO2 : Hid (∀ i, i < k + 1 → okO (nthO es i) = true) := fun i hi => by
            by_cases e : i = k
            · rw [e, ← HX.out]; exact hok
            · exact HO.out i (by omega)
          have HC : Hid (∀ W, Calls Try.prog 38 #[.agg #[.int .i64 x.fee, .string x.text]] W fun e w' => e = .returned (.bool true) ∧ Below W.heap.size W w') := fun W => by rw [← hok]; exact offerOk_any x W hfk
          go_wp2_with fail
          refine (HC.out _).mono ?_
          rintro e w1 ⟨rfl, hb1⟩
          have bz : Below w.heap.size w w1 := (hb.alloc hb.size _).trans (hb1.mono (by have := hb.size; simp; omega))
          clear hb1 c0 c1
          go_wp2
          go_roundw
          case rel => exact ⟨k + 1, by omega, by go_num, HO2, bz⟩
          case measure => simp [intOf]; omega
      · have hke : k = es.length := by omega
        subst hke
        have RES : Hid (heapB es = poolOk es) := (poolOk_heap (by omega) HO.out).symm
        have HC : Hid (∀ W, RdO W (.slice a es.length cap) es → Calls Try.prog 46 #[.int .i64 es.length, .func (.func 47) #[.slice a es.length cap] #[]] W fun e w' => e = .returned (.bool (heapB es)) ∧ Below W.heap.size W w') := fun W h => isHeap_any _ es W h (by omega)
        have hr2 := hr.below hb
        go_wp2_with fail
        refine (HC.out _ hr2).mono ?_
        rintro e w1 ⟨rfl, hb1⟩
        have bz : Below w.heap.size w w1 := hb.trans (hb1.mono hb.size)
        clear hb1 hr2
        go_wp2
        go_ret
        exact ⟨ret_bool RES.out, bz⟩
end Go.Proofs.Yteohiicaiilicaa
