/- The contracts of the library's look for a vote in a list, of its comparison of numbers, and of the program's votes of a proof. -/
-- UNF Gen
import Derived.Test.YtckidhcknibceaaDoorPrfMath
import Derived.Deep.RegionHeld3
namespace Go.Proofs.YtckidhcknibceaaDoor
open Go.RowKit
set_option maxHeartbeats 4000000 in
set_option maxRecDepth 100000 in
theorem voIndex_any (v : Value) (es : List Vot) (x : Vot) (w : World) (hr : RdVo w v es) :
    Calls Tryd.prog 83 #[v, .agg #[.int .i64 x.vw, .int .i64 x.nm, .int .i64 x.sv, .int .i64 x.tg]] w fun e w' => Below w.heap.size w w' ∧ ∃ z : Int, e = .returned (.int .i64 z) ∧ decide (0 ≤ z) = decide (x ∈ es) := by
  obtain ⟨a, cap, hv, hl, hm, _⟩ := id hr
  unfold maxLen at hm
  subst hv
  obtain ⟨n, hn⟩ : ∃ n, n = es.length := ⟨_, rfl⟩
  have HN : Hid (n = es.length) := hn
  have hr1 : RdVo w (.slice a n cap) es := by rw [hn]; exact hr
  have HR : Hid (RdVo w (.slice a n cap) es) := hr1
  rw [← hn] at hl ⊢
  clear hr hn hr1
  have HX : Hid (BoxV (w.alloc (.cells (VC x) 35)) w.heap.size x) := boxV_new w x
  have HB0 : Hid (Below w.heap.size w (w.alloc (.cells (VC x) 35))) := below1 w _
  unfold VC at HX HB0
  obtain ⟨w1, hw1⟩ : ∃ w1, w1 = w.alloc (.cells #[.int .i64 x.vw, .int .i64 x.nm, .int .i64 x.sv, .int .i64 x.tg] 35) := ⟨_, rfl⟩
  rw [← hw1] at HX HB0
  go_enter Tryd.func83, Tryd.ntmps83
  go_wp2
  rw [← hw1]
  clear hw1
  go_loopw [8] (fun i wr => ∃ k : Nat, k ≤ n ∧ i = .int .i64 k ∧ Hid (∀ j, j < k → nthVo es j ≠ x) ∧ Hid (Below w1.heap.size w1 wr)) (fun i _ => n - (intOf i).toNat)
  case atStart => exact ⟨0, Nat.zero_le _, rfl, (fun j hj => by omega), Below.refl _ _⟩
  case round =>
    obtain ⟨k, hk, rfl, HO, HW⟩ := hrel
    by_cases hlt : k < n
    · have hke : k < es.length := by rw [← HN.out]; exact hlt
      obtain ⟨b, off, rfl, hc⟩ := (HR.out.below (HB0.out.trans (HW.out.mono HB0.out.size))).at HN.out k hke
      obtain ⟨y, hy⟩ : ∃ y, y = nthVo es k := ⟨_, rfl⟩
      rw [← hy] at hc
      have HY : Hid (y = nthVo es k) := hy
      have HC : Hid (VotAt wr b (off + k * 4) y) := hc
      have hk1 : (k : Int) < (n : Int) := by omega
      clear hy hc
      by_cases hx : y = x
      · have RES : Hid (x ∈ es) := by unfold Hid; rw [← hx, HY.out, nthVo_eq hke]; exact List.getElem_mem hke
        subst hx
        clear HY
        go_wp2_with fail
        refine wp_region_noPanic ?_
        refine wp_region_held_drew (S := fun w' => (w'.cell? ⟨w.heap.size, 0, none⟩ = some (.int .i64 y.vw) ∧ w'.cell? ⟨w.heap.size, 1, none⟩ = some (.int .i64 y.nm) ∧ w'.cell? ⟨w.heap.size, 2, none⟩ = some (.int .i64 y.sv) ∧ w'.cell? ⟨w.heap.size, 3, none⟩ = some (.int .i64 y.tg)) ∧ (w'.cell? ⟨b, off + k * 4, none⟩ = some (.int .i64 y.vw) ∧ w'.cell? ⟨b, off + k * 4 + 1, none⟩ = some (.int .i64 y.nm) ∧ w'.cell? ⟨b, off + k * 4 + 2, none⟩ = some (.int .i64 y.sv) ∧ w'.cell? ⟨b, off + k * 4 + 3, none⟩ = some (.int .i64 y.tg))) (by kernel_rfl) ⟨BoxV.facts (BoxV.below HX.out HW.out.drew), VotAt.below (w := wr) HC.out (Below.refl _ _).drew⟩ (fun h0 => ?_)
        refine tkG 0 11 h0 ?_
        try simp only [Act.put, List.setIfInBounds_toArray, List.set_cons_zero, List.set_cons_succ]
        refine tkG 1 12 h0 ?_
        try simp only [Act.put, List.setIfInBounds_toArray, List.set_cons_zero, List.set_cons_succ]
        refine tkG 2 13 h0 ?_
        try simp only [Act.put, List.setIfInBounds_toArray, List.set_cons_zero, List.set_cons_succ]
        refine tkG 3 14 h0 ?_
        try simp only [Act.put, List.setIfInBounds_toArray, List.set_cons_zero, List.set_cons_succ]
        refine tkG 4 15 h0 ?_
        try simp only [Act.put, List.setIfInBounds_toArray, List.set_cons_zero, List.set_cons_succ]
        refine tkG 5 16 h0 ?_ (v := .bool true) (hy := by intro w hS; (try dsimp only [Nat.zero_add] at hS); go_simp; skip)
        try simp only [Act.put, List.setIfInBounds_toArray, List.set_cons_zero, List.set_cons_succ]
        refine wpAnyH_done (by kernel_rfl) ?_ _
        refine NoPanic.normal ?_
        go_wp2
        go_ret
        exact ⟨HB0.out.trans (HW.out.drew.mono HB0.out.size), _, rfl, by rw [decide_eq_true (RES.out : _ ∈ es)]; exact decide_eq_true (by omega)⟩
      · have hne4 : ¬ (x.vw = y.vw ∧ x.nm = y.nm ∧ x.sv = y.sv ∧ x.tg = y.tg) := fun h => hx (by cases x; cases y; simp only at h; obtain ⟨a, b, c, d⟩ := h; subst a b c d; rfl)
        have HO2 : Hid (∀ j, j < k + 1 → nthVo es j ≠ x) := by
          intro j hj
          by_cases hjk : j = k
          · rw [hjk, ← HY.out]; exact hx
          · exact HO.out j (by omega)
        clear hx HY
        go_wp2_with fail
        refine wp_region_noPanic ?_
        refine wp_region_held_drew (S := fun w' => (w'.cell? ⟨w.heap.size, 0, none⟩ = some (.int .i64 x.vw) ∧ w'.cell? ⟨w.heap.size, 1, none⟩ = some (.int .i64 x.nm) ∧ w'.cell? ⟨w.heap.size, 2, none⟩ = some (.int .i64 x.sv) ∧ w'.cell? ⟨w.heap.size, 3, none⟩ = some (.int .i64 x.tg)) ∧ (w'.cell? ⟨b, off + k * 4, none⟩ = some (.int .i64 y.vw) ∧ w'.cell? ⟨b, off + k * 4 + 1, none⟩ = some (.int .i64 y.nm) ∧ w'.cell? ⟨b, off + k * 4 + 2, none⟩ = some (.int .i64 y.sv) ∧ w'.cell? ⟨b, off + k * 4 + 3, none⟩ = some (.int .i64 y.tg))) (by kernel_rfl) ⟨BoxV.facts (BoxV.below HX.out HW.out.drew), VotAt.below (w := wr) HC.out (Below.refl _ _).drew⟩ (fun h0 => ?_)
        refine tkG 0 11 h0 ?_
        try simp only [Act.put, List.setIfInBounds_toArray, List.set_cons_zero, List.set_cons_succ]
        refine tkG 1 12 h0 ?_
        try simp only [Act.put, List.setIfInBounds_toArray, List.set_cons_zero, List.set_cons_succ]
        refine tkG 2 13 h0 ?_
        try simp only [Act.put, List.setIfInBounds_toArray, List.set_cons_zero, List.set_cons_succ]
        refine tkG 3 14 h0 ?_
        try simp only [Act.put, List.setIfInBounds_toArray, List.set_cons_zero, List.set_cons_succ]
        refine tkG 4 15 h0 ?_
        try simp only [Act.put, List.setIfInBounds_toArray, List.set_cons_zero, List.set_cons_succ]
        refine tkG 5 16 h0 ?_ (v := .bool false) (hy := by intro w hS; (try dsimp only [Nat.zero_add] at hS); go_simp; by_cases a : x.vw = y.vw <;> by_cases b : x.nm = y.nm <;> by_cases c : x.sv = y.sv <;> by_cases d : x.tg = y.tg <;> (simp [a, b, c, d]; try exact hne4 ⟨a, b, c, d⟩))
        try simp only [Act.put, List.setIfInBounds_toArray, List.set_cons_zero, List.set_cons_succ]
        refine wpAnyH_done (by kernel_rfl) ?_ _
        refine NoPanic.normal ?_
        go_wp2
        go_roundw
        case rel => exact ⟨k + 1, by omega, by go_num, HO2, HW.out.drew⟩
        case measure => simp [intOf]; omega
    · have hke : k = n := by omega
      subst hke
      have RES : Hid (x ∉ es) := by
        unfold Hid
        intro hx
        obtain ⟨j, hj, he⟩ := List.getElem_of_mem hx
        exact HO.out j (by rw [HN.out]; exact hj) (by rw [nthVo_eq hj]; exact he)
      go_wp2
      go_ret
      exact ⟨HB0.out.trans (HW.out.mono HB0.out.size), _, rfl, by rw [decide_eq_false RES.out]; rfl⟩
set_option maxHeartbeats 1000000 in
set_option maxRecDepth 100000 in
theorem voContains_any (b : Bool) (v : Value) (es : List Vot) (x : Vot) (hb : decide (x ∈ es) = b) (w : World) (hr : RdVo w v es) :
    Calls Tryd.prog 40 #[v, .agg #[.int .i64 x.vw, .int .i64 x.nm, .int .i64 x.sv, .int .i64 x.tg]] w fun e w' => e = .returned (.bool b) ∧ Below w.heap.size w w' := by
  have HI : Hid (∀ W, RdVo W v es → Calls Tryd.prog 83 #[v, .agg #[.int .i64 x.vw, .int .i64 x.nm, .int .i64 x.sv, .int .i64 x.tg]] W fun e w' => Below W.heap.size W w' ∧ ∃ z : Int, e = .returned (.int .i64 z) ∧ decide (0 ≤ z) = b) := fun W h => by rw [← hb]; exact voIndex_any v es x W h
  have b0 := below1 w (.cells #[.int .i64 x.vw, .int .i64 x.nm, .int .i64 x.sv, .int .i64 x.tg] 35)
  have HR := hr.below b0
  obtain ⟨a, cap, hv, _⟩ := id hr
  subst hv
  clear hb hr
  go_enter Tryd.func40, Tryd.ntmps40
  go_wp2_with fail
  refine (HI.out _ HR).mono ?_
  rintro e w1 ⟨hb1, z, rfl, hz⟩
  have b1 := b0.trans (hb1.mono b0.size)
  have HZ : Hid (decide (0 ≤ z) = b) := hz
  clear b0 hb1 HR hz
  go_wp2
  go_ret
  exact ⟨ret_bool HZ.out, b1⟩
set_option maxHeartbeats 1000000 in
set_option maxRecDepth 100000 in
theorem equalI_any (b : Bool) (va vb : Value) (xs ys : List Int) (hb : decide (xs = ys) = b) (w : World) (ha : RdI w va xs) (hb2 : RdI w vb ys) :
    Calls Tryd.prog 54 #[va, vb] w fun e w' => e = .returned (.bool b) ∧ Below w.heap.size w w' := by
  have HBB : Hid (decide (xs = ys) = b) := hb
  obtain ⟨aa, ca, hva, hla, hma, _⟩ := id ha
  obtain ⟨ab, cb, hvb, hlb, hmb, _⟩ := id hb2
  unfold maxLen at hma hmb
  obtain ⟨n, hn⟩ : ∃ n, n = xs.length := ⟨_, rfl⟩
  obtain ⟨m, hm⟩ : ∃ m, m = ys.length := ⟨_, rfl⟩
  have HN : Hid (n = xs.length) := hn
  have HM : Hid (m = ys.length) := hm
  rw [← hn] at hva hla
  rw [← hm] at hvb hlb
  subst hva hvb
  have HA : Hid (RdI w (.slice aa n ca) xs) := ha
  have HC : Hid (RdI w (.slice ab m cb) ys) := hb2
  clear ha hb2 hn hm hb
  by_cases hnm : n = m
  · subst hnm
    have hne : ((n : Int) != (n : Int)) = false := by simp
    go_enter Tryd.func54, Tryd.ntmps54
    go_wp2
    go_loopw [13] (fun i wr => ∃ k : Nat, k ≤ n ∧ i = .int .i64 k ∧ Hid (∀ j, j < k → nI xs j = nI ys j) ∧ Hid (Drew w wr)) (fun i _ => n - (intOf i).toNat)
    case atStart => exact ⟨0, Nat.zero_le _, rfl, (fun j hj => by omega), drew_refl w⟩
    case round =>
      obtain ⟨k, hk, rfl, HO, HW⟩ := hrel
      by_cases hlt : k < n
      · obtain ⟨b1, o1, rfl, c1⟩ := HA.out.at k (by rw [← HN.out]; exact hlt)
        obtain ⟨b2, o2, rfl, c2⟩ := HC.out.at k (by rw [← HM.out]; exact hlt)
        rw [← nI_eq] at c1 c2
        rw [← HW.out.cell] at c1 c2
        have hk1 : (k : Int) < (n : Int) := by omega
        by_cases he : nI xs k = nI ys k
        · have HO2 : Hid (∀ j, j < k + 1 → nI xs j = nI ys j) := by
            intro j hj
            by_cases hjk : j = k
            · rw [hjk]; exact he
            · exact HO.out j (by omega)
          rw [he] at c1
          generalize nI ys k = y at c1 c2
          have hd : (y != y) = false := by simp
          clear he
          go_wp2
          go_quiet (fail)
          go_wp2
          go_roundw
          case rel => exact ⟨k + 1, by omega, by go_num, HO2, HW.out.on _⟩
          case measure => simp [intOf]; omega
        · have RES : Hid (b = false) := by unfold Hid; rw [← HBB.out]; exact decide_eq_false (fun e => he (by rw [e]))
          have hd : (nI xs k != nI ys k) = true := by simp [he]
          generalize nI xs k = x at c1 hd
          generalize nI ys k = y at c2 hd
          clear he
          go_wp2
          go_quiet (fail)
          go_wp2
          go_ret
          exact ⟨ret_bool RES.out.symm, (HW.out.on _).below⟩
      · have hke : k = n := by omega
        subst hke
        have RES : Hid (b = true) := by
          unfold Hid
          rw [← HBB.out]
          refine decide_eq_true (List.ext_getElem (by rw [← HN.out, ← HM.out]) fun j h1 h2 => ?_)
          have := HO.out j (by rw [HN.out]; exact h1)
          rwa [nI_eq h1, nI_eq h2] at this
        go_wp2
        go_ret
        exact ⟨ret_bool RES.out.symm, HW.out.below⟩
  · have hne : ((n : Int) != (m : Int)) = true := by simp; omega
    have RES : Hid (b = false) := by unfold Hid; rw [← HBB.out]; exact decide_eq_false (fun e => hnm (by rw [HN.out, HM.out, e]))
    clear hnm
    go_enter Tryd.func54, Tryd.ntmps54
    go_wp2
    go_ret
    exact ⟨ret_bool RES.out.symm, Below.refl _ _⟩
end Go.Proofs.YtckidhcknibceaaDoor
