/- The contracts of both LeavesOk, and of what they ask of a place and a value. -/
import Derived.Test.YtmfopbkhlekhkaaDoorLefBase
import Derived.BigQuiet
import Derived.Deep.QuietTactic
namespace Go.Proofs.YtmfopbkhlekhkaaDoor
open Go.RowKit
/-- A Leaf that is as told. -/
def LefIn (x : Lef) : Prop := (0 ≤ x.pl ∧ x.pl ≤ 255) ∧ (0 ≤ x.va ∧ x.va ≤ 1000000000)
instance (x : Lef) : Decidable (LefIn x) := by unfold LefIn; infer_instance
/-- Leafs that are as told: each is, and they rise. -/
def LefOk (es : List Lef) : Prop := ∀ i, i < es.length → LefIn (nthL es i) ∧ (0 < i → (nthL es (i - 1)).pl < (nthL es i).pl)
instance (es : List Lef) : Decidable (LefOk es) := by unfold LefOk; infer_instance
def lefOk (es : List Lef) : Bool := decide (LefOk es)
theorem lefOk_no {es : List Lef} {k : Nat} (hk : k < es.length) (h : ¬ (LefIn (nthL es k) ∧ (0 < k → (nthL es (k - 1)).pl < (nthL es k).pl))) : lefOk es = false := by
  unfold lefOk; rw [decide_eq_false_iff_not]; exact fun H => h (H k hk)
theorem lefOk_yes {es : List Lef} (h : ∀ i, i < es.length → LefIn (nthL es i) ∧ (0 < i → (nthL es (i - 1)).pl < (nthL es i).pl)) : lefOk es = true := by
  unfold lefOk; rw [decide_eq_true_iff]; exact h
set_option maxHeartbeats 400000 in
theorem inL_any (x lo hi : Int) (w : World) :
    Calls Tryd.prog 49 #[.int .i64 x, .int .i64 lo, .int .i64 hi] w fun e w' => e = .returned (.bool (decide (lo ≤ x ∧ x ≤ hi))) ∧ w' = w := by
  go_enter Tryd.func49, Tryd.ntmps49
  go_wp2
  all_goals go_ret
  · exact ⟨ret_bool (by rw [Bool.eq_iff_iff]; simp; omega), rfl⟩
  · exact ⟨ret_bool (by rw [Bool.eq_iff_iff]; simp; omega), rfl⟩
set_option maxHeartbeats 400000 in
theorem l12Value_any (x : Int) (w : World) :
    Calls Tryd.prog 50 #[.int .i64 x] w fun e w' => e = .returned (.bool (decide (0 ≤ x ∧ x ≤ 1000000000))) ∧ w' = w := by
  go_enter Tryd.func50, Tryd.ntmps50
  go_wp2_with (go_at_call 49; refine (inL_any _ _ _ _).mono ?_; rintro e w' ⟨rfl, rfl⟩)
  go_ret
  exact ⟨ret_bool (by rw [Bool.eq_iff_iff]; simp), rfl⟩
set_option maxHeartbeats 400000 in
theorem trieAtOk_any (x : Int) (w : World) :
    Calls Tryd.prog 37 #[.int .i64 x] w fun e w' => e = .returned (.bool (decide (0 ≤ x ∧ x ≤ 255))) ∧ w' = w := by
  go_enter Tryd.func37, Tryd.ntmps37
  go_wp2
  all_goals go_ret
  · exact ⟨ret_bool (by rw [Bool.eq_iff_iff]; simp; omega), rfl⟩
  · exact ⟨ret_bool (by rw [Bool.eq_iff_iff]; simp; omega), rfl⟩
set_option maxHeartbeats 400000 in
theorem leafValueOk_any (x : Int) (w : World) :
    Calls Tryd.prog 59 #[.int .i64 x] w fun e w' => e = .returned (.bool (decide (0 ≤ x ∧ x ≤ 1000000000))) ∧ w' = w := by
  go_enter Tryd.func59, Tryd.ntmps59
  go_wp2
  all_goals go_ret
  · exact ⟨ret_bool (by rw [Bool.eq_iff_iff]; simp; omega), rfl⟩
  · exact ⟨ret_bool (by rw [Bool.eq_iff_iff]; simp; omega), rfl⟩
theorem LefAt.drewN {w : World} {b o : Nat} {e : Lef} (h : LefAt w b o e) (q : Nat) : LefAt (w.drewN q) b o e := h
theorem Drew.lef {w w' : World} {b o : Nat} {e : Lef} (h : Drew w w') (k : LefAt w b o e) : LefAt w' b o e := by obtain ⟨q, rfl⟩ := h; exact k
set_option maxHeartbeats 4000000 in
set_option maxRecDepth 100000 in
theorem specLeavesOk_any (v : Value) (es : List Lef) (w : World) (hr : RdL w v es) :
    Calls Tryd.prog 23 #[v] w fun e w' => e = .returned (.bool (lefOk es)) ∧ Drew w w' := by
  obtain ⟨a, cap, hv, hl, hm, _⟩ := id hr
  unfold maxLen at hm
  subst hv
  obtain ⟨n, hn⟩ : ∃ n, n = es.length := ⟨_, rfl⟩
  have HN : Hid (n = es.length) := hn
  have hr1 : RdL w (.slice a n cap) es := by rw [hn]; exact hr
  have HR : Hid (RdL w (.slice a n cap) es) := hr1
  rw [← hn] at hl ⊢
  clear hr hn hr1
  go_enter Tryd.func23, Tryd.ntmps23
  go_wp2
  go_loopw [3] (fun i wr => ∃ k : Nat, k ≤ n ∧ i = .int .i64 k ∧ Hid (∀ i, i < k → LefIn (nthL es i) ∧ (0 < i → (nthL es (i - 1)).pl < (nthL es i).pl)) ∧ Drew w wr) (fun i _ => n - (intOf i).toNat)
  case atStart => exact ⟨0, Nat.zero_le _, rfl, (fun i hi => by omega), drew_refl w⟩
  case round =>
    obtain ⟨k, hk, rfl, HO, HW⟩ := hrel
    by_cases hlt : k < n
    · have hke : k < es.length := by rw [← HN.out]; exact hlt
      obtain ⟨b, off, rfl, hc⟩ := HR.out.at HN.out k hke
      obtain ⟨c0, c1⟩ := HW.lef hc
      obtain ⟨x, hx⟩ : ∃ x, x = nthL es k := ⟨_, rfl⟩
      rw [← hx] at c0 c1
      have HX : Hid (x = nthL es k) := hx
      have hk1 : (k : Int) < (n : Int) := by omega
      clear hx hc
      obtain ⟨p, hp⟩ : ∃ p, p = x.pl := ⟨_, rfl⟩
      obtain ⟨u, hu⟩ : ∃ u, u = x.va := ⟨_, rfl⟩
      rw [← hp] at c0
      rw [← hu] at c1
      have HP : Hid (p = x.pl) := hp
      have HU : Hid (u = x.va) := hu
      clear hp hu
      by_cases h1 : 0 ≤ p ∧ p ≤ 255
      · have H1 : ∀ W, Calls Tryd.prog 49 #[.int .i64 p, .int .i64 0, .int .i64 255] W fun e w' => e = .returned (.bool true) ∧ w' = W := fun W => by have := inL_any p 0 255 W; rwa [decide_eq_true h1] at this
        by_cases h2 : 0 ≤ u ∧ u ≤ 1000000000
        · have H2 : ∀ W, Calls Tryd.prog 50 #[.int .i64 u] W fun e w' => e = .returned (.bool true) ∧ w' = W := fun W => by have := l12Value_any u W; rwa [decide_eq_true h2] at this
          have HIN : Hid (LefIn (nthL es k)) := by unfold Hid; rw [← HX.out]; exact ⟨by rw [← HP.out]; exact h1, by rw [← HU.out]; exact h2⟩
          by_cases hk0 : k = 0
          · have HO2 : Hid (∀ i, i < k + 1 → LefIn (nthL es i) ∧ (0 < i → (nthL es (i - 1)).pl < (nthL es i).pl)) := by
              intro i hi
              have hik : i = k := by omega
              rw [hik]; exact ⟨HIN.out, fun h => by omega⟩
            have hkn : decide (0 < k) = false := by simpa using hk0
            clear hk0 h1 h2
            go_wp2_with fail
            go_quiet (first | (go_at_call 49; exact Calls.quiet_of_same (H1 _)) | (go_at_call 50; exact Calls.quiet_of_same (H2 _)))
            go_wp2
            go_roundw
            case rel => exact ⟨k + 1, by omega, by go_num, HO2, HW.on _⟩
            case measure => simp [intOf]; omega
          · obtain ⟨b2, off2, ha2, hd⟩ := HR.out.at HN.out (k - 1) (by omega)
            simp only [Option.some.injEq, Addr.mk.injEq] at ha2
            obtain ⟨rfl, rfl, _⟩ := ha2
            obtain ⟨d0, d1⟩ := HW.lef hd
            obtain ⟨j, hj⟩ : ∃ j, j = k - 1 := ⟨k - 1, rfl⟩
            rw [← hj] at d0 d1
            obtain ⟨y, hy⟩ : ∃ y, y = (nthL es j).pl := ⟨_, rfl⟩
            rw [← hy] at d0
            have HY : Hid (y = (nthL es j).pl) := hy
            have HJ : Hid (j = k - 1) := hj
            have hkj : (k : Int) - 1 = (j : Int) := by omega
            have hkp : decide (0 < k) = true := by simp; omega
            have hkp2 : (0 : Int) < (k : Int) := by omega
            have hj1 : (j : Int) < (n : Int) := by omega
            have hj0 : (0 : Int) ≤ (j : Int) := by omega
            have hwr : IntKind.i64.wrap (j : Int) = (j : Int) := by rw [IntKind.wrap_i64]; omega
            clear hj hy hd d1
            by_cases h3 : p ≤ y
            · have RES : Hid (lefOk es = false) := lefOk_no hke (fun H => by have h4 := H.2 (by omega); rw [← HJ.out, ← HY.out, ← HX.out, ← HP.out] at h4; omega)
              have h3d : decide (p ≤ y) = true := decide_eq_true h3
              clear hk0 h1 h2
              go_wp2_with fail
              go_quiet (first | (go_at_call 49; exact Calls.quiet_of_same (H1 _)) | (go_at_call 50; exact Calls.quiet_of_same (H2 _)))
              go_wp2
              go_ret
              exact ⟨ret_bool RES.out.symm, HW.on _⟩
            · have HO2 : Hid (∀ i, i < k + 1 → LefIn (nthL es i) ∧ (0 < i → (nthL es (i - 1)).pl < (nthL es i).pl)) := by
                intro i hi
                by_cases hik : i = k
                · rw [hik]; exact ⟨HIN.out, fun _ => by rw [← HJ.out, ← HY.out, ← HX.out, ← HP.out]; omega⟩
                · exact HO.out i (by omega)
              have h3d : decide (p ≤ y) = false := decide_eq_false h3
              clear hk0 h1 h2
              go_wp2_with fail
              go_quiet (first | (go_at_call 49; exact Calls.quiet_of_same (H1 _)) | (go_at_call 50; exact Calls.quiet_of_same (H2 _)))
              go_wp2
              go_roundw
              case rel => exact ⟨k + 1, by omega, by go_num, HO2, HW.on _⟩
              case measure => simp [intOf]; omega
        · have H2 : ∀ W, Calls Tryd.prog 50 #[.int .i64 u] W fun e w' => e = .returned (.bool false) ∧ w' = W := fun W => by have := l12Value_any u W; rwa [decide_eq_false h2] at this
          have RES : Hid (lefOk es = false) := lefOk_no hke (fun H => h2 (by have h4 := H.1.2; rw [← HX.out, ← HU.out] at h4; exact h4))
          clear h1 h2
          go_wp2_with fail
          go_quiet (first | (go_at_call 49; exact Calls.quiet_of_same (H1 _)) | (go_at_call 50; exact Calls.quiet_of_same (H2 _)))
          go_wp2
          go_ret
          exact ⟨ret_bool RES.out.symm, HW.on _⟩
      · have H1 : ∀ W, Calls Tryd.prog 49 #[.int .i64 p, .int .i64 0, .int .i64 255] W fun e w' => e = .returned (.bool false) ∧ w' = W := fun W => by have := inL_any p 0 255 W; rwa [decide_eq_false h1] at this
        have RES : Hid (lefOk es = false) := lefOk_no hke (fun H => h1 (by have h4 := H.1.1; rw [← HX.out, ← HP.out] at h4; exact h4))
        clear h1
        go_wp2_with fail
        go_quiet (first | (go_at_call 49; exact Calls.quiet_of_same (H1 _)))
        go_wp2
        go_ret
        exact ⟨ret_bool RES.out.symm, HW.on _⟩
    · have hke : k = n := by omega
      subst hke
      have RES : Hid (lefOk es = true) := lefOk_yes (by rw [← HN.out]; exact HO.out)
      go_wp2
      go_ret
      exact ⟨ret_bool RES.out.symm, HW⟩
set_option maxHeartbeats 4000000 in
set_option maxRecDepth 100000 in
theorem implLeavesOk_any (v : Value) (es : List Lef) (w : World) (hr : RdL w v es) :
    Calls Tryd.prog 22 #[v] w fun e w' => e = .returned (.bool (lefOk es)) ∧ Below w.heap.size w w' := by
  obtain ⟨a, cap, hv, hl, hm, _⟩ := id hr
  unfold maxLen at hm
  subst hv
  obtain ⟨n, hn⟩ : ∃ n, n = es.length := ⟨_, rfl⟩
  have HN : Hid (n = es.length) := hn
  have hr1 : RdL w (.slice a n cap) es := by rw [hn]; exact hr
  have HR : Hid (RdL w (.slice a n cap) es) := hr1
  rw [← hn] at hl ⊢
  clear hr hn hr1
  go_enter Tryd.func22, Tryd.ntmps22
  go_wp2
  go_loopw [3, 8] (fun h i wr => ∃ (k : Nat) (y : Int), k ≤ n ∧ h = .int .i64 y ∧ i = .int .i64 k ∧ Hid (∀ i, i < k → LefIn (nthL es i) ∧ (0 < i → (nthL es (i - 1)).pl < (nthL es i).pl)) ∧ Hid ((k = 0 → y = -1) ∧ (0 < k → y = (nthL es (k - 1)).pl)) ∧ Below w.heap.size w wr) (fun _ i _ => n - (intOf i).toNat)
  case atStart => exact ⟨0, _, Nat.zero_le _, rfl, rfl, (fun i hi => by omega), ⟨fun _ => rfl, fun h => absurd h (by omega)⟩, Below.refl _ _⟩
  case round =>
    obtain ⟨k, y, hk, rfl, rfl, HO, HY, hb⟩ := hrel
    by_cases hlt : k < n
    · have hke : k < es.length := by rw [← HN.out]; exact hlt
      obtain ⟨b, off, rfl, hc⟩ := (HR.out.below hb).at HN.out k hke
      obtain ⟨c0, c1⟩ := id hc
      obtain ⟨x, hx⟩ : ∃ x, x = nthL es k := ⟨_, rfl⟩
      rw [← hx] at c0 c1
      have HX : Hid (x = nthL es k) := hx
      have hk1 : (k : Int) < (n : Int) := by omega
      clear hx hc
      obtain ⟨p, hp⟩ : ∃ p, p = x.pl := ⟨_, rfl⟩
      obtain ⟨u, hu⟩ : ∃ u, u = x.va := ⟨_, rfl⟩
      rw [← hp] at c0
      rw [← hu] at c1
      have HP : Hid (p = x.pl) := hp
      have HU : Hid (u = x.va) := hu
      clear hp hu
      have bz := hb.alloc hb.size (.cells #[.int .i64 p, .int .i64 u] 42)
      by_cases h0 : p ≤ y
      · have RES : Hid (lefOk es = false) := lefOk_no hke (fun H => by
          by_cases hk0 : k = 0
          · have e := HY.out.1 hk0
            have h4 := H.1.1.1
            rw [← HX.out, ← HP.out] at h4; omega
          · have e := HY.out.2 (by omega)
            have h4 := H.2 (by omega)
            rw [← e, ← HX.out, ← HP.out] at h4; omega)
        have hd : decide (p ≤ y) = true := decide_eq_true h0
        go_wp2
        go_ret
        exact ⟨ret_bool RES.out.symm, bz⟩
      · have hd : decide (p ≤ y) = false := decide_eq_false h0
        by_cases h1 : 0 ≤ p ∧ p ≤ 255
        · have H1 : ∀ W, Calls Tryd.prog 37 #[.int .i64 p] W fun e w' => e = .returned (.bool true) ∧ w' = W := fun W => by have := trieAtOk_any p W; rwa [decide_eq_true h1] at this
          by_cases h2 : 0 ≤ u ∧ u ≤ 1000000000
          · have H2 : ∀ W, Calls Tryd.prog 59 #[.int .i64 u] W fun e w' => e = .returned (.bool true) ∧ w' = W := fun W => by have := leafValueOk_any u W; rwa [decide_eq_true h2] at this
            have HO2 : Hid (∀ i, i < k + 1 → LefIn (nthL es i) ∧ (0 < i → (nthL es (i - 1)).pl < (nthL es i).pl)) := by
              intro i hi
              by_cases hik : i = k
              · rw [hik, ← HX.out]
                refine ⟨⟨by rw [← HP.out]; exact h1, by rw [← HU.out]; exact h2⟩, fun hp => ?_⟩
                rw [← HY.out.2 hp, ← HP.out]; omega
              · exact HO.out i (by omega)
            have HY2 : Hid ((k + 1 = 0 → p = -1) ∧ (0 < k + 1 → p = (nthL es (k + 1 - 1)).pl)) := ⟨fun h => by omega, fun _ => by rw [Nat.add_sub_cancel, ← HX.out]; exact HP.out⟩
            clear h1 h2 h0
            go_wp2_with (first | (go_at_call 37; refine (H1 _).mono ?_; rintro e w' ⟨rfl, rfl⟩) | (go_at_call 59; refine (H2 _).mono ?_; rintro e w' ⟨rfl, rfl⟩))
            go_roundw
            case rel => exact ⟨k + 1, _, by omega, rfl, by go_num, HO2, HY2, bz⟩
            case measure => simp [intOf]; omega
          · have H2 : ∀ W, Calls Tryd.prog 59 #[.int .i64 u] W fun e w' => e = .returned (.bool false) ∧ w' = W := fun W => by have := leafValueOk_any u W; rwa [decide_eq_false h2] at this
            have RES : Hid (lefOk es = false) := lefOk_no hke (fun H => h2 (by have h4 := H.1.2; rw [← HX.out, ← HU.out] at h4; exact h4))
            clear h1 h2 h0
            go_wp2_with (first | (go_at_call 37; refine (H1 _).mono ?_; rintro e w' ⟨rfl, rfl⟩) | (go_at_call 59; refine (H2 _).mono ?_; rintro e w' ⟨rfl, rfl⟩))
            go_ret
            exact ⟨ret_bool RES.out.symm, bz⟩
        · have H1 : ∀ W, Calls Tryd.prog 37 #[.int .i64 p] W fun e w' => e = .returned (.bool false) ∧ w' = W := fun W => by have := trieAtOk_any p W; rwa [decide_eq_false h1] at this
          have RES : Hid (lefOk es = false) := lefOk_no hke (fun H => h1 (by have h4 := H.1.1; rw [← HX.out, ← HP.out] at h4; exact h4))
          clear h1 h0
          go_wp2_with (go_at_call 37; refine (H1 _).mono ?_; rintro e w' ⟨rfl, rfl⟩)
          go_ret
          exact ⟨ret_bool RES.out.symm, bz⟩
    · have hke : k = n := by omega
      subst hke
      have RES : Hid (lefOk es = true) := lefOk_yes (by rw [← HN.out]; exact HO.out)
      go_wp2
      go_ret
      exact ⟨ret_bool RES.out.symm, hb⟩
end Go.Proofs.YtmfopbkhlekhkaaDoor
