/- The contract of the model's l2Number: some number; of a number's own digits that number. -/
import Derived.Test.YtdleolgkbkoekaaDoorSltMath
namespace Go.Proofs.YtdleolgkbkoekaaDoor
open Go.RowKit
theorem toListB (b : ByteArray) : b.toList = b.data.toList := ByteArray.toList_eq b
theorem toList_ne {s : ByteArray} (h : 0 < s.size) : s.toList.isEmpty = false := by
  rw [toListB, List.isEmpty_eq_false_iff]; intro e
  have := size_length s
  rw [e] at this
  simp at this
  omega
theorem toList_nil {s : ByteArray} (h : s.size = 0) : s.toList.isEmpty = true := by
  rw [toListB, List.isEmpty_iff]
  exact List.length_eq_zero_iff.1 (by rw [size_length]; exact h)
theorem dec_lenk : ∀ (k u : Nat), 1 ≤ k → u < 10 ^ k → (Lib.decDigits u).length ≤ k
  | 0, u, h, _ => by omega
  | k + 1, u, _, h => by
    rw [dec_left, List.length_append, List.length_singleton]
    unfold left
    split
    · simp
    · rename_i h0
      by_cases hk : k = 0
      · subst hk; omega
      · have := dec_lenk k (u / 10) (by omega) (by rw [Nat.pow_succ] at h; omega)
        omega
def NumP (w : World) (e : Ending) (w' : World) : Prop := (∃ (n : Int) (b : Bool), e = .returned (.tuple #[.int .i64 n, .bool b])) ∧ w' = w
theorem numP {w : World} (n : Int) (b : Bool) : NumP w (.returned (.tuple #[.int .i64 n, .bool b])) w := ⟨⟨n, b, rfl⟩, rfl⟩
set_option maxHeartbeats 4000000 in
set_option maxRecDepth 100000 in
theorem numberS_any (s : ByteArray) (w : World) (hs : s.size ≤ 1048576) :
    Calls Tryd.prog 46 #[.string s] w fun e w' => NumP w e w' := by
  by_cases h0 : s.size = 0
  · have hne := toList_nil h0
    have c1 : ((s.size : Int) - 0 < 1) := by omega
    go_enter Tryd.func46, Tryd.ntmps46
    go_wp2
    go_ret2
    exact numP _ _
  have hp : 0 < s.size := by omega
  have hne := toList_ne hp
  clear h0
  by_cases h45 : s[0] = 45
  · have hq : ((s[0].toNat : Int) == 45) = true := by rw [h45]; rfl
    clear h45
    by_cases hl : 2 ≤ s.size ∧ s.size ≤ 11
    · have c1 : ¬ ((s.size : Int) - 1 < 1) := by omega
      have c2 : ¬ (10 < (s.size : Int) - 1) := by omega
      go_enter Tryd.func46, Tryd.ntmps46
      go_wp2
      clear c1 c2 hq
      go_loop [6, 7] (fun nn kk => ∃ (k : Nat) (m : Int), 1 ≤ k ∧ k ≤ s.size ∧ kk = .int .i64 k ∧ nn = .int .i64 m) (fun _ kk => s.size - (intOf kk).toNat)
      case atStart => exact ⟨1, 0, Nat.le_refl _, by omega, rfl, rfl⟩
      case round =>
        obtain ⟨k, m, hk1, hk2, rfl, rfl⟩ := hrel
        by_cases hlt : k < s.size
        · by_cases d1 : (s[k].toNat : Int) < 48
          · go_wp2
            go_ret2
            exact numP _ _
          · by_cases d2 : 57 < (s[k].toNat : Int)
            · go_wp2
              go_ret2
              exact numP _ _
            · go_wp2
              go_round
              case rel => exact ⟨k + 1, _, by omega, by omega, by go_num, rfl⟩
              case measure => simp [intOf]; omega
        · have hle : 1 < s.size := by omega
          by_cases hz : s[1] = 48
          · have hz2 : ((s[1].toNat : Int) == 48) = true := by rw [hz]; rfl
            clear hz
            go_wp2
            all_goals go_ret2
            all_goals exact numP _ _
          · have hz2 : ((s[1].toNat : Int) == 48) = false := by
              simp only [beq_eq_false_iff_ne]
              intro e
              exact hz (UInt8.toNat_inj.1 (by show s[1].toNat = 48; omega))
            clear hz
            go_wp2
            all_goals go_ret2
            all_goals exact numP _ _
    · go_enter Tryd.func46, Tryd.ntmps46
      by_cases hl2 : (s.size : Int) - 1 < 1
      · go_wp2
        go_ret2
        exact numP _ _
      · have c2 : 10 < (s.size : Int) - 1 := by omega
        go_wp2
        go_ret2
        exact numP _ _
  · have hq : ((s[0].toNat : Int) == 45) = false := by
      simp only [beq_eq_false_iff_ne]
      intro e
      exact h45 (UInt8.toNat_inj.1 (by show s[0].toNat = 45; omega))
    clear h45
    by_cases hl : 1 ≤ s.size ∧ s.size ≤ 10
    · have c1 : ¬ ((s.size : Int) - 0 < 1) := by omega
      have c2 : ¬ (10 < (s.size : Int) - 0) := by omega
      go_enter Tryd.func46, Tryd.ntmps46
      go_wp2
      clear c1 c2 hq
      go_loop [6, 7] (fun nn kk => ∃ (k : Nat) (m : Int), 0 ≤ k ∧ k ≤ s.size ∧ kk = .int .i64 k ∧ nn = .int .i64 m) (fun _ kk => s.size - (intOf kk).toNat)
      case atStart => exact ⟨0, 0, Nat.le_refl _, by omega, rfl, rfl⟩
      case round =>
        obtain ⟨k, m, hk1, hk2, rfl, rfl⟩ := hrel
        by_cases hlt : k < s.size
        · by_cases d1 : (s[k].toNat : Int) < 48
          · go_wp2
            go_ret2
            exact numP _ _
          · by_cases d2 : 57 < (s[k].toNat : Int)
            · go_wp2
              go_ret2
              exact numP _ _
            · go_wp2
              go_round
              case rel => exact ⟨k + 1, _, by omega, by omega, by go_num, rfl⟩
              case measure => simp [intOf]; omega
        · have hle : 0 < s.size := by omega
          by_cases hz : s[0] = 48
          · have hz2 : ((s[0].toNat : Int) == 48) = true := by rw [hz]; rfl
            clear hz
            go_wp2
            all_goals go_ret2
            all_goals exact numP _ _
          · have hz2 : ((s[0].toNat : Int) == 48) = false := by
              simp only [beq_eq_false_iff_ne]
              intro e
              exact hz (UInt8.toNat_inj.1 (by show s[0].toNat = 48; omega))
            clear hz
            go_wp2
            all_goals go_ret2
            all_goals exact numP _ _
    · go_enter Tryd.func46, Tryd.ntmps46
      by_cases hl2 : (s.size : Int) - 0 < 1
      · omega
      · have c2 : 10 < (s.size : Int) - 0 := by omega
        go_wp2
        go_ret2
        exact numP _ _
theorem valD_step {s : ByteArray} {k : Nat} (h : k < s.size) : valD 0 (s.data.toList.take (k + 1)) = valD 0 (s.data.toList.take k) * 10 + (s[k].toNat - 48) := by
  have hl := size_length s
  rw [List.take_succ_eq_append_getElem (by omega), valD_append]
  rfl
theorem valD_le (l : List UInt8) (k : Nat) : valD 0 (l.take k) ≤ valD 0 l := by
  have e := List.take_append_drop k l
  have h : valD 0 l = valD (valD 0 (l.take k)) (l.drop k) := by rw [← valD_append, e]
  rw [h]
  exact valD_ge _ _
/-- A text that is a number's digits. -/
theorem dec_facts (g : Int) (h0 : 1 ≤ g) (h1 : g ≤ 1000000) : ∃ hp : 0 < (itoaS g).size, (itoaS g).size ≤ 7 ∧ 49 ≤ (itoaS g)[0].toNat ∧ (∀ k (h : k < (itoaS g).size), 48 ≤ (itoaS g)[k].toNat ∧ (itoaS g)[k].toNat ≤ 57) ∧ valD 0 (itoaS g).data.toList = g.toNat := by
  have e : (itoaS g).data.toList = Lib.decDigits g.toNat := itoa_pos g h0
  have hl := size_length (itoaS g)
  obtain ⟨c, r, e2, h3, h4⟩ := dec_head g.toNat g.toNat (Nat.le_refl _) (by omega)
  have hp : 0 < (itoaS g).size := by rw [← hl, e, e2]; simp
  refine ⟨hp, ?_, ?_, fun k h => ?_, ?_⟩
  · rw [← hl, e]; exact dec_lenk 7 _ (by omega) (by omega)
  · show 49 ≤ ((itoaS g).data.toList[0]'(by omega)).toNat
    have : (itoaS g).data.toList[0]'(by omega) = c := by
      have e3 := e.trans e2
      simp [e3]
    rw [this]; exact h3
  · exact dec_digs g.toNat g.toNat (Nat.le_refl _) _ (by rw [← e]; exact List.getElem_mem (by omega : k < (itoaS g).data.toList.length))
  · rw [e]; exact dec_val _ _ (Nat.le_refl _)
set_option maxHeartbeats 4000000 in
set_option maxRecDepth 100000 in
theorem number_dec (g : Int) (w : World) (h0 : 1 ≤ g) (h1 : g ≤ 1000000) :
    Calls Tryd.prog 46 #[.string (itoaS g)] w fun e w' => e = .returned (.tuple #[.int .i64 g, .bool true]) ∧ w' = w := by
  have H := dec_facts g h0 h1
  generalize itoaS g = s at H ⊢
  obtain ⟨hp, hl, hf, hd, hv⟩ := H
  have hsz := size_length s
  have HV : Hid (valD 0 s.data.toList = g.toNat) := hv
  have HD : Hid (∀ k (h : k < s.size), 48 ≤ s[k].toNat ∧ s[k].toNat ≤ 57) := hd
  have hne := toList_ne hp
  have hq : ((s[0].toNat : Int) == 45) = false := by simp only [beq_eq_false_iff_ne]; omega
  have hz2 : ((s[0].toNat : Int) == 48) = false := by simp only [beq_eq_false_iff_ne]; omega
  clear hv hd hf
  have c1 : ¬ ((s.size : Int) - 0 < 1) := by omega
  have c2 : ¬ (10 < (s.size : Int) - 0) := by omega
  go_enter Tryd.func46, Tryd.ntmps46
  go_wp2
  clear c1 c2 hq
  go_loop [6, 7] (fun nn kk => ∃ (k m : Nat), k ≤ s.size ∧ kk = .int .i64 k ∧ nn = .int .i64 m ∧ Hid (m = valD 0 (s.data.toList.take k))) (fun _ kk => s.size - (intOf kk).toNat)
  case atStart => exact ⟨0, 0, Nat.zero_le _, rfl, rfl, rfl⟩
  case round =>
    obtain ⟨k, m, hk2, rfl, rfl, HM⟩ := hrel
    by_cases hlt : k < s.size
    · obtain ⟨d1, d2⟩ := HD.out k hlt
      have hm : m ≤ 1000000 := by
        have := valD_le s.data.toList k
        rw [HV.out] at this
        rw [HM.out]
        omega
      have HN : Hid (m * 10 + (s[k].toNat - 48) = valD 0 (s.data.toList.take (k + 1))) := by unfold Hid; rw [valD_step hlt, ← HM.out]
      go_wp2
      go_round
      case rel => exact ⟨k + 1, _, by omega, by go_num, by go_num, HN⟩
      case measure => simp [intOf]; omega
    · have HG : Hid ((m : Int) = g) := by
        unfold Hid
        rw [HM.out, List.take_of_length_le (by omega), HV.out]
        omega
      go_wp2
      go_ret2
      exact ⟨by rw [← HG.out]; rfl, rfl⟩
end Go.Proofs.YtdleolgkbkoekaaDoor
