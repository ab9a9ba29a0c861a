/- The contract of the model's ReadNumber over any slice of bytes that can be read. -/
import Derived.Test.YtckidhcknibceaaRdBase
namespace Go.Proofs.Ytckidhcknibceaa
open Go.RowKit
theorem ret2_int {k l : IntKind} {a b c d : Int} (h : a = c) (h2 : b = d) : Ending.returned (.tuple #[.int k a, .int l b]) = .returned (.tuple #[.int k c, .int l d]) := by rw [h, h2]
set_option maxHeartbeats 1000000 in
set_option maxRecDepth 100000 in
theorem specReadNumber_any (v : Value) (bs : List UInt8) (w : World) (hr : Rd w v bs) :
    Calls Try.prog 30 #[v] w fun e w' => e = .returned (.tuple #[.int .i64 ((rdNum bs).1 : Int), .int .i64 ((rdNum bs).2 : Int)]) ∧ w' = w := by
  obtain ⟨R, hR⟩ : ∃ R, R = rdNum bs := ⟨_, rfl⟩
  rw [← hR]
  obtain ⟨a, cap, rfl, hl, hm, hA⟩ := hr
  unfold maxLen at hm
  go_enter Try.func30, Try.ntmps30
  go_wp2
  go_loop [4, 5, 6] (fun n p i => ∃ k m q : Nat, k ≤ 6 ∧ k ≤ bs.length ∧ i = .int .i64 k ∧ n = .int .i64 m ∧ p = .int .i64 q ∧ m < q ∧ q ≤ 4398046511104 ∧ (k < 6 → q ≤ 34359738368) ∧ Hid (q = 128 ^ k ∧ R = rdF (6 - k) k m q (bs.drop k))) (fun _ _ i => 6 - (intOf i).toNat)
  case atStart => exact ⟨0, 0, 1, by omega, by omega, rfl, rfl, rfl, by omega, by omega, by omega, rfl, hR⟩
  case round =>
    obtain ⟨k, m, q, hk6, hk, rfl, rfl, rfl, hmq, hq, hq6, HR⟩ := hrel
    by_cases hlt : k < bs.length
    · by_cases h6 : k < 6
      · obtain ⟨b0, off, ha, hc⟩ : ∃ b0 off, a = some ⟨b0, off, none⟩ ∧ w.cell? ⟨b0, off + k, none⟩ = some (.int .u8 (bs[k].toNat : Int)) := by
          rcases hA with h | ⟨b, off, ha, hc⟩
          · subst h; simp at hlt
          · exact ⟨b, off, ha, hc k hlt⟩
        rw [ha]
        obtain ⟨b, hb⟩ : ∃ b, b = bs[k].toNat := ⟨_, rfl⟩
        rw [← hb] at hc
        have hb8 : b < 256 := by rw [hb]; exact UInt8.toNat_lt _
        have Hb : Hid (b = bs[k].toNat) := hb
        have hml := mul_le b q
        have hq7 := hq6 h6
        obtain ⟨d, hd⟩ : ∃ d, d = b % 128 * q := ⟨_, rfl⟩
        have Hd : Hid (d = b % 128 * q) := hd
        have hx : (b : Int) % 128 * (q : Int) = (d : Int) := by rw [hd, Int.natCast_mul, Int.natCast_emod]; rfl
        rw [← hd] at hml
        clear hA hR ha hq6 hd hb
        by_cases hb7 : b < 128
        · by_cases h40 : 1099511627776 < m + d
          · have hfin : R = (0, 0) := by
              have h := HR.out.2; rw [show 6 - k = (5 - k) + 1 by omega] at h
              rw [h, rdF_no _ _ _ _ _ b bs hlt Hb.out hb7 (by rw [← Hd.out]; exact .inl h40)]
            have HF : Hid (R = (0, 0)) := hfin
            clear hfin
            go_wp2
            go_ret2
            exact ⟨by rw [HF.out]; rfl, rfl⟩
          · by_cases hk0 : 0 < k
            · by_cases hb0 : b = 0
              · have hfin : R = (0, 0) := by
                  have h := HR.out.2; rw [show 6 - k = (5 - k) + 1 by omega] at h
                  rw [h, rdF_no _ _ _ _ _ b bs hlt Hb.out hb7 (.inr ⟨hk0, hb0⟩)]
                have HF : Hid (R = (0, 0)) := hfin
                have hbz : ((b : Int) == 0) = true := by simp; omega
                clear hfin hb0
                go_wp2
                go_ret2
                exact ⟨by rw [HF.out]; rfl, rfl⟩
              · have hfin : R = (m + d, k + 1) := by
                  have h := HR.out.2; rw [show 6 - k = (5 - k) + 1 by omega] at h
                  rw [h, rdF_yes _ _ _ _ _ b bs hlt Hb.out hb7 (by rw [← Hd.out]; omega), ← Hd.out]
                have HF : Hid (R = (m + d, k + 1)) := hfin
                have hbz : ((b : Int) == 0) = false := by simp; omega
                clear hfin hb0
                go_wp2
                go_ret2
                exact ⟨by rw [HF.out]; rfl, rfl⟩
            · have hfin : R = (m + d, k + 1) := by
                have h := HR.out.2; rw [show 6 - k = (5 - k) + 1 by omega] at h
                rw [h, rdF_yes _ _ _ _ _ b bs hlt Hb.out hb7 (by rw [← Hd.out]; omega), ← Hd.out]
              have HF : Hid (R = (m + d, k + 1)) := hfin
              clear hfin
              go_wp2
              go_ret2
              exact ⟨by rw [HF.out]; rfl, rfl⟩
        · have HN : Hid (q * 128 = 128 ^ (k + 1) ∧ R = rdF (6 - (k + 1)) (k + 1) (m + d) (q * 128) (bs.drop (k + 1))) := by
            refine ⟨by rw [HR.out.1, Nat.pow_succ], ?_⟩
            have h := HR.out.2; rw [show 6 - k = (6 - (k + 1)) + 1 by omega] at h
            rw [h, rdF_more _ _ _ _ _ b bs hlt Hb.out (by omega), ← Hd.out]
          have hq5 : k + 1 < 6 → q ≤ 268435456 := fun hk5 => by
            have h1 := HR.out.1
            have h2 : (128 : Nat) ^ k ≤ 128 ^ 4 := Nat.pow_le_pow_right (by omega) (by omega)
            omega
          have HQ : Hid (k + 1 < 6 → q ≤ 268435456) := hq5
          clear hq5
          go_wp2
          go_round
          case rel => exact ⟨k + 1, m + d, q * 128, by omega, by omega, by go_num, by go_num, by go_num, by omega, by omega, fun h => by have := HQ.out h; omega, HN⟩
          case measure => simp [intOf]; omega
      · have hfin : R = (0, 0) := by
          have h := HR.out.2; rw [show 6 - k = 0 by omega] at h
          rw [h]; rfl
        have HF : Hid (R = (0, 0)) := hfin
        clear hfin hR
        go_wp2
        go_ret2
        exact ⟨by rw [HF.out]; rfl, rfl⟩
    · have hfin : R = (0, 0) := by rw [HR.out.2, rdF_end _ _ _ _ _ _ (by omega)]
      have HF : Hid (R = (0, 0)) := hfin
      clear hfin hR
      go_wp2
      go_ret2
      exact ⟨by rw [HF.out]; rfl, rfl⟩
end Go.Proofs.Ytckidhcknibceaa
