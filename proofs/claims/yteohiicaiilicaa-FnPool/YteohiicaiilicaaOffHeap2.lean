/- The way down in the heap of Offers; its Push and Pop; what container/heap makes of them; the program's take and offersOf. -/
-- UNF Gen
import Derived.Test.YteohiicaiilicaaOffHeap
import Derived.Maps.AppendAt
namespace Go.Proofs.Yteohiicaiilicaa
open Go.RowKit
theorem kid_two {es : List Off} {n i : Nat} (h : 2 * i + 2 < n) (hb : ahO (nthO es (2 * i + 2)) (nthO es (2 * i + 1)) = true) : 2 * i + 2 = kid es n i := by unfold kid; rw [if_pos ⟨h, hb⟩]
theorem kid_one {es : List Off} {n i : Nat} (h : ¬ (2 * i + 2 < n ∧ ahO (nthO es (2 * i + 2)) (nthO es (2 * i + 1)) = true)) : 2 * i + 1 = kid es n i := by unfold kid; rw [if_neg h]
set_option maxHeartbeats 4000000 in
set_option maxRecDepth 100000 in
theorem odown_any (w0 w : World) (sb n cap c0 : Nat) (a : Option Addr) (es : List Off) (m : Nat) (x : Int) (hx : x = (m : Int)) (h : OHp w0 w sb a n cap c0 es) (hm : m < es.length) :
    Calls Try.prog 58 #[.iface 61 (.pointer (some ⟨sb, 0, none⟩)), .int .i64 0, .int .i64 x] w fun e w' => (∃ b, e = .returned (.bool b)) ∧ OHp w0 w' sb a n cap c0 (dnL es m 0) ∧ OHop w a sb w' := by
  subst hx
  have hf := h.few
  obtain ⟨R, hR⟩ : ∃ R, R = dnL es m 0 := ⟨_, rfl⟩
  rw [← hR]
  go_enter Try.func58, Try.ntmps58
  go_wp2
  go_loopw [7] (fun jv wr => ∃ (i : Nat) (es1 : List Off), jv = .int .i64 i ∧ i ≤ 51 ∧ i ≤ m ∧ m < es1.length ∧ OHp w0 wr sb a n cap c0 es1 ∧ Hid (dnL es1 m i = R) ∧ OHop w a sb wr) (fun jv _ => m - (intOf jv).toNat)
  case atStart => exact ⟨0, es, rfl, by omega, by omega, hm, h, hR.symm, OHop.refl _ _ _⟩
  case round =>
    obtain ⟨i, es1, rfl, hi20, hin, hn1, h1, HU, hop⟩ := hrel
    clear h hm hR
    by_cases hj : m ≤ 2 * i + 1
    · have HE : Hid (OHp w0 wr sb a n cap c0 R ∧ OHop w a sb wr) := ⟨by rw [← HU.out, dnL_end hj]; exact h1, hop⟩
      have hj2 : (m : Int) ≤ 2 * (i : Int) + 1 := by omega
      clear h1 hop
      go_wp2
      go_ret
      exact ⟨⟨_, rfl⟩, HE.out⟩
    · have hj2 : ¬ (m : Int) ≤ 2 * (i : Int) + 1 := by omega
      have hj3 : ¬ 2 * (i : Int) + 1 < 0 := by omega
      have hn20 : m ≤ 51 := by have := h1.few; omega
      have hq := o_Less wr sb _ h1.cell
      have hil : i < es1.length := by omega
      by_cases hr : 2 * i + 2 < m
      · have hr2 : 2 * (i : Int) + 1 + 1 < (m : Int) := by omega
        cases hb : ahO (nthO es1 (2 * i + 2)) (nthO es1 (2 * i + 1)) with
        | true =>
          have HK : Hid (2 * i + 2 = kid es1 m i) := kid_two hr hb
          go_wp2_with fail
          refine (oless_at _ es1 (2 * i + 2) (2 * i + 1) _ _ true _ ?e1 ?e2 h1.rd (by omega) (by omega) hb).mono ?_
          case e1 => omega
          case e2 => omega
          rintro e w2 ⟨rfl, hb2⟩
          have h2 := h1.below hb2
          have hop2 := hop.trans (OHop.below hb2)
          have hq2 := o_Less w2 sb _ h2.cell
          clear h1 hop hb2 hq
          have hjl : 2 * i + 2 < es1.length := by omega
          cases hl : ahO (nthO es1 (2 * i + 2)) (nthO es1 i) with
          | true =>
            have HU2 : Hid (dnL (swO es1 i (2 * i + 2)) m (2 * i + 2) = R) := (dnL_go HK.out (by omega) hl).symm.trans HU.out
            go_wp2_with fail
            refine (oless_at _ es1 (2 * i + 2) i _ _ true _ ?e1 ?e2 h2.rd hjl hil hl).mono ?_
            case e1 => omega
            case e2 => omega
            rintro e w5 ⟨rfl, hb5⟩
            have h5 := h2.below hb5
            have hop5 := hop2.trans (OHop.below hb5)
            have hq5 := o_Swap w5 sb _ h5.cell
            clear hb5 h2 hop2 hq2
            go_wp2_with fail
            refine (oswapH_at w0 _ sb n cap c0 a es1 i (2 * i + 2) _ _ ?e3 ?e4 h5 hil hjl).mono ?_
            case e3 => omega
            case e4 => omega
            rintro e w6 ⟨rfl, h6, hop6⟩
            have hop7 := hop5.trans hop6
            clear h5 hop5 hop6 hq5
            go_wp2
            go_roundw
            case rel => exact ⟨2 * i + 2, _, by first | rfl | go_num | (congr 1; omega), by omega, by omega, by rw [swO_len]; exact hn1, h6, HU2, hop7⟩
            case measure => simp [intOf]; omega
          | false =>
            have HS : Hid (es1 = R) := (dnL_stop HK.out hl).symm.trans HU.out
            go_wp2_with fail
            refine (oless_at _ es1 (2 * i + 2) i _ _ false _ ?e1 ?e2 h2.rd hjl hil hl).mono ?_
            case e1 => omega
            case e2 => omega
            rintro e w5 ⟨rfl, hb5⟩
            have HE : Hid (OHp w0 w5 sb a n cap c0 R ∧ OHop w a sb w5) := ⟨by rw [← HS.out]; exact h2.below hb5, hop2.trans (OHop.below hb5)⟩
            clear hb5 h2 hop2 hq2
            go_wp2
            go_ret
            exact ⟨⟨_, rfl⟩, HE.out⟩
        | false =>
          have HK : Hid (2 * i + 1 = kid es1 m i) := kid_one (fun k => by rw [hb] at k; exact absurd k.2 (by simp))
          go_wp2_with fail
          refine (oless_at _ es1 (2 * i + 2) (2 * i + 1) _ _ false _ ?e1 ?e2 h1.rd (by omega) (by omega) hb).mono ?_
          case e1 => omega
          case e2 => omega
          rintro e w2 ⟨rfl, hb2⟩
          have h2 := h1.below hb2
          have hop2 := hop.trans (OHop.below hb2)
          have hq2 := o_Less w2 sb _ h2.cell
          clear h1 hop hb2 hq
          have hjl : 2 * i + 1 < es1.length := by omega
          cases hl : ahO (nthO es1 (2 * i + 1)) (nthO es1 i) with
          | true =>
            have HU2 : Hid (dnL (swO es1 i (2 * i + 1)) m (2 * i + 1) = R) := (dnL_go HK.out (by omega) hl).symm.trans HU.out
            go_wp2_with fail
            refine (oless_at _ es1 (2 * i + 1) i _ _ true _ ?e1 ?e2 h2.rd hjl hil hl).mono ?_
            case e1 => omega
            case e2 => omega
            rintro e w5 ⟨rfl, hb5⟩
            have h5 := h2.below hb5
            have hop5 := hop2.trans (OHop.below hb5)
            have hq5 := o_Swap w5 sb _ h5.cell
            clear hb5 h2 hop2 hq2
            go_wp2_with fail
            refine (oswapH_at w0 _ sb n cap c0 a es1 i (2 * i + 1) _ _ ?e3 ?e4 h5 hil hjl).mono ?_
            case e3 => omega
            case e4 => omega
            rintro e w6 ⟨rfl, h6, hop6⟩
            have hop7 := hop5.trans hop6
            clear h5 hop5 hop6 hq5
            go_wp2
            go_roundw
            case rel => exact ⟨2 * i + 1, _, by first | rfl | go_num | (congr 1; omega), by omega, by omega, by rw [swO_len]; exact hn1, h6, HU2, hop7⟩
            case measure => simp [intOf]; omega
          | false =>
            have HS : Hid (es1 = R) := (dnL_stop HK.out hl).symm.trans HU.out
            go_wp2_with fail
            refine (oless_at _ es1 (2 * i + 1) i _ _ false _ ?e1 ?e2 h2.rd hjl hil hl).mono ?_
            case e1 => omega
            case e2 => omega
            rintro e w5 ⟨rfl, hb5⟩
            have HE : Hid (OHp w0 w5 sb a n cap c0 R ∧ OHop w a sb w5) := ⟨by rw [← HS.out]; exact h2.below hb5, hop2.trans (OHop.below hb5)⟩
            clear hb5 h2 hop2 hq2
            go_wp2
            go_ret
            exact ⟨⟨_, rfl⟩, HE.out⟩
      · have hr2 : ¬ 2 * (i : Int) + 1 + 1 < (m : Int) := by omega
        have HK : Hid (2 * i + 1 = kid es1 m i) := kid_one (fun k => hr k.1)
        have hjl : 2 * i + 1 < es1.length := by omega
        cases hl : ahO (nthO es1 (2 * i + 1)) (nthO es1 i) with
        | true =>
          have HU2 : Hid (dnL (swO es1 i (2 * i + 1)) m (2 * i + 1) = R) := (dnL_go HK.out (by omega) hl).symm.trans HU.out
          go_wp2_with fail
          refine (oless_at _ es1 (2 * i + 1) i _ _ true _ ?e1 ?e2 h1.rd hjl hil hl).mono ?_
          case e1 => omega
          case e2 => omega
          rintro e w5 ⟨rfl, hb5⟩
          have h5 := h1.below hb5
          have hop5 := hop.trans (OHop.below hb5)
          have hq5 := o_Swap w5 sb _ h5.cell
          clear hb5 h1 hop hq
          go_wp2_with fail
          refine (oswapH_at w0 _ sb n cap c0 a es1 i (2 * i + 1) _ _ ?e3 ?e4 h5 hil hjl).mono ?_
          case e3 => omega
          case e4 => omega
          rintro e w6 ⟨rfl, h6, hop6⟩
          have hop7 := hop5.trans hop6
          clear h5 hop5 hop6 hq5
          go_wp2
          go_roundw
          case rel => exact ⟨2 * i + 1, _, by first | rfl | go_num | (congr 1; omega), by omega, by omega, by rw [swO_len]; exact hn1, h6, HU2, hop7⟩
          case measure => simp [intOf]; omega
        | false =>
          have HS : Hid (es1 = R) := (dnL_stop HK.out hl).symm.trans HU.out
          go_wp2_with fail
          refine (oless_at _ es1 (2 * i + 1) i _ _ false _ ?e1 ?e2 h1.rd hjl hil hl).mono ?_
          case e1 => omega
          case e2 => omega
          rintro e w5 ⟨rfl, hb5⟩
          have HE : Hid (OHp w0 w5 sb a n cap c0 R ∧ OHop w a sb w5) := ⟨by rw [← HS.out]; exact h1.below hb5, hop.trans (OHop.below hb5)⟩
          clear hb5 h1 hop hq
          go_wp2
          go_ret
          exact ⟨⟨_, rfl⟩, HE.out⟩
end Go.Proofs.Yteohiicaiilicaa
