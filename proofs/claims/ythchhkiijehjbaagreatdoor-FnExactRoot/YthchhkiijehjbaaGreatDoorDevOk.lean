/- The contracts of both DeviceOk, and of the program's tests of a sector and a patch. -/
-- UNF Gen
import Derived.Test.YthchhkiijehjbaaGreatDoorDevBase
namespace Go.Proofs.YthchhkiijehjbaaGreatDoor
open Go.RowKit
theorem in64_any (x lo hi : Int) (w : World) :
    Calls Tryz.prog 46 #[.int .i64 x, .int .i64 lo, .int .i64 hi] w fun e w' => e = .returned (.bool (decide (lo ≤ x) && decide (x ≤ hi))) ∧ w' = w := by
  go_enter Tryz.func46, Tryz.ntmps46
  go_wp2
  all_goals go_ret
  · exact ⟨by simp_all, rfl⟩
  · exact ⟨ret_bool (by rw [Bool.eq_iff_iff]; simp; omega), rfl⟩
set_option maxHeartbeats 4000000 in
set_option maxRecDepth 100000 in
theorem specDeviceOk_any (X : DvX) (w : World) (hx : RdDv w X) :
    Calls Tryz.prog 25 #[.agg #[X.vs, X.vl]] w fun e w' => e = .returned (.bool (devOk X.secs X.late)) ∧ Below w.heap.size w w' := by
  obtain ⟨sa, la, cs, cl, hvs, hvl, h1, h2, h3, h4⟩ := hx.slices
  obtain ⟨vs, vl, secs, late⟩ := X
  obtain ⟨hs, -, hl⟩ := hx
  simp only at hvs hvl h1 h3 hs hl ⊢
  obtain ⟨sn, hsn⟩ : ∃ sn, sn = secs.length := ⟨_, rfl⟩
  obtain ⟨ln, hln⟩ : ∃ ln, ln = late.length := ⟨_, rfl⟩
  rw [← hsn] at hvs h1
  rw [← hln] at hvl h3
  subst hvs
  subst hvl
  have b0 := below1 w (.cells #[.slice sa sn cs, .slice la ln cl] 31)
  have HS : Hid (RdS _ _ _) := hs.below b0
  have HL : Hid (RdPt _ _ _) := hl.below b0
  have HSN : Hid (sn = secs.length) := hsn
  have HLN : Hid (ln = late.length) := hln
  have HOK : Hid (devOk secs late = true ↔ 1 ≤ sn ∧ sn ≤ 16 ∧ ln ≤ 30 ∧ (∀ (i : Nat) (h : i < secs.length), secs[i].size ≤ 400) ∧ ∀ i, i < ln → pOk sn (nthP late i) = true) := by rw [hsn, hln]; exact devOk_iff secs late
  generalize devOk secs late = ok at HOK
  clear hsn hln hs hl
  have d0 : (w.alloc (.cells #[.slice sa sn cs, .slice la ln cl] 31)).cell? ⟨w.heap.size, 0, none⟩ = some (.slice sa sn cs) := by simp [World.cell?_alloc_at]
  have d1 : (w.alloc (.cells #[.slice sa sn cs, .slice la ln cl] 31)).cell? ⟨w.heap.size, 1, none⟩ = some (.slice la ln cl) := by simp [World.cell?_alloc_at]
  have NO : Hid (¬ (1 ≤ sn ∧ sn ≤ 16 ∧ ln ≤ 30 ∧ (∀ (i : Nat) (h : i < secs.length), secs[i].size ≤ 400) ∧ ∀ i, i < ln → pOk sn (nthP late i) = true) → Ending.returned (.bool false) = .returned (.bool ok)) := fun h => by
    cases ok with
    | false => rfl
    | true => exact absurd (HOK.out.1 rfl) h
  by_cases hb1 : sn < 1
  · go_enter Tryz.func25, Tryz.ntmps25
    go_wp2
    go_ret
    exact ⟨NO.out (fun h => by omega), b0⟩
  by_cases hb2 : 16 < sn
  · go_enter Tryz.func25, Tryz.ntmps25
    go_wp2
    go_ret
    exact ⟨NO.out (fun h => by omega), b0⟩
  by_cases hb3 : 30 < ln
  · go_enter Tryz.func25, Tryz.ntmps25
    go_wp2
    go_ret
    exact ⟨NO.out (fun h => by omega), b0⟩
  go_enter Tryz.func25, Tryz.ntmps25
  go_wp2
  go_loop [4] (fun i => ∃ k : Nat, k ≤ sn ∧ i = .int .i64 k ∧ Hid (∀ j (h : j < secs.length), j < k → secs[j].size ≤ 400)) (fun i => sn - (intOf i).toNat)
  case atStart => exact ⟨0, Nat.zero_le _, rfl, fun j _ h => absurd h (Nat.not_lt_zero _)⟩
  case round =>
    obtain ⟨k, hk, rfl, HJ⟩ := hrel
    by_cases hlt : k < sn
    · obtain ⟨b, off, rfl, hc⟩ := txt_at HS.out k (by rw [← HSN.out]; exact hlt)
      have hkc : k < cs := by omega
      have HKL : Hid (k < secs.length) := by unfold Hid; rw [← HSN.out]; exact hlt
      obtain ⟨s, hs⟩ : ∃ s, s = secs[k]'(HKL.out) := ⟨_, rfl⟩
      rw [← hs] at hc
      have Hs : Hid (s = secs[k]'(HKL.out)) := hs
      clear hs
      by_cases hbig : 400 < s.size
      · go_wp2
        go_ret
        exact ⟨NO.out (fun h => by have := h.2.2.2.1 k HKL.out; rw [← Hs.out] at this; omega), b0⟩
      · go_wp2
        go_round
        case rel =>
          refine ⟨k + 1, by omega, by go_num, fun j h h' => ?_⟩
          by_cases hjk : j = k
          · subst hjk; rw [← Hs.out]; omega
          · exact HJ.out j h (by omega)
        case measure => simp [intOf]; omega
    · have hke : k = sn := by omega
      have HJ2 : Hid (∀ (i : Nat) (h : i < secs.length), secs[i].size ≤ 400) := fun i h => HJ.out i h (by rw [hke, HSN.out]; exact h)
      clear HJ hke
      go_wp2
      go_loop [5] (fun i => ∃ k : Nat, k ≤ ln ∧ i = .int .i64 k ∧ Hid (∀ j, j < k → pOk sn (nthP late j) = true)) (fun i => ln - (intOf i).toNat)
      case atStart => exact ⟨0, Nat.zero_le _, rfl, fun j h => absurd h (Nat.not_lt_zero _)⟩
      case round =>
        obtain ⟨q, hq, rfl, HP⟩ := hrel
        by_cases hlq : q < ln
        · obtain ⟨b, off, rfl, c0, c1⟩ := HL.out.at HLN.out q (by rw [← HLN.out]; exact hlq)
          have hqc : q < cl := by omega
          obtain ⟨p, hp⟩ : ∃ p, p = nthP late q := ⟨_, rfl⟩
          rw [← hp] at c0 c1
          have Hp : Hid (p = nthP late q) := hp
          clear hp
          obtain ⟨pos, text⟩ := p
          simp only at c0 c1
          by_cases hp0 : 0 ≤ pos ∧ pos < (sn : Int)
          · obtain ⟨hp0, hp1⟩ := hp0
            have e1 : (decide (0 ≤ pos) && decide (pos ≤ (sn : Int) - 1)) = true := by simp; omega
            by_cases hbig : 400 < text.size
            · go_wp2_with (go_at_call 46; refine (in64_any _ _ _ _).mono ?_; rintro e w' ⟨rfl, rfl⟩)
              go_ret
              exact ⟨NO.out (fun h => by have := pOk_iff.1 (h.2.2.2.2 q hlq); rw [← Hp.out] at this; simp only at this; omega), b0⟩
            · go_wp2_with (go_at_call 46; refine (in64_any _ _ _ _).mono ?_; rintro e w' ⟨rfl, rfl⟩)
              go_round
              case rel =>
                refine ⟨q + 1, by omega, by go_num, fun j h => ?_⟩
                by_cases hjk : j = q
                · subst hjk; rw [← Hp.out]; exact pOk_iff.2 ⟨hp0, hp1, by simp only; omega⟩
                · exact HP.out j (by omega)
              case measure => simp [intOf]; omega
          · have e1 : (decide (0 ≤ pos) && decide (pos ≤ (sn : Int) - 1)) = false := by
              rw [Bool.eq_false_iff]
              simp
              omega
            go_wp2_with (go_at_call 46; refine (in64_any _ _ _ _).mono ?_; rintro e w' ⟨rfl, rfl⟩)
            go_ret
            exact ⟨NO.out (fun h => by have := pOk_iff.1 (h.2.2.2.2 q hlq); rw [← Hp.out] at this; simp only at this; omega), b0⟩
        · have hqe : q = ln := by omega
          have hok : Ending.returned (.bool true) = .returned (.bool ok) := by rw [HOK.out.2 ⟨by omega, by omega, by omega, HJ2.out, fun i hi => HP.out i (by omega)⟩]
          clear HP hqe
          have HE : Hid (Ending.returned (.bool true) = .returned (.bool ok)) := hok
          clear hok
          go_wp2
          go_ret
          exact ⟨HE.out, b0⟩
end Go.Proofs.YthchhkiijehjbaaGreatDoor
