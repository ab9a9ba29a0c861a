/- The contracts of the law of devices' own helpers: likeTexts and likeDevice at like devices. -/
import Derived.Test.YtgmjoejoehhekaaDevCp
import Derived.BigQuiet
namespace Go.Proofs.Ytgmjoejoehhekaa
open Go.RowKit
set_option maxHeartbeats 400000 in
set_option maxRecDepth 100000 in
theorem likeTextsD_same (va vb : Value) (bs : List ByteArray) (w : World) (ha : RdS w va bs) (hb : RdS w vb bs) :
    Calls Try.prog 34 #[va, vb] w fun e w' => e = .returned (.bool true) ∧ ∃ q, w' = w.drewN q := by
  obtain ⟨aa, ca, rfl, hla, hma, hA⟩ := ha
  obtain ⟨ab, cb, rfl, hlb, hmb, hB⟩ := hb
  unfold maxLen at hma hmb
  have hne : ((bs.length : Int) != (bs.length : Int)) = false := by simp
  rcases hA with rfl | ⟨ba, offa, rfl, hA⟩
  · go_enter Try.func34, Try.ntmps34
    go_wp2
    refine wp_loop_rounds 1 ?_
    rw [rounds_succ]
    go_wp2
    go_ret
    exact ⟨rfl, 0, rfl⟩
  · rcases hB with rfl | ⟨bb, offb, rfl, hB⟩
    · go_enter Try.func34, Try.ntmps34
      go_wp2
      refine wp_loop_rounds 1 ?_
      rw [rounds_succ]
      go_wp2
      go_ret
      exact ⟨rfl, 0, rfl⟩
    · go_enter Try.func34, Try.ntmps34
      go_wp2
      go_loopw [5] (fun i wr => ∃ k : Nat, k ≤ bs.length ∧ i = .int .i64 k ∧ ∃ q, wr = w.drewN q) (fun i _ => bs.length - (intOf i).toNat)
      case atStart => exact ⟨0, Nat.zero_le _, rfl, 0, rfl⟩
      case round =>
        obtain ⟨k, hk, rfl, q, rfl⟩ := hrel
        by_cases hlt : k < bs.length
        · have h1 := hA k hlt
          have h2 := hB k hlt
          clear hA hB
          go_wp2
          go_quiet (fail)
          go_wp2
          go_roundw
          case rel => exact ⟨k + 1, by omega, by go_num, _, rfl⟩
          case measure => simp [intOf]; omega
        · go_wp2
          go_ret
          exact ⟨rfl, q, rfl⟩
set_option maxHeartbeats 4000000 in
set_option maxRecDepth 100000 in
theorem likeDev_same (Y Z : DvX) (w : World) (hy : RdDv w Y) (hz : RdDv w Z) (hs : Y.secs = Z.secs) (hl : Y.late = Z.late) :
    Calls Try.prog 13 #[.agg #[Y.vs, Y.vl], .agg #[Z.vs, Z.vl]] w fun e w' => e = .returned (.bool true) ∧ Below w.heap.size w w' := by
  have HS : Hid (∀ W, RdDv W Y → RdDv W Z → Calls Try.prog 34 #[Y.vs, Z.vs] W fun e w' => e = .returned (.bool true) ∧ ∃ q, w' = W.drewN q) := fun W h1 h2 => likeTextsD_same _ _ Y.secs W h1.secs (by rw [hs]; exact h2.secs)
  obtain ⟨es, hes⟩ : ∃ es, es = Y.late := ⟨_, rfl⟩
  have pY : RdPt w Y.vl es := by rw [hes]; exact hy.late
  have pZ : RdPt w Z.vl es := by rw [hes, hl]; exact hz.late
  clear hs hl hes
  obtain ⟨aa, ca, hva, hla, hma, _⟩ := id pY
  obtain ⟨ab, cb, hvb, hlb, hmb, _⟩ := id pZ
  rw [hva] at pY
  rw [hvb] at pZ
  unfold maxLen at hma hmb
  have hne : ((es.length : Int) != (es.length : Int)) = false := by simp
  have t0 := dvAt_new w Y 27
  have b0 := below1 w (.cells #[Y.vs, Y.vl] 27)
  obtain ⟨W0, hW0⟩ : ∃ W0, W0 = w.alloc (.cells #[Y.vs, Y.vl] 27) := ⟨_, rfl⟩
  have s0 : W0.heap.size = w.heap.size + 1 := by rw [hW0]; simp
  rw [← hW0] at t0 b0
  have u1 := dvAt_new W0 Z 27
  have b1 := below1 W0 (.cells #[Z.vs, Z.vl] 27)
  obtain ⟨W1, hW1⟩ : ∃ W1, W1 = W0.alloc (.cells #[Z.vs, Z.vl] 27) := ⟨_, rfl⟩
  rw [← hW1] at u1 b1
  rw [s0] at u1
  have t1 := t0.below b1
  have bw1 : Below w.heap.size w W1 := b0.trans (b1.mono (by omega))
  have HW1 : Hid ((w.alloc (.cells #[Y.vs, Y.vl] 27)).alloc (.cells #[Z.vs, Z.vl] 27) = W1) := by unfold Hid; rw [hW1, hW0]
  obtain ⟨d0, d1⟩ := id t1
  obtain ⟨e0, e1⟩ := id u1
  rw [← HW1.out] at d0 d1 e0 e1
  have HVA : Hid (Y.vl = .slice aa es.length ca) := hva
  have HVB : Hid (Z.vl = .slice ab es.length cb) := hvb
  clear t0 b0 b1 hW0 hW1 s0 hva hvb
  go_enter Try.func13, Try.ntmps13
  go_wp2_with fail
  rw [HW1.out]
  refine (HS.out _ (hy.below bw1) (hz.below bw1)).mono ?_
  rintro e w2 ⟨rfl, n2, rfl⟩
  have bd : Below W1.heap.size W1 (W1.drewN n2) := below_drewN' n2
  have t2 := t1.below bd
  have u2 := u1.below bd
  have b2 := bw1.trans (bd.mono bw1.size)
  clear d0 d1 e0 e1 t1 u1 bw1 bd HS HW1
  generalize W1.drewN n2 = w2 at t2 u2 b2 ⊢
  obtain ⟨d0, d1⟩ := id t2
  obtain ⟨e0, e1⟩ := id u2
  rw [HVA.out] at d1
  rw [HVB.out] at e1
  obtain ⟨n, hn⟩ : ∃ n, n = es.length := ⟨_, rfl⟩
  rw [← hn] at d1 e1 pY pZ hne hla hlb
  have HN : Hid (n = es.length) := hn
  clear hn
  go_wp2
  clear d0 d1 e0 e1
  go_loopw [5] (fun i wr => ∃ k : Nat, k ≤ n ∧ i = .int .i64 k ∧ Below w2.heap.size w2 wr) (fun i _ => n - (intOf i).toNat)
  case atStart => exact ⟨0, Nat.zero_le _, rfl, Below.refl _ _⟩
  case round =>
    obtain ⟨k, hk, rfl, hbw⟩ := hrel
    have bA := b2.trans (hbw.mono b2.size)
    obtain ⟨d0, d1⟩ := t2.below hbw
    obtain ⟨e0, e1⟩ := u2.below hbw
    rw [HVA.out, ← HN.out] at d1
    rw [HVB.out, ← HN.out] at e1
    by_cases hlt : k < n
    · obtain ⟨c1, o1, rfl, hc1⟩ := (pY.below bA).at HN.out k (by rw [← HN.out]; exact hlt)
      obtain ⟨c2, o2, rfl, hc2⟩ := (pZ.below bA).at HN.out k (by rw [← HN.out]; exact hlt)
      obtain ⟨x, hx⟩ : ∃ x, x = nthP es k := ⟨_, rfl⟩
      rw [← hx] at hc1 hc2
      clear hx
      obtain ⟨x0, x1⟩ := hc1
      obtain ⟨z0, z1⟩ := hc2
      go_wp2
      go_quiet (fail)
      clear d0 d1 e0 e1 x0 x1 z0 z1
      go_wp2
      go_roundw
      case rel => exact ⟨k + 1, by omega, by go_num, below_drewN hbw _⟩
      case measure => simp [intOf]; omega
    · go_wp2
      go_ret
      exact ⟨rfl, bA⟩
end Go.Proofs.Ytgmjoejoehhekaa
