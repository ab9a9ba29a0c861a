/- The contracts of the program's tests of a sector, a patch and a device. -/
import Derived.Test.YtpidmmfjmbinkaaGreatDoorG03
namespace Go.Proofs.YtpidmmfjmbinkaaGreatDoor
open Go.RowKit
set_option maxHeartbeats 1000000 in
set_option maxRecDepth 100000 in
theorem hasSector_any (vs vl : Value) (ss : List ByteArray) (p : Int) (w : World) (hs : RdS w vs ss) :
    Calls Tryz.prog 69 #[.agg #[vs, vl], .int .i64 p] w fun e w' => e = .returned (.bool (decide (0 ≤ p) && decide (p < (ss.length : Int)))) ∧ Below w.heap.size w w' := by
  obtain ⟨sa, cs, hvs, h1, h2, -⟩ := id hs
  unfold maxLen at h2
  obtain ⟨sn, hsn⟩ : ∃ sn, sn = ss.length := ⟨_, rfl⟩
  rw [← hsn] at hvs h1 ⊢
  subst hvs
  have b0 := below1 w (.cells #[.slice sa sn cs, vl] 27)
  have d0 : (w.alloc (.cells #[.slice sa sn cs, vl] 27)).cell? ⟨w.heap.size, 0, none⟩ = some (.slice sa sn cs) := by simp [World.cell?_alloc_at]
  clear hs hsn
  by_cases hp : 0 ≤ p
  · go_enter Tryz.func69, Tryz.ntmps69
    go_wp2
    go_ret
    exact ⟨ret_bool (by simp [hp]), b0⟩
  · go_enter Tryz.func69, Tryz.ntmps69
    go_wp2
    go_ret
    exact ⟨ret_bool (by rw [Bool.eq_iff_iff]; simp; omega), b0⟩
set_option maxHeartbeats 1000000 in
set_option maxRecDepth 100000 in
theorem patchOk_any (vs vl : Value) (ss : List ByteArray) (p : Pat) (w : World) (hs : RdS w vs ss) :
    Calls Tryz.prog 49 #[.agg #[vs, vl], .agg #[.int .i64 p.pos, .string p.text]] w fun e w' => e = .returned (.bool (pOk ss.length p)) ∧ Below w.heap.size w w' := by
  have b0 := below1 w (.cells #[vs, vl] 27)
  have b1 := below2 w (.cells #[vs, vl] 27) (.cells #[.int .i64 p.pos, .string p.text] 70)
  have HH : Hid (∀ W, Below w.heap.size w W → Calls Tryz.prog 69 #[.agg #[vs, vl], .int .i64 p.pos] W fun e w' => e = .returned (.bool (decide (0 ≤ p.pos) && decide (p.pos < (ss.length : Int)))) ∧ Below W.heap.size W w') := fun W hb => hasSector_any vs vl ss p.pos W (hs.below hb)
  have HOK : Hid (pOk ss.length p = ((decide (0 ≤ p.pos) && decide (p.pos < (ss.length : Int))) && decide (p.text.size ≤ 400))) := rfl
  generalize (decide (0 ≤ p.pos) && decide (p.pos < (ss.length : Int))) = t at HH HOK
  generalize pOk ss.length p = ok at HOK
  obtain ⟨pos, text⟩ := p
  simp only at HH HOK b1 ⊢
  have n1 : (w.alloc (.cells #[vs, vl] 27)).heap.size = w.heap.size + 1 := by simp
  have d0 : ((w.alloc (.cells #[vs, vl] 27)).alloc (.cells #[.int .i64 pos, .string text] 70)).cell? ⟨w.heap.size, 0, none⟩ = some vs := by rw [World.cell?_alloc_past _ _ _ (by simp)]; simp [World.cell?_alloc_at]
  have d1 : ((w.alloc (.cells #[vs, vl] 27)).alloc (.cells #[.int .i64 pos, .string text] 70)).cell? ⟨w.heap.size, 1, none⟩ = some vl := by rw [World.cell?_alloc_past _ _ _ (by simp)]; simp [World.cell?_alloc_at]
  have c0 : ((w.alloc (.cells #[vs, vl] 27)).alloc (.cells #[.int .i64 pos, .string text] 70)).cell? ⟨w.heap.size + 1, 0, none⟩ = some (.int .i64 pos) := by rw [← n1]; simp [World.cell?_alloc_at]
  have c1 : ((w.alloc (.cells #[vs, vl] 27)).alloc (.cells #[.int .i64 pos, .string text] 70)).cell? ⟨w.heap.size + 1, 1, none⟩ = some (.string text) := by rw [← n1]; simp [World.cell?_alloc_at]
  have PA : Hid (PatAt _ (w.heap.size + 1) 0 ⟨pos, text⟩) := ⟨c0, c1⟩
  clear n1 hs b0
  go_enter Tryz.func49, Tryz.ntmps49
  go_wp2_with fail
  refine (HH.out _ b1).mono ?_
  rintro e w1 ⟨rfl, hb1⟩
  have b2 := b1.trans (hb1.mono b1.size)
  obtain ⟨e0, e1⟩ := PA.out.below hb1
  clear d0 d1 c0 c1 PA b1 hb1
  simp only [Nat.zero_add] at e0 e1
  cases t with
  | true =>
    go_wp2
    go_ret
    exact ⟨ret_bool (by rw [HOK.out, Bool.eq_iff_iff]; simp; omega), b2⟩
  | false =>
    go_wp2
    go_ret
    exact ⟨ret_bool (by rw [HOK.out]; simp), b2⟩
set_option maxHeartbeats 4000000 in
set_option maxRecDepth 100000 in
theorem implDeviceOk_any (X : DvX) (w : World) (hx : RdDv w X) :
    Calls Tryz.prog 21 #[.agg #[X.vs, X.vl]] w fun e w' => e = .returned (.bool (devOk X.secs X.late)) ∧ Below w.heap.size w w' := by
  obtain ⟨sa, la, cs, cl, hvs, hvl, h1, h2, h3, h4⟩ := hx.slices
  obtain ⟨vs, vl, secs, late⟩ := X
  obtain ⟨hs, -, hl⟩ := hx
  simp only at hvs hvl h1 h3 hs hl ⊢
  have HPO : Hid (∀ p W, Below w.heap.size w W → Calls Tryz.prog 49 #[.agg #[vs, vl], .agg #[.int .i64 p.pos, .string p.text]] W fun e w' => e = .returned (.bool (pOk secs.length p)) ∧ Below W.heap.size W w') := fun p W hb => patchOk_any vs vl secs p W (hs.below hb)
  obtain ⟨sn, hsn⟩ : ∃ sn, sn = secs.length := ⟨_, rfl⟩
  obtain ⟨ln, hln⟩ : ∃ ln, ln = late.length := ⟨_, rfl⟩
  rw [← hsn] at hvs h1 HPO
  rw [← hln] at hvl h3
  subst hvs
  subst hvl
  have b0 := below1 w (.cells #[.slice sa sn cs, .slice la ln cl] 27)
  have HS : Hid (RdS _ _ _) := hs.below b0
  have HL : Hid (RdPt _ _ _) := hl
  have HSN : Hid (sn = secs.length) := hsn
  have HLN : Hid (ln = late.length) := hln
  have HOK : Hid (devOk secs late = true ↔ 1 ≤ sn ∧ sn ≤ 16 ∧ ln ≤ 30 ∧ (∀ (i : Nat) (h : i < secs.length), secs[i].size ≤ 400) ∧ ∀ i, i < ln → pOk sn (nthP late i) = true) := by rw [hsn, hln]; exact devOk_iff secs late
  generalize devOk secs late = ok at HOK
  clear hsn hln hs hl
  have t0 : DvAt (w.alloc (.cells #[.slice sa sn cs, .slice la ln cl] 27)) w.heap.size ⟨.slice sa sn cs, .slice la ln cl, secs, late⟩ := dvAt_new w ⟨.slice sa sn cs, .slice la ln cl, secs, late⟩ 27
  have T0 : Hid (DvAt _ _ _) := t0
  obtain ⟨d0, d1⟩ := t0
  simp only at d0 d1
  have NO : Hid (¬ (1 ≤ sn ∧ sn ≤ 16 ∧ ln ≤ 30 ∧ (∀ (i : Nat) (h : i < secs.length), secs[i].size ≤ 400) ∧ ∀ i, i < ln → pOk sn (nthP late i) = true) → Ending.returned (.bool false) = .returned (.bool ok)) := fun h => by
    cases ok with
    | false => rfl
    | true => exact absurd (HOK.out.1 rfl) h
  by_cases hb1 : sn < 1
  · go_enter Tryz.func21, Tryz.ntmps21
    go_wp2
    go_ret
    exact ⟨NO.out (fun h => by omega), b0⟩
  by_cases hb2 : 16 < sn
  · go_enter Tryz.func21, Tryz.ntmps21
    go_wp2
    go_ret
    exact ⟨NO.out (fun h => by omega), b0⟩
  by_cases hb3 : 30 < ln
  · go_enter Tryz.func21, Tryz.ntmps21
    go_wp2
    go_ret
    exact ⟨NO.out (fun h => by omega), b0⟩
  go_enter Tryz.func21, Tryz.ntmps21
  go_wp2
  go_loop [26] (fun i => ∃ k : Nat, k ≤ sn ∧ i = .int .i64 k ∧ Hid (∀ j (h : j < secs.length), j < k → secs[j].size ≤ 400)) (fun i => sn - (intOf i).toNat)
  case atStart => exact ⟨0, Nat.zero_le _, rfl, fun j _ h => absurd h (Nat.not_lt_zero _)⟩
  case round =>
    obtain ⟨k, hk, rfl, HJ⟩ := hrel
    by_cases hlt : k < sn
    · obtain ⟨b, off, rfl, hc⟩ := txt_at HS.out k (by rw [← HSN.out]; exact hlt)
      have hkc : k < cs := by omega
      have HKL : Hid (k < secs.length) := by unfold Hid; rw [← HSN.out]; exact hlt
      obtain ⟨s, hs⟩ : ∃ s, s = secs[k]'(HKL.out) := ⟨_, rfl⟩
      rw [← hs] at hc
      have Hs : Hid (s = secs[k]'(HKL.out)) := hs
      clear hs
      by_cases hbig : 400 < s.size
      · go_wp2
        go_ret
        exact ⟨NO.out (fun h => by have := h.2.2.2.1 k HKL.out; rw [← Hs.out] at this; omega), b0⟩
      · go_wp2
        go_round
        case rel =>
          refine ⟨k + 1, by omega, by go_num, fun j h h' => ?_⟩
          by_cases hjk : j = k
          · subst hjk; rw [← Hs.out]; omega
          · exact HJ.out j h (by omega)
        case measure => simp [intOf]; omega
    · have hke : k = sn := by omega
      have HJ2 : Hid (∀ (i : Nat) (h : i < secs.length), secs[i].size ≤ 400) := fun i h => HJ.out i h (by rw [hke, HSN.out]; exact h)
      clear HJ hke
      go_wp2
      generalize w.alloc (.cells #[.slice sa sn cs, .slice la ln cl] 27) = W0 at b0 HS T0 d0 d1 ⊢
      go_loopw [37] (fun i wr => ∃ k : Nat, k ≤ ln ∧ i = .int .i64 k ∧ Hid (∀ j, j < k → pOk sn (nthP late j) = true) ∧ Below W0.heap.size W0 wr) (fun i _ => ln - (intOf i).toNat)
      case atStart => exact ⟨0, Nat.zero_le _, rfl, (fun j h => absurd h (Nat.not_lt_zero _)), Below.refl _ _⟩
      case round =>
        obtain ⟨q, hq, rfl, HP, hbw⟩ := hrel
        have bw := b0.trans (hbw.mono b0.size)
        clear d0 d1
        by_cases hlq : q < ln
        · obtain ⟨b, off, rfl, c0, c1⟩ := (HL.out.below bw).at HLN.out q (by rw [← HLN.out]; exact hlq)
          have hqc : q < cl := by omega
          obtain ⟨p, hp⟩ : ∃ p, p = nthP late q := ⟨_, rfl⟩
          rw [← hp] at c0 c1
          have Hp : Hid (p = nthP late q) := hp
          clear hp
          obtain ⟨pos, text⟩ := p
          simp only at c0 c1
          have bb := below1 wr (.cells #[.int .i64 pos, .string text] 70)
          have bw2 := bw.trans (bb.mono bw.size)
          have hbw2 := hbw.trans (bb.mono hbw.size)
          obtain ⟨e0, e1⟩ := (T0.out.below hbw).below bb
          have p0 : (wr.alloc (.cells #[.int .i64 pos, .string text] 70)).cell? ⟨wr.heap.size, 0, none⟩ = some (.int .i64 pos) := by simp [World.cell?_alloc_at]
          have p1 : (wr.alloc (.cells #[.int .i64 pos, .string text] 70)).cell? ⟨wr.heap.size, 1, none⟩ = some (.string text) := by simp [World.cell?_alloc_at]
          simp only at e0 e1
          have HPQ := HPO.out ⟨pos, text⟩ _ bw2
          obtain ⟨t, ht⟩ : ∃ t, t = pOk sn ⟨pos, text⟩ := ⟨_, rfl⟩
          rw [← ht] at HPQ
          have HPQ' : Hid (Calls _ _ _ _ _) := HPQ
          have Ht : Hid (t = pOk sn ⟨pos, text⟩) := ht
          clear ht HPQ
          go_wp2_with fail
          refine HPQ'.out.mono ?_
          rintro e w1 ⟨rfl, hb1⟩
          have bw3 := bw2.trans (hb1.mono bw2.size)
          have hbw3 := hbw2.trans (hb1.mono hbw2.size)
          clear e0 e1 p0 p1 hb1 bw2 hbw2 bb bw hbw c0 c1 HPQ'
          cases t with
          | true =>
            go_wp2
            go_roundw
            case rel =>
              refine ⟨q + 1, by omega, by go_num, (fun j h => ?_), hbw3⟩
              by_cases hjk : j = q
              · subst hjk; rw [← Hp.out]; exact Ht.out.symm
              · exact HP.out j (by omega)
            case measure => simp [intOf]; omega
          | false =>
            go_wp2
            go_ret
            exact ⟨NO.out (fun h => by have := h.2.2.2.2 q hlq; rw [← Hp.out, ← Ht.out] at this; cases this), bw3⟩
        · have HE : Hid (Ending.returned (.bool true) = .returned (.bool ok)) := by unfold Hid; rw [HOK.out.2 ⟨by omega, by omega, by omega, HJ2.out, fun i hi => HP.out i (by omega)⟩]
          clear HP
          go_wp2
          go_ret
          exact ⟨HE.out, bw⟩
end Go.Proofs.YtpidmmfjmbinkaaGreatDoor
