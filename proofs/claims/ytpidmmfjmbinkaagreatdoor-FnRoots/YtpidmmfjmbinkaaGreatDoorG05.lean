/- The contracts of both DeviceOk, and of the program's tests of a sector and a patch. The contracts of both NewDevice. -/
import Derived.Test.YtpidmmfjmbinkaaGreatDoorG03
import Derived.Test.YtpidmmfjmbinkaaGreatDoorG04
-- UNF Gen
namespace Go.Proofs.YtpidmmfjmbinkaaGreatDoor
open Go.RowKit
theorem in64_any (x lo hi : Int) (w : World) :
    Calls Tryz.prog 43 #[.int .i64 x, .int .i64 lo, .int .i64 hi] w fun e w' => e = .returned (.bool (decide (lo ≤ x) && decide (x ≤ hi))) ∧ w' = w := by
  go_enter Tryz.func43, Tryz.ntmps43
  go_wp2
  all_goals go_ret
  · exact ⟨by simp_all, rfl⟩
  · exact ⟨ret_bool (by rw [Bool.eq_iff_iff]; simp; omega), rfl⟩
set_option maxHeartbeats 4000000 in
set_option maxRecDepth 100000 in
theorem specDeviceOk_any (X : DvX) (w : World) (hx : RdDv w X) :
    Calls Tryz.prog 37 #[.agg #[X.vs, X.vl]] w fun e w' => e = .returned (.bool (devOk X.secs X.late)) ∧ Below w.heap.size w w' := by
  obtain ⟨sa, la, cs, cl, hvs, hvl, h1, h2, h3, h4⟩ := hx.slices
  obtain ⟨vs, vl, secs, late⟩ := X
  obtain ⟨hs, -, hl⟩ := hx
  simp only at hvs hvl h1 h3 hs hl ⊢
  obtain ⟨sn, hsn⟩ : ∃ sn, sn = secs.length := ⟨_, rfl⟩
  obtain ⟨ln, hln⟩ : ∃ ln, ln = late.length := ⟨_, rfl⟩
  rw [← hsn] at hvs h1
  rw [← hln] at hvl h3
  subst hvs
  subst hvl
  have b0 := below1 w (.cells #[.slice sa sn cs, .slice la ln cl] 27)
  have HS : Hid (RdS _ _ _) := hs.below b0
  have HL : Hid (RdPt _ _ _) := hl.below b0
  have HSN : Hid (sn = secs.length) := hsn
  have HLN : Hid (ln = late.length) := hln
  have HOK : Hid (devOk secs late = true ↔ 1 ≤ sn ∧ sn ≤ 16 ∧ ln ≤ 30 ∧ (∀ (i : Nat) (h : i < secs.length), secs[i].size ≤ 400) ∧ ∀ i, i < ln → pOk sn (nthP late i) = true) := by rw [hsn, hln]; exact devOk_iff secs late
  generalize devOk secs late = ok at HOK
  clear hsn hln hs hl
  have d0 : (w.alloc (.cells #[.slice sa sn cs, .slice la ln cl] 27)).cell? ⟨w.heap.size, 0, none⟩ = some (.slice sa sn cs) := by simp [World.cell?_alloc_at]
  have d1 : (w.alloc (.cells #[.slice sa sn cs, .slice la ln cl] 27)).cell? ⟨w.heap.size, 1, none⟩ = some (.slice la ln cl) := by simp [World.cell?_alloc_at]
  have NO : Hid (¬ (1 ≤ sn ∧ sn ≤ 16 ∧ ln ≤ 30 ∧ (∀ (i : Nat) (h : i < secs.length), secs[i].size ≤ 400) ∧ ∀ i, i < ln → pOk sn (nthP late i) = true) → Ending.returned (.bool false) = .returned (.bool ok)) := fun h => by
    cases ok with
    | false => rfl
    | true => exact absurd (HOK.out.1 rfl) h
  by_cases hb1 : sn < 1
  · go_enter Tryz.func37, Tryz.ntmps37
    go_wp2
    go_ret
    exact ⟨NO.out (fun h => by omega), b0⟩
  by_cases hb2 : 16 < sn
  · go_enter Tryz.func37, Tryz.ntmps37
    go_wp2
    go_ret
    exact ⟨NO.out (fun h => by omega), b0⟩
  by_cases hb3 : 30 < ln
  · go_enter Tryz.func37, Tryz.ntmps37
    go_wp2
    go_ret
    exact ⟨NO.out (fun h => by omega), b0⟩
  go_enter Tryz.func37, Tryz.ntmps37
  go_wp2
  go_loop [4] (fun i => ∃ k : Nat, k ≤ sn ∧ i = .int .i64 k ∧ Hid (∀ j (h : j < secs.length), j < k → secs[j].size ≤ 400)) (fun i => sn - (intOf i).toNat)
  case atStart => exact ⟨0, Nat.zero_le _, rfl, fun j _ h => absurd h (Nat.not_lt_zero _)⟩
  case round =>
    obtain ⟨k, hk, rfl, HJ⟩ := hrel
    by_cases hlt : k < sn
    · obtain ⟨b, off, rfl, hc⟩ := txt_at HS.out k (by rw [← HSN.out]; exact hlt)
      have hkc : k < cs := by omega
      have HKL : Hid (k < secs.length) := by unfold Hid; rw [← HSN.out]; exact hlt
      obtain ⟨s, hs⟩ : ∃ s, s = secs[k]'(HKL.out) := ⟨_, rfl⟩
      rw [← hs] at hc
      have Hs : Hid (s = secs[k]'(HKL.out)) := hs
      clear hs
      by_cases hbig : 400 < s.size
      · go_wp2
        go_ret
        exact ⟨NO.out (fun h => by have := h.2.2.2.1 k HKL.out; rw [← Hs.out] at this; omega), b0⟩
      · go_wp2
        go_round
        case rel =>
          refine ⟨k + 1, by omega, by go_num, fun j h h' => ?_⟩
          by_cases hjk : j = k
          · subst hjk; rw [← Hs.out]; omega
          · exact HJ.out j h (by omega)
        case measure => simp [intOf]; omega
    · have hke : k = sn := by omega
      have HJ2 : Hid (∀ (i : Nat) (h : i < secs.length), secs[i].size ≤ 400) := fun i h => HJ.out i h (by rw [hke, HSN.out]; exact h)
      clear HJ hke
      go_wp2
      go_loop [5] (fun i => ∃ k : Nat, k ≤ ln ∧ i = .int .i64 k ∧ Hid (∀ j, j < k → pOk sn (nthP late j) = true)) (fun i => ln - (intOf i).toNat)
      case atStart => exact ⟨0, Nat.zero_le _, rfl, fun j h => absurd h (Nat.not_lt_zero _)⟩
      case round =>
        obtain ⟨q, hq, rfl, HP⟩ := hrel
        by_cases hlq : q < ln
        · obtain ⟨b, off, rfl, c0, c1⟩ := HL.out.at HLN.out q (by rw [← HLN.out]; exact hlq)
          have hqc : q < cl := by omega
          obtain ⟨p, hp⟩ : ∃ p, p = nthP late q := ⟨_, rfl⟩
          rw [← hp] at c0 c1
          have Hp : Hid (p = nthP late q) := hp
          clear hp
          obtain ⟨pos, text⟩ := p
          simp only at c0 c1
          by_cases hp0 : 0 ≤ pos ∧ pos < (sn : Int)
          · obtain ⟨hp0, hp1⟩ := hp0
            have e1 : (decide (0 ≤ pos) && decide (pos ≤ (sn : Int) - 1)) = true := by simp; omega
            by_cases hbig : 400 < text.size
            · go_wp2_with (go_at_call 43; refine (in64_any _ _ _ _).mono ?_; rintro e w' ⟨rfl, rfl⟩)
              go_ret
              exact ⟨NO.out (fun h => by have := pOk_iff.1 (h.2.2.2.2 q hlq); rw [← Hp.out] at this; simp only at this; omega), b0⟩
            · go_wp2_with (go_at_call 43; refine (in64_any _ _ _ _).mono ?_; rintro e w' ⟨rfl, rfl⟩)
              go_round
              case rel =>
                refine ⟨q + 1, by omega, by go_num, fun j h => ?_⟩
                by_cases hjk : j = q
                · subst hjk; rw [← Hp.out]; exact pOk_iff.2 ⟨hp0, hp1, by simp only; omega⟩
                · exact HP.out j (by omega)
              case measure => simp [intOf]; omega
          · have e1 : (decide (0 ≤ pos) && decide (pos ≤ (sn : Int) - 1)) = false := by
              rw [Bool.eq_false_iff]
              simp
              omega
            go_wp2_with (go_at_call 43; refine (in64_any _ _ _ _).mono ?_; rintro e w' ⟨rfl, rfl⟩)
            go_ret
            exact ⟨NO.out (fun h => by have := pOk_iff.1 (h.2.2.2.2 q hlq); rw [← Hp.out] at this; simp only at this; omega), b0⟩
        · have hqe : q = ln := by omega
          have hok : Ending.returned (.bool true) = .returned (.bool ok) := by rw [HOK.out.2 ⟨by omega, by omega, by omega, HJ2.out, fun i hi => HP.out i (by omega)⟩]
          clear HP hqe
          have HE : Hid (Ending.returned (.bool true) = .returned (.bool ok)) := hok
          clear hok
          go_wp2
          go_ret
          exact ⟨HE.out, b0⟩
end Go.Proofs.YtpidmmfjmbinkaaGreatDoor
namespace Go.Proofs.YtpidmmfjmbinkaaGreatDoor
open Go.RowKit
/-- What a function leaves that tells a device in rows of its own, and a bool. -/
def DvRes (w : World) (ss : List ByteArray) (ps : List Pat) (ok : Bool) (e : Ending) (w' : World) : Prop := ∃ Y : DvX, e = .returned (.tuple #[.agg #[Y.vs, Y.vl], .bool ok]) ∧ Y.secs = ss ∧ Y.late = ps ∧ OwnDv w' w.heap.size Y ∧ Below w.heap.size w w'
theorem ownS_zero (w : World) (B : Nat) : OwnS w B (.slice none 0 0) [] := ⟨rfl, .inl ⟨rfl, rfl⟩⟩
theorem ownPt_zero (w : World) (B : Nat) : OwnPt w B (.slice none 0 0) [] := ⟨rfl, .inl ⟨rfl, rfl⟩⟩
theorem ownDv_zero (w : World) (B : Nat) : OwnDv w B ⟨.slice none 0 0, .slice none 0 0, [], []⟩ := ⟨ownS_zero w B, ownPt_zero w B⟩
def newS (n : Int) : List ByteArray := if 1 ≤ n ∧ n ≤ 16 then List.replicate n.toNat ⟨#[]⟩ else []
def newO (n : Int) : Bool := decide (1 ≤ n) && decide (n ≤ 16)
set_option maxHeartbeats 2000000 in
set_option maxRecDepth 100000 in
theorem specNew_any (n : Int) (w : World) : Calls Tryz.prog 72 #[.int .i64 n] w fun e w' => DvRes w (newS n) [] (newO n) e w' := by
  have r0 := boxDv_new w (.slice none 0 0) (.slice none 0 0)
  have b0 := below1 w (.cells #[.slice none 0 0, .slice none 0 0] 27)
  obtain ⟨f0, f1, f2, f3⟩ := r0.facts
  by_cases hn : 1 ≤ n ∧ n ≤ 16
  · obtain ⟨h1, h2⟩ := hn
    obtain ⟨m, hm⟩ : ∃ m : Nat, n = (m : Int) := ⟨n.toNat, by omega⟩
    have HS : Hid (newS n = List.replicate m ⟨#[]⟩) := by unfold Hid newS; rw [if_pos ⟨h1, h2⟩, hm]; rfl
    have HO : Hid (newO n = true) := by unfold Hid newO; simp; omega
    rw [HS.out, HO.out]
    clear HS HO
    subst hm
    have e1 : (decide ((1 : Int) ≤ (m : Int)) && decide ((m : Int) ≤ 16)) = true := by simp; omega
    obtain ⟨i0, hi, hz0, hz1, hz2⟩ := info_parts Tryz.info9
    go_enter Tryz.func72, Tryz.ntmps72
    go_wp2_with first | (go_at_call 43; refine (in64_any _ _ _ _).mono ?_; rintro e w' ⟨rfl, rfl⟩) | (at_make; (refine wpList_make_full _ rfl _ _ 24 rfl (w.heap.size + 1) 9 i0 (.string ⟨#[]⟩) 1 Tryz.underlying24 hi hz0 hz1 .i64 .i64 (m : Int) (m : Int) m rfl rfl rfl rfl ?c1 ?c2 ?c3 ?_))
    case c1 => rw [hz2]; omega
    case c2 => unfold maxLen; omega
    case c3 => simp
    intro w1 ho1 hg1
    rw [made_SV] at ho1
    have hb1 := b0.grown hg1 (by simp) (fun k hk => by cases hk)
    have r1 : BoxDv w1 w.heap.size _ _ := r0.of_block (hg1.block _ (by simp) (by simp))
    have ho2 : OwnS w1 (w.heap.size + 1) (.slice (some ⟨w.heap.size + 1, 0, none⟩) m m) (List.replicate m ⟨#[]⟩) := by
      unfold OwnS
      rw [List.length_replicate]
      simpa using ho1
    clear hg1 r0 b0 f0 f1 f2 f3 ho1
    obtain ⟨f0, f1, f2, f3⟩ := r1.facts
    have z := (r1.set0 (u := .slice (some ⟨w.heap.size + 1, 0, none⟩) m m)).set1 (u := .slice none 0 0)
    obtain ⟨k0, k1, -, -⟩ := z.facts
    have HF : Hid (DvRes w (List.replicate m ⟨#[]⟩) [] true (.returned (.tuple #[.agg #[.slice (some ⟨w.heap.size + 1, 0, none⟩) m m, .slice none 0 0], .bool true])) ((w1.setCell ⟨w.heap.size, 0, none⟩ (.slice (some ⟨w.heap.size + 1, 0, none⟩) m m)).setCell ⟨w.heap.size, 1, none⟩ (.slice none 0 0))) :=
      ⟨⟨.slice (some ⟨w.heap.size + 1, 0, none⟩) m m, .slice none 0 0, List.replicate m ⟨#[]⟩, []⟩, rfl, rfl, rfl, ⟨OwnS.mono (row_base (row_base ho2 (by omega)) (by omega)) (by omega), ownPt_zero _ _⟩, (hb1.setCell (p := ⟨w.heap.size, 0, none⟩) (by simp) _).setCell (p := ⟨w.heap.size, 1, none⟩) (by simp) _⟩
    clear z r1 ho2 hb1
    go_wp2
    exact bodyPost_ret (v := .tuple #[.agg #[.slice (some ⟨w.heap.size + 1, 0, none⟩) m m, .slice none 0 0], .bool true]) (by simp [results, Tryz.results72, go_sem, k0, k1]) rfl HF.out
  · have HS : Hid (newS n = []) := by unfold Hid newS; rw [if_neg hn]
    have e1 : (decide ((1 : Int) ≤ n) && decide (n ≤ 16)) = false := by rw [Bool.eq_false_iff]; simp; omega
    have HO : Hid (newO n = false) := e1
    rw [HS.out, HO.out]
    have HF : Hid (DvRes w [] [] false (.returned (.tuple #[.agg #[.slice none 0 0, .slice none 0 0], .bool false])) (w.alloc (.cells #[.slice none 0 0, .slice none 0 0] 27))) := ⟨⟨.slice none 0 0, .slice none 0 0, [], []⟩, rfl, rfl, rfl, ownDv_zero _ _, b0⟩
    clear HS HO hn
    go_enter Tryz.func72, Tryz.ntmps72
    go_wp2_with (go_at_call 43; refine (in64_any _ _ _ _).mono ?_; rintro e w' ⟨rfl, rfl⟩)
    exact bodyPost_ret (v := .tuple #[.agg #[.slice none 0 0, .slice none 0 0], .bool false]) (by simp [results, Tryz.results72, go_sem, f0, f1]) rfl HF.out
end Go.Proofs.YtpidmmfjmbinkaaGreatDoor
