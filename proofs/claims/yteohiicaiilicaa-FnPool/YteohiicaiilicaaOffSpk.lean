/- The contracts of the model's Next, l14Chosen and Chosen. -/
-- UNF Gen
import Derived.Test.YteohiicaiilicaaOffNxt
import Derived.Test.YteohiicaiilicaaOffTxt
import Derived.Test.YteohiicaiilicaaOffSpn
namespace Go.Proofs.Yteohiicaiilicaa
open Go.RowKit
set_option maxHeartbeats 4000000 in
set_option maxRecDepth 100000 in
theorem specNext_any (v : Value) (es : List Off) (w : World) (hr : RdO w v es) (hf : ∀ e ∈ es, e.text.size ≤ maxLen) :
    Calls Try.prog 21 #[v] w fun e w' => NxtRes es w e w' := by
  obtain ⟨a, cap, hv, hl, hm, _⟩ := id hr
  unfold maxLen at hm
  subst hv
  have b1 := below1 w (.cells #[.int .i64 0, .string ⟨#[]⟩] 26)
  have bx1 := alloc_at w (.cells #[.int .i64 0, .string ⟨#[]⟩] 26)
  have HC : Hid (∀ P, poolOk es = P → ∀ W, RdO W (.slice a es.length cap) es → Calls Try.prog 18 #[.slice a es.length cap] W fun e w' => e = .returned (.bool P) ∧ Below W.heap.size W w') := fun P hP W h => by subst hP; exact specPoolOk_any _ es W h hf
  have hr1 := hr.below b1
  have hNs : w.heap.size < (w.alloc (.cells #[.int .i64 0, .string ⟨#[]⟩] 26)).heap.size := by simp
  clear hf
  by_cases hno : nxtO es = true
  · have hp : poolOk es = true := by unfold nxtO at hno; simp only [Bool.and_eq_true] at hno; exact hno.1
    have hn0 : ¬ es.length = 0 := by unfold nxtO at hno; simp only [Bool.and_eq_true] at hno; simpa using hno.2
    have hl50 := (poolOk_iff.1 hp).1
    have RES : Hid (nxtO es = true) := hno
    have hn0b : ((es.length : Int) == 0) = false := beq_false_of_ne (by omega)
    have hn0c : decide ((es.length : Int) = 0) = false := decide_eq_false (by omega)
    clear hno
    go_enter Try.func21, Try.ntmps21
    go_wp2_with fail
    refine (HC.out true hp _ hr1).mono ?_
    rintro e w2 ⟨rfl, hb2⟩
    have b2 := b1.trans (hb2.mono b1.size)
    have bx2 := (hb2.block _ hNs).trans bx1
    have hN2 : w.heap.size < w2.heap.size := Nat.lt_of_lt_of_le hNs hb2.size
    have hr2 := hr.below b2
    clear hb2 b1 hr1 bx1 hNs
    go_wp2_with fail
    refine (l14Next_any _ es (es.length - 1) _ hr2 (by omega) (by omega)).mono ?_
    rintro e w3 ⟨a3, n3, c3, rfl, ho3, hb3⟩
    obtain ⟨x, hx⟩ : ∃ x, x = nthO es 0 := ⟨_, rfl⟩
    have HX : Hid (x = nthO es 0) := hx
    rw [← hx]
    clear hx
    have b3 := b2.trans (hb3.mono b2.size)
    have bx3 := (hb3.block _ hN2).trans bx2
    have b4 := b3.alloc b3.size (.cells #[.int .i64 x.fee, .string x.text] 26)
    have bx4 := ((below1 w3 (.cells #[.int .i64 x.fee, .string x.text] 26)).block _ (Nat.lt_of_lt_of_le hN2 hb3.size)).trans bx3
    have ho4 := ho3.below (below1 w3 (.cells #[.int .i64 x.fee, .string x.text] 26))
    have hM : ¬ w3.heap.size = w.heap.size := by have := hb3.size; omega
    have hM' : ¬ w.heap.size = w3.heap.size := by have := hb3.size; omega
    obtain ⟨z0, z1, g0, g1⟩ := box2O bx4
    obtain ⟨x0, x1, -, -⟩ := box2O (put2O (u0 := .int .i64 x.fee) (u1 := .string x.text) bx4)
    have HE : Hid (NxtRes es w (.returned (.tuple #[.agg #[.int .i64 x.fee, .string x.text], .slice a3 n3 c3, .bool true])) (((w3.alloc (.cells #[.int .i64 x.fee, .string x.text] 26)).setCell ⟨w.heap.size, 0, none⟩ (.int .i64 x.fee)).setCell ⟨w.heap.size, 1, none⟩ (.string x.text))) := by
      have h := nxtRes_yes RES.out ((ownO_put2 (N := w.heap.size) (u0 := .int .i64 x.fee) (u1 := .string x.text) ho4 hN2).mono b2.size) (ownO_shape ho3).2.1 (Nat.le_refl _) ((b4.setCell (Nat.le_refl _) _).setCell (Nat.le_refl _) _)
      rw [← HX.out] at h
      exact h
    clear hr2 ho3 ho4 hb3 b2 b3 b4 bx2 bx3 bx4 hN2
    go_wp2
    exact bodyPost_ret (v := .tuple #[.agg #[.int .i64 x.fee, .string x.text], .slice a3 n3 c3, .bool true]) (by simp [results, Try.results21, go_sem, x0, x1]) rfl HE.out
  · have RES : Hid (nxtO es = false) := by unfold Hid; cases h : nxtO es with
      | true => exact absurd h hno
      | false => rfl
    clear hno
    cases hp : poolOk es with
    | false =>
      go_enter Try.func21, Try.ntmps21
      go_wp2_with fail
      refine (HC.out false hp _ hr1).mono ?_
      rintro e w2 ⟨rfl, hb2⟩
      have b2 := b1.trans (hb2.mono b1.size)
      have bx2 := (hb2.block _ hNs).trans bx1
      have b3 := b2.alloc b2.size (.cells #[] 26)
      have bx3 := ((below1 w2 (.cells #[] 26)).block _ (Nat.lt_of_lt_of_le hNs hb2.size)).trans bx2
      obtain ⟨z0, z1, g0, g1⟩ := box2O bx3
      obtain ⟨x0, x1, -, -⟩ := box2O (put2O (u0 := .int .i64 0) (u1 := .string ⟨#[]⟩) bx3)
      have HE : Hid (NxtRes es w (.returned (.tuple #[.agg #[.int .i64 0, .string ⟨#[]⟩], .slice (some ⟨w2.heap.size, 0, none⟩) 0 0, .bool false])) (((w2.alloc (.cells #[] 26)).setCell ⟨w.heap.size, 0, none⟩ (.int .i64 0)).setCell ⟨w.heap.size, 1, none⟩ (.string ⟨#[]⟩))) :=
        nxtRes_no RES.out ((ownO_put2 (ownO_none w2) (Nat.lt_of_lt_of_le hNs hb2.size)).mono b2.size) ((b3.setCell (Nat.le_refl _) _).setCell (Nat.le_refl _) _)
      clear hb2 b1 hr1 bx1 bx2 bx3 b2 b3 hNs
      go_wp2
      exact bodyPost_ret (v := .tuple #[.agg #[.int .i64 0, .string ⟨#[]⟩], .slice (some ⟨w2.heap.size, 0, none⟩) 0 0, .bool false]) (by simp [results, Try.results21, go_sem, x0, x1]) rfl HE.out
    | true =>
      have hn0 : es.length = 0 := by
        have h := RES.out
        unfold nxtO at h
        rw [hp] at h
        simpa using h
      have hn0b : ((es.length : Int) == 0) = true := beq_iff_eq.mpr (by omega)
      have hn0c : decide ((es.length : Int) = 0) = true := decide_eq_true (by omega)
      clear hn0
      go_enter Try.func21, Try.ntmps21
      go_wp2_with fail
      refine (HC.out true hp _ hr1).mono ?_
      rintro e w2 ⟨rfl, hb2⟩
      have b2 := b1.trans (hb2.mono b1.size)
      have bx2 := (hb2.block _ hNs).trans bx1
      have b3 := b2.alloc b2.size (.cells #[] 26)
      have bx3 := ((below1 w2 (.cells #[] 26)).block _ (Nat.lt_of_lt_of_le hNs hb2.size)).trans bx2
      obtain ⟨z0, z1, g0, g1⟩ := box2O bx3
      obtain ⟨x0, x1, -, -⟩ := box2O (put2O (u0 := .int .i64 0) (u1 := .string ⟨#[]⟩) bx3)
      have HE : Hid (NxtRes es w (.returned (.tuple #[.agg #[.int .i64 0, .string ⟨#[]⟩], .slice (some ⟨w2.heap.size, 0, none⟩) 0 0, .bool false])) (((w2.alloc (.cells #[] 26)).setCell ⟨w.heap.size, 0, none⟩ (.int .i64 0)).setCell ⟨w.heap.size, 1, none⟩ (.string ⟨#[]⟩))) :=
        nxtRes_no RES.out ((ownO_put2 (ownO_none w2) (Nat.lt_of_lt_of_le hNs hb2.size)).mono b2.size) ((b3.setCell (Nat.le_refl _) _).setCell (Nat.le_refl _) _)
      clear hb2 b1 hr1 bx1 bx2 bx3 b2 b3 hNs
      go_wp2
      exact bodyPost_ret (v := .tuple #[.agg #[.int .i64 0, .string ⟨#[]⟩], .slice (some ⟨w2.heap.size, 0, none⟩) 0 0, .bool false]) (by simp [results, Try.results21, go_sem, x0, x1]) rfl HE.out
/-- A row of Offers is left as it is by an append to a row of texts. -/
theorem ownO_txt {w w' : World} {B B2 n : Nat} {v u : Value} {es : List Off} {ss : List ByteArray} (h : OwnO w B v es) (hs : w.ownsRow B2 9 1 u n (ss.map Value.string)) (hg : w.grownBy w' u.ownBlock) : OwnO w' B v es :=
  ownO_kept h (fun k hk => hg.block k (ownO_lt h k hk) (fun e => rows_apart h hs (by decide) k hk e.symm))
set_option maxHeartbeats 4000000 in
set_option maxRecDepth 100000 in
theorem l14Chosen_any (v : Value) (es : List Off) (nn : Int) (w : World) (hr : RdO w v es) (hl : es.length ≤ 50) (hn : nn ≤ 9223372036854775807) (hn2 : -9223372036854775808 ≤ nn) :
    Calls Try.prog 48 #[v, .int .i64 nn] w fun e w' => TxPost w w (chL (min nn.toNat es.length) es) e w' := by
  obtain ⟨i0, hi, hz0, hz1, hz2⟩ := info_parts Try.info9
  obtain ⟨TS, hTS⟩ : ∃ TS, TS = chL (min nn.toNat es.length) es := ⟨_, rfl⟩
  obtain ⟨K, hK⟩ : ∃ K, K = min nn.toNat es.length := ⟨_, rfl⟩
  rw [← hTS]
  rw [← hK] at hTS
  have hK1 : K ≤ 50 := by omega
  have HK2 : Hid (∀ k : Nat, nn - (k : Int) ≤ 0 → k ≤ K → k = K) := fun k h1 h2 => by omega
  have HK3 : Hid (∀ k n1 : Nat, 0 < nn - (k : Int) → n1 + k = es.length → 0 < n1 → k < K) := fun k n1 h1 h2 h3 => by omega
  have HK4 : Hid (∀ k : Nat, k = es.length → k ≤ K → k = K) := fun k h1 h2 => by omega
  have hst := ownS_none w
  have hb0 := below1 w (.cells #[] 9)
  clear hK
  go_enter Try.func48, Try.ntmps48
  go_wp2
  go_loopw [0, 1, 5] (fun lv nv tv wr => ∃ (ss : List ByteArray) (es1 : List Off) (z : Int), nv = .int .i64 z ∧ Hid (z = nn - (ss.length : Int)) ∧ OwnS wr w.heap.size tv ss ∧ (OwnO wr w.heap.size lv es1 ∨ RdO w lv es1) ∧ ss.length ≤ K ∧ Hid (es1.length + ss.length = es.length) ∧ Hid (ss ++ chL (K - ss.length) es1 = TS) ∧ Below w.heap.size w wr) (fun _ _ tv _ => 51 - lenV tv)
  case atStart => exact ⟨[], es, nn, rfl, by unfold Hid; simp, hst, .inr hr, Nat.zero_le _, by unfold Hid; simp, by rw [hTS]; rfl, hb0⟩
  case round =>
    obtain ⟨ss, es1, z, rfl, HZ, hos, hol, hsk, HL, HT, hb⟩ := hrel
    clear hst hTS hb0
    have hrl := hol.elim (fun h => h.rd) (fun h => h.below hb)
    obtain ⟨ta, tk, tc, rfl⟩ := ownS_slice hos
    have htk := ownS_shape hos
    have HSL : Hid (ss.length = tk) := htk.symm
    obtain ⟨la, lc, hv, hlc, hlm, -⟩ := id hrl
    unfold maxLen at hlm
    obtain ⟨n1, hn1⟩ : ∃ n1, n1 = es1.length := ⟨_, rfl⟩
    have HN1 : Hid (es1.length = n1) := hn1.symm
    rw [← hn1] at hv hlc
    subst hv
    have hn1b : n1 ≤ 50 := by have := HL.out; omega
    have htk51 : tk < 51 := by omega
    clear hn1 htk hol
    by_cases hz : 0 < z
    · cases n1 with
      | zero =>
        have HF : Hid (TxPost w w TS (.returned (.slice ta tk tc)) wr) := ⟨_, rfl, by
          have h := HT.out
          rw [HK4.out ss.length (by have := HL.out; have := HN1.out; omega) hsk, Nat.sub_self] at h
          have h2 : ss = TS := by simpa [chL] using h
          rw [← h2]; exact hos, hb⟩
        have hzd : decide (0 < z) = true := by simp; omega
        clear hos hb hrl
        go_wp2
        go_ret
        exact HF.out
      | succ m =>
        have hkK : ss.length < K := HK3.out ss.length (m + 1) (by have := HZ.out; omega) (by have := HL.out; have := HN1.out; omega) (by omega)
        obtain ⟨x, hx⟩ : ∃ x, x = nthO es1 0 := ⟨_, rfl⟩
        have HT2 : Hid ((ss ++ [x.text]) ++ chL (K - (ss.length + 1)) (nxtL es1) = TS) := by
          unfold Hid
          have h := HT.out
          rw [show K - ss.length = (K - (ss.length + 1)) + 1 by omega, chL] at h
          rw [hx]
          simpa using h
        have HL2 : Hid ((nxtL es1).length + (ss.length + 1) = es.length) := by unfold Hid; rw [nxtL_len]; have := HL.out; have := HN1.out; omega
        have hzd : decide (0 < z) = true := by simp; omega
        have hnd : (0 : Int) < (m : Int) + 1 := by omega
        have hzw : IntKind.i64.wrap (z - 1) = z - 1 := by rw [IntKind.wrap_i64]; have := HZ.out; omega
        have HN := hx
        have HX : Hid (x = nthO es1 0) := hx
        clear hx HN
        go_wp2_with fail
        refine (l14Next_any _ es1 m _ hrl HN1.out (by omega)).mono ?_
        rintro e w2 ⟨a3, n3, c3, rfl, ho2, hb2⟩
        rw [← HX.out]
        have b2 := hb.trans (hb2.mono hb.size)
        have hs2 := hos.below hb2
        have ho2' : OwnO w2 w.heap.size (.slice a3 n3 c3) (nxtL es1) := ho2.mono hb.size
        have ho3 := ho2'.below (below1 w2 (.cells #[.int .i64 x.fee, .string x.text] 26))
        have hs3 := hs2.below (below1 w2 (.cells #[.int .i64 x.fee, .string x.text] 26))
        have b3 := b2.alloc b2.size (.cells #[.int .i64 x.fee, .string x.text] 26)
        have hszE : (w2.alloc (.cells #[.int .i64 x.fee, .string x.text] 26)).heap.size = w2.heap.size + 1 := by simp
        have hLs : ss.length ≤ 51 := by have := HSL.out; omega
        have hw2 : w.heap.size ≤ w2.heap.size := b2.size
        clear hb2 ho2 ho2' hs2 hb hos b2 hrl
        go_wp2_with (at_builtin; (refine wpList_append_own _ rfl _ _ 36 rfl w.heap.size 9 i0 (.string ⟨#[]⟩) 1 16 Try.underlying36 hi hz0 hz1 hz2 rfl (by decide) _ _ _ rfl (World.ownsRow.alloc hs3 _) ⟨w2.heap.size + 1, 0, none⟩ 1 1 [.string x.text] rfl rfl ?c1 ?c2 ?c3 ?c4 ?c5 ?_))
        case c1 => rw [← hszE]; exact one_newO _ _ _
        case c2 => intro u hu; simp at hu; subst hu; rfl
        case c3 => unfold maxLen; omega
        case c4 => omega
        case c5 => simp; omega
        intro v' w3 hown' hgrow _
        have R1 := ownS_push hown'
        have ho4 := ho3.below (below1 _ (.cells #[.string x.text] 9))
        have hs4 := World.ownsRow.alloc hs3 (.cells #[.string x.text] 9)
        have R2 : OwnO w3 w.heap.size (.slice a3 n3 c3) (nxtL es1) := ownO_txt ho4 hs4 hgrow
        have b4 := b3.alloc b3.size (.cells #[.string x.text] 9)
        have R3 : Below w.heap.size w w3 := b4.grown hgrow b4.size (fun k hk => (World.ownsRow.lt hs4 k hk).1)
        clear hown' hgrow ho3 hs3 ho4 hs4 b3 b4
        obtain ⟨ua, un, uc, rfl⟩ := ownS_slice R1
        have hun := ownS_shape R1
        rw [List.length_append, HSL.out, List.length_singleton] at hun
        subst hun
        go_wp2
        go_roundw
        case rel => exact ⟨_, _, _, rfl, by unfold Hid; rw [List.length_append, List.length_singleton]; have := HZ.out; omega, R1, .inl R2, by rw [List.length_append, List.length_singleton]; omega, by rw [List.length_append, List.length_singleton]; exact HL2, by rw [List.length_append, List.length_singleton]; exact HT2, R3⟩
        case measure => simp [lenV]; omega
    · have HF : Hid (TxPost w w TS (.returned (.slice ta tk tc)) wr) := ⟨_, rfl, by
        have h := HT.out
        rw [HK2.out ss.length (by have := HZ.out; omega) hsk, Nat.sub_self] at h
        have h2 : ss = TS := by simpa [chL] using h
        rw [← h2]; exact hos, hb⟩
      have hzd : decide (0 < z) = false := by simp; omega
      clear hos hb hrl
      go_wp2
      go_ret
      exact HF.out
set_option maxHeartbeats 4000000 in
set_option maxRecDepth 100000 in
theorem specChosen_any (v : Value) (es : List Off) (nn : Int) (w : World) (hr : RdO w v es) (hf : ∀ e ∈ es, e.text.size ≤ maxLen) (hn : nn ≤ 9223372036854775807) (hn2 : -9223372036854775808 ≤ nn) :
    Calls Try.prog 20 #[v, .int .i64 nn] w fun e w' => ChoRes es nn w e w' := by
  obtain ⟨P, hP⟩ : ∃ P, P = poolOk es := ⟨_, rfl⟩
  have HC : Hid (Calls Try.prog 18 #[v] w fun e w' => e = .returned (.bool P) ∧ Below w.heap.size w w') := by rw [hP]; exact specPoolOk_any v es w hr hf
  have HR : Hid (choR es nn = if P = true then chL (min nn.toNat es.length) es else []) := by unfold Hid choR; rw [hP]
  have HL : Hid (P = true → es.length ≤ 50) := fun h => (poolOk_iff.1 (hP.symm.trans h)).1
  clear hP hf
  cases P with
  | false =>
    go_enter Try.func20, Try.ntmps20
    go_wp2_with fail
    refine HC.out.mono ?_
    rintro e w1 ⟨rfl, hb1⟩
    go_wp2
    go_ret
    exact ⟨_, rfl, by rw [HR.out]; exact (ownS_none w1).mono hb1.size, hb1.alloc hb1.size _⟩
  | true =>
    have hl := HL.out rfl
    have HR2 : Hid (choR es nn = chL (min nn.toNat es.length) es) := HR.out
    go_enter Try.func20, Try.ntmps20
    go_wp2_with fail
    refine HC.out.mono ?_
    rintro e w1 ⟨rfl, hb1⟩
    have hr1 := hr.below hb1
    go_wp2_with fail
    refine (l14Chosen_any _ es nn _ hr1 (by omega) hn hn2).mono ?_
    rintro e w3 ⟨u, rfl, ho3, hb3⟩
    have HE : Hid (ChoRes es nn w (.returned u) w3) := ⟨u, rfl, by rw [HR2.out]; exact ho3.mono hb1.size, hb1.trans (hb3.mono hb1.size)⟩
    clear ho3 hb3 hb1 hr1
    go_wp2
    go_ret
    exact HE.out
end Go.Proofs.Yteohiicaiilicaa
