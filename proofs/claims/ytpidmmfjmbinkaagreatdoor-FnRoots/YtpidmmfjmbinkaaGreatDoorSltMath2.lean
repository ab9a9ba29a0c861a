/- Plain facts on roots: a text is read as one slot alone; behind a switch the root is the new one; cut halfway it is the old one or the new one. -/
import Derived.Test.YtpidmmfjmbinkaaGreatDoorSltSw
namespace Go.Proofs.YtpidmmfjmbinkaaGreatDoor
open Go.RowKit
theorem app_inj {a a' x x' : List UInt8} (h : a ++ 32 :: x = a' ++ 32 :: x') (ha : 32 ∉ a) (ha' : 32 ∉ a') : a = a' ∧ x = x' := by
  have e := words_app a x ha
  rw [h, words_app a' x' ha'] at e
  injection e with e1 _
  subst e1
  have e2 := List.append_cancel_left h
  injection e2 with _ e3
  exact ⟨rfl, e3⟩
theorem slotT_inj {g g' : Int} {t t' : ByteArray} (h : 1 ≤ g ∧ g ≤ 1000000 ∧ t.size ≤ 300) (h' : 1 ≤ g' ∧ g' ≤ 1000000 ∧ t'.size ≤ 300) (e : slotT g t = slotT g' t') : g = g' ∧ t = t' := by
  have e1 : (slotT g t).data.toList = (slotT g' t').data.toList := by rw [e]
  rw [slotT_list, slotT_list] at e1
  obtain ⟨e2, e3⟩ := app_inj e1 (itoa_noBlank _ (by omega)) (itoa_noBlank _ (by omega))
  obtain ⟨_, e4⟩ := app_inj e3 (itoa_noBlank _ (by omega)) (itoa_noBlank _ (by omega))
  have p1 := parse_itoa g (by omega) (by omega)
  rw [e2, parse_itoa g' (by omega) (by omega)] at p1
  injection p1 with p1
  exact ⟨p1.symm, ba_eq e4⟩
theorem rs_fun {s : ByteArray} {r r' : Option (Int × ByteArray)} (h : RS s r) (h' : RS s r') : r = r' := by
  cases r with
  | none =>
    cases r' with
    | none => rfl
    | some p =>
      obtain ⟨g, t⟩ := p
      exact absurd h'.2.symm (h g t h'.1)
  | some p =>
    obtain ⟨g, t⟩ := p
    cases r' with
    | none => exact absurd h.2.symm (h' g t h.1)
    | some q =>
      obtain ⟨g', t'⟩ := q
      obtain ⟨e1, e2⟩ := slotT_inj h.1 h'.1 (h.2.symm.trans h'.2)
      rw [e1, e2]
theorem rootR_is (r0 r1 : Option (Int × ByteArray)) : ((rootR r0 r1).1 = -1 ∧ r0 = none ∧ r1 = none) ∨ ((rootR r0 r1).1 = 0 ∧ r0 = some ((rootR r0 r1).2.1, (rootR r0 r1).2.2)) ∨ ((rootR r0 r1).1 = 1 ∧ r1 = some ((rootR r0 r1).2.1, (rootR r0 r1).2.2)) := by
  cases r0 with
  | none =>
    cases r1 with
    | none => exact .inl ⟨rfl, rfl, rfl⟩
    | some q => exact .inr (.inr ⟨rfl, rfl⟩)
  | some p =>
    obtain ⟨a, s⟩ := p
    cases r1 with
    | none => exact .inr (.inl ⟨rfl, rfl⟩)
    | some q =>
      obtain ⟨b, t⟩ := q
      by_cases h : b ≤ a
      · have e : rootR (some (a, s)) (some (b, t)) = (0, a, s) := by show (if b ≤ a then ((0 : Int), a, s) else (1, b, t)) = _; rw [if_pos h]
        rw [e]
        exact .inr (.inl ⟨rfl, rfl⟩)
      · have e : rootR (some (a, s)) (some (b, t)) = (1, b, t) := by show (if b ≤ a then ((0 : Int), a, s) else (1, b, t)) = _; rw [if_neg h]
        rw [e]
        exact .inr (.inr ⟨rfl, rfl⟩)
theorem liesN {R : List ByteArray} {i : Nat} (h1 : devOk R [] = true) (hl : i < R.length) : liesL R [] (i : Int) = R[i] := by
  unfold liesL
  rw [if_pos (by rw [h1]; simp; omega)]
  show R.getD ((i : Int).toNat) ⟨#[]⟩ = R[i]
  rw [Int.toNat_natCast, List.getD_eq_getElem?_getD, List.getElem?_eq_getElem hl]
  rfl
theorem bar_at {ss : List ByteArray} {ps : List Pat} (h : devOk ss ps = true) {i : Nat} (hi : i < ss.length) (hi2 : i < (barS ss ps).length) : (barS ss ps)[i] = liesL ss ps (i : Int) := by
  obtain ⟨_, _, _, _, h5⟩ := (devOk_iff ss ps).1 h
  have e := lies_cut (s := ss) (l := ps) (p := i) hi ps.length (Nat.le_refl _) h5 (by rw [cutTo_len]; exact hi)
  unfold liesL
  rw [if_pos (by rw [h]; simp; omega), Int.toNat_natCast, List.getD_eq_getElem?_getD, List.getElem?_eq_getElem hi]
  show _ = liesTo ss[i] ps (i : Int) ps.length
  rw [← e]
  congr 1
  unfold barS
  exact cutL_yes h
theorem dev_one {B : List ByteArray} {p : Pat} (h : devOk B [] = true) (hp : pOk B.length p = true) : devOk B [p] = true := by
  obtain ⟨h1, h2, _, h4, _⟩ := (devOk_iff B []).1 h
  refine (devOk_iff B [p]).2 ⟨h1, h2, by simp, h4, fun i hi => ?_⟩
  have : i = 0 := by simpa using hi
  subst this
  exact hp
theorem cut_one {B : List ByteArray} {p : Pat} (h : devOk B [p] = true) (kp : Nat → Bool) : cutL B [p] kp = if kp 0 then B.set p.pos.toNat p.text else B := by
  unfold cutL
  rw [if_pos h]
  rfl
theorem dev_set {B : List ByteArray} {k : Nat} {s : ByteArray} (h : devOk B [] = true) (hs : s.size ≤ 400) : devOk (B.set k s) [] = true := by
  obtain ⟨h1, h2, _, h4, _⟩ := (devOk_iff B []).1 h
  refine (devOk_iff _ _).2 ⟨by rw [List.length_set]; exact h1, by rw [List.length_set]; exact h2, by simp, fun i hi => ?_, fun i hi => by simp at hi⟩
  rw [List.length_set] at hi
  rw [List.getElem_set]
  split
  · exact hs
  · exact h4 i hi
/-- Where the next slot is laid: the facts of it. -/
theorem next_facts {ss : List ByteArray} {ps : List Pat} {R : Int × Int × ByteArray} {t : ByteArray} (hn : nextB ss ps R t = true) : devOk ss ps = true ∧ 2 ≤ ss.length ∧ (1 ≤ R.2.1 + 1 ∧ R.2.1 + 1 ≤ 1000000 ∧ t.size ≤ 300) ∧ devOk (barS ss ps) [⟨nextTo R, slotS (R.2.1 + 1) t⟩] = true := by
  unfold nextB at hn
  simp only [Bool.and_eq_true] at hn
  obtain ⟨k1, k2⟩ := two_iff.1 hn.1
  obtain ⟨b1, b2⟩ := bar_ok k1
  refine ⟨k1, k2, slotOk_iff.1 hn.2, dev_one b1 (pOk_iff.2 ?_)⟩
  show 0 ≤ nextTo R ∧ nextTo R < ((barS ss ps).length : Int) ∧ (slotS (R.2.1 + 1) t).size ≤ 400
  refine ⟨?_, ?_, slotS_size _ _⟩
  · unfold nextTo; split <;> omega
  · unfold nextTo; split <;> omega
theorem root_next {ss : List ByteArray} {ps : List Pat} {r0 r1 q0 q1 : Option (Int × ByteArray)} {t : ByteArray} (h0 : RS (liesL ss ps 0) r0) (h1 : RS (liesL ss ps 1) r1) (hn : nextB ss ps (rootD ss ps r0 r1) t = true)
    (g0 : RS (liesL (cutL (barS ss ps) [⟨nextTo (rootD ss ps r0 r1), slotS ((rootD ss ps r0 r1).2.1 + 1) t⟩] (fun _ => true)) [] 0) q0) (g1 : RS (liesL (cutL (barS ss ps) [⟨nextTo (rootD ss ps r0 r1), slotS ((rootD ss ps r0 r1).2.1 + 1) t⟩] (fun _ => true)) [] 1) q1) :
    devOk (cutL (barS ss ps) [⟨nextTo (rootD ss ps r0 r1), slotS ((rootD ss ps r0 r1).2.1 + 1) t⟩] (fun _ => true)) [] = true ∧ (rootD (cutL (barS ss ps) [⟨nextTo (rootD ss ps r0 r1), slotS ((rootD ss ps r0 r1).2.1 + 1) t⟩] (fun _ => true)) [] q0 q1).2 = ((rootD ss ps r0 r1).2.1 + 1, t) := by
  obtain ⟨k1, k2, k3, k4⟩ := next_facts hn
  obtain ⟨b1, b2⟩ := bar_ok k1
  have hR : rootD ss ps r0 r1 = rootR r0 r1 := root_two h0 h1 k2
  obtain ⟨sl, hsl⟩ : ∃ sl, sl = slotS ((rootD ss ps r0 r1).2.1 + 1) t := ⟨_, rfl⟩
  have hss : sl.size ≤ 400 := by rw [hsl]; exact slotS_size _ _
  have hin : RS sl (some ((rootD ss ps r0 r1).2.1 + 1, t)) := ⟨k3, by rw [hsl, slotS_yes k3]⟩
  rw [← hsl] at k4 g0 g1 ⊢
  clear hsl
  obtain ⟨to, hto⟩ : ∃ to, to = nextTo (rootD ss ps r0 r1) := ⟨_, rfl⟩
  rw [← hto] at k4 g0 g1 ⊢
  rw [cut_one k4] at g0 g1 ⊢
  rw [if_pos rfl] at g0 g1 ⊢
  simp only at g0 g1 ⊢
  have ed : devOk ((barS ss ps).set to.toNat sl) [] = true := dev_set b1 hss
  refine ⟨ed, ?_⟩
  have el : ((barS ss ps).set to.toNat sl).length = ss.length := by rw [List.length_set]; exact b2
  have l0 := liesN (i := 0) ed (by omega)
  have l1 := liesN (i := 1) ed (by omega)
  rw [List.getElem_set] at l0 l1
  have a0 := bar_at k1 (i := 0) (by omega) (by omega)
  have a1 := bar_at k1 (i := 1) (by omega) (by omega)
  rw [root_two g0 g1 (by omega)]
  rw [a0, show ((0 : Nat) : Int) = 0 from rfl] at l0
  rw [a1, show ((1 : Nat) : Int) = 1 from rfl] at l1
  rw [l0] at g0
  rw [l1] at g1
  clear l0 l1 a0 a1 ed el k4
  rcases rootR_is r0 r1 with ⟨c, e0, e1⟩ | ⟨c, e0⟩ | ⟨c, e1⟩
  · have ht : to = 0 := by rw [hto]; unfold nextTo; rw [hR, if_neg (by omega)]
    subst ht
    rw [if_pos (by decide)] at g0
    rw [if_neg (by decide)] at g1
    rw [rs_fun g0 hin, rs_fun g1 h1, e1]
    rfl
  · have ht : to = 1 := by rw [hto]; unfold nextTo; rw [hR, if_pos c]
    subst ht
    rw [if_neg (by decide)] at g0
    rw [if_pos (by decide)] at g1
    rw [rs_fun g0 h0, rs_fun g1 hin, hR]
    generalize rootR r0 r1 = Q at e0
    rw [e0]
    show (if Q.2.1 + 1 ≤ Q.2.1 then ((0 : Int), Q.2.1, Q.2.2) else (1, Q.2.1 + 1, t)).2 = _
    rw [if_neg (by omega)]
  · have ht : to = 0 := by rw [hto]; unfold nextTo; rw [hR, if_neg (by omega)]
    subst ht
    rw [if_pos (by decide)] at g0
    rw [if_neg (by decide)] at g1
    rw [rs_fun g0 hin, rs_fun g1 h1, hR]
    generalize rootR r0 r1 = Q at e1
    rw [e1]
    show (if Q.2.1 ≤ Q.2.1 + 1 then ((0 : Int), Q.2.1 + 1, t) else (1, Q.2.1, Q.2.2)).2 = _
    rw [if_pos (by omega)]
/-- Behind a barrier the root is what it was. -/
theorem root_bar {ss : List ByteArray} {ps : List Pat} {r0 r1 q0 q1 : Option (Int × ByteArray)} (h0 : RS (liesL ss ps 0) r0) (h1 : RS (liesL ss ps 1) r1) (hd : devOk ss ps = true) (h2 : 2 ≤ ss.length) (g0 : RS (liesL (barS ss ps) [] 0) q0) (g1 : RS (liesL (barS ss ps) [] 1) q1) : rootD (barS ss ps) [] q0 q1 = rootD ss ps r0 r1 := by
  obtain ⟨b1, b2⟩ := bar_ok hd
  have l0 := liesN (i := 0) b1 (by omega)
  have l1 := liesN (i := 1) b1 (by omega)
  rw [bar_at hd (by omega)] at l0 l1
  rw [show ((0 : Nat) : Int) = 0 from rfl] at l0
  rw [show ((1 : Nat) : Int) = 1 from rfl] at l1
  rw [l0] at g0
  rw [l1] at g1
  rw [rs_fun g0 h0, rs_fun g1 h1, root_two h0 h1 h2]
  unfold rootD
  rw [if_pos (two_iff.2 ⟨b1, by omega⟩)]
theorem cut_kept {B : List ByteArray} {p : Pat} (k : Bool) (h : devOk B [p] = true) : cutL B [p] (keepOf [k]) = if k then cutL B [p] (fun _ => true) else B := by
  rw [cut_one h, cut_one h]
  cases k <;> rfl
end Go.Proofs.YtpidmmfjmbinkaaGreatDoor
