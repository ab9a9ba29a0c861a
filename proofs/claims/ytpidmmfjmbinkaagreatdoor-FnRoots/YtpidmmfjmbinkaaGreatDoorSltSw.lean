/- What is laid next, and what the model's Switch and Halfway tell. -/
import Derived.Test.YtpidmmfjmbinkaaGreatDoorSltRt
import Derived.Test.YtpidmmfjmbinkaaGreatDoorDevLay2
import Derived.Test.YtpidmmfjmbinkaaGreatDoorDevCut
namespace Go.Proofs.YtpidmmfjmbinkaaGreatDoor
open Go.RowKit
def nextB (ss : List ByteArray) (ps : List Pat) (R : Int × Int × ByteArray) (t : ByteArray) : Bool := twoOk ss ps && slotOk (R.2.1 + 1) t
def nextTo (R : Int × Int × ByteArray) : Int := if R.1 = 0 then 1 else 0
def barS (ss : List ByteArray) (ps : List Pat) : List ByteArray := cutL ss ps (fun _ => true)
theorem rootR_in (r0 r1 : Option (Int × ByteArray)) : (rootR r0 r1).1 = -1 ∨ (rootR r0 r1).1 = 0 ∨ (rootR r0 r1).1 = 1 := by
  cases r0 with
  | none =>
    cases r1 with
    | none => exact .inl rfl
    | some q => exact .inr (.inr rfl)
  | some p =>
    obtain ⟨a, s⟩ := p
    cases r1 with
    | none => exact .inr (.inl rfl)
    | some q =>
      obtain ⟨b, t⟩ := q
      show (if b ≤ a then ((0 : Int), a, s) else (1, b, t)).1 = -1 ∨ (if b ≤ a then ((0 : Int), a, s) else (1, b, t)).1 = 0 ∨ (if b ≤ a then ((0 : Int), a, s) else (1, b, t)).1 = 1
      split
      · exact .inr (.inl rfl)
      · exact .inr (.inr rfl)
theorem rootD_in (ss : List ByteArray) (ps : List Pat) (r0 r1 : Option (Int × ByteArray)) : (rootD ss ps r0 r1).1 = -1 ∨ (rootD ss ps r0 r1).1 = 0 ∨ (rootD ss ps r0 r1).1 = 1 := by
  unfold rootD
  split
  · exact rootR_in r0 r1
  · exact .inl rfl
theorem rootD_gen {ss : List ByteArray} {ps : List Pat} {r0 r1 : Option (Int × ByteArray)} (h0 : RS (liesL ss ps 0) r0) (h1 : RS (liesL ss ps 1) r1) : 0 ≤ (rootD ss ps r0 r1).2.1 ∧ (rootD ss ps r0 r1).2.1 ≤ 1000000 := by
  have key : 0 ≤ (rootR r0 r1).2.1 ∧ (rootR r0 r1).2.1 ≤ 1000000 := by
    cases r0 with
    | none =>
      cases r1 with
      | none => exact ⟨Int.le_refl _, by decide⟩
      | some q =>
        obtain ⟨b, t⟩ := q
        have := rs_pos h1
        exact ⟨by show 0 ≤ b; omega, by show b ≤ 1000000; omega⟩
    | some p =>
      obtain ⟨a, s⟩ := p
      have ha := rs_pos h0
      cases r1 with
      | none => exact ⟨by show 0 ≤ a; omega, by show a ≤ 1000000; omega⟩
      | some q =>
        obtain ⟨b, t⟩ := q
        have hb := rs_pos h1
        show 0 ≤ (if b ≤ a then ((0 : Int), a, s) else (1, b, t)).2.1 ∧ (if b ≤ a then ((0 : Int), a, s) else (1, b, t)).2.1 ≤ 1000000
        split
        · exact ⟨by show 0 ≤ a; omega, by show a ≤ 1000000; omega⟩
        · exact ⟨by show 0 ≤ b; omega, by show b ≤ 1000000; omega⟩
  unfold rootD
  split
  · exact key
  · exact ⟨Int.le_refl _, by decide⟩
theorem two_iff {ss : List ByteArray} {ps : List Pat} : twoOk ss ps = true ↔ devOk ss ps = true ∧ 2 ≤ ss.length := by unfold twoOk; simp
theorem bar_ok {ss : List ByteArray} {ps : List Pat} (h : devOk ss ps = true) : devOk (barS ss ps) [] = true ∧ (barS ss ps).length = ss.length := by
  obtain ⟨h1, h2, h3, h4, h5⟩ := (devOk_iff ss ps).1 h
  have hl : (barS ss ps).length = ss.length := by unfold barS; rw [cutL_yes h, cutTo_len]
  refine ⟨(devOk_iff _ _).2 ⟨by omega, by omega, by simp, fun i hi => ?_, fun i hi => by simp at hi⟩, hl⟩
  have hi2 : i < ss.length := by omega
  have e : (barS ss ps)[i] = liesTo ss[i] ps (i : Int) ps.length := by
    have := lies_cut (s := ss) (l := ps) (p := i) hi2 ps.length (Nat.le_refl _) h5 (by rw [cutTo_len]; exact hi2)
    rw [← this]
    congr 1
    unfold barS
    exact cutL_yes h
  rw [e]
  exact liesTo_size _ _ _ (h4 i hi2) _ (fun j hj => (pOk_iff.1 (h5 j hj)).2.2)
/-- The next slot can be laid just where there are two sectors. -/
theorem lay_bar {ss : List ByteArray} {ps : List Pat} {p : Int} {s : ByteArray} (hs : s.size ≤ 400) (hp : 0 ≤ p ∧ p ≤ 1) (hn : ¬ 2 ≤ ss.length → p = 1) : layO (barS ss ps) [] p s = twoOk ss ps ∧ (twoOk ss ps = true → layS (barS ss ps) [] = barS ss ps ∧ layL (barS ss ps) [] p s = [⟨p, s⟩]) := by
  cases hd : devOk ss ps with
  | false =>
    have e : barS ss ps = [] := by unfold barS; exact cutL_no hd
    have t : twoOk ss ps = false := by unfold twoOk; rw [hd]; rfl
    rw [t]
    refine ⟨?_, fun h => by cases h⟩
    rw [e]
    unfold layO
    rfl
  | true =>
    obtain ⟨k1, k2⟩ := bar_ok hd
    by_cases h2 : 2 ≤ ss.length
    · have t : twoOk ss ps = true := two_iff.2 ⟨hd, h2⟩
      have o : layO (barS ss ps) [] p s = true := by rw [layO_iff k1, pOk_iff]; exact ⟨⟨hp.1, by show p < ((barS ss ps).length : Int); omega, hs⟩, by simp⟩
      refine ⟨o.trans t.symm, fun _ => ?_⟩
      obtain ⟨q1, q2⟩ := layO_yes k1 o
      exact ⟨q1, q2⟩
    · have t : twoOk ss ps = false := by unfold twoOk; simp; omega
      rw [t]
      refine ⟨?_, fun h => by cases h⟩
      have hp1 := hn h2
      cases hl : layO (barS ss ps) [] p s with
      | false => rfl
      | true =>
        have := (pOk_iff.1 ((layO_iff k1).1 hl).1).2.1
        have hlt : p < ((barS ss ps).length : Int) := this
        omega
theorem slotS_empty {g : Int} {t : ByteArray} : (slotS g t).toList.isEmpty = !slotOk g t := by
  cases h : slotOk g t with
  | true =>
    have h' := slotOk_iff.1 h
    rw [slotS_yes h']
    exact toList_ne (slot_size h').1
  | false =>
    have h' : ¬ (1 ≤ g ∧ g ≤ 1000000 ∧ t.size ≤ 300) := fun e => by rw [slotOk_iff.2 e] at h; cases h
    rw [slotS_no h']
    exact toList_nil rfl
theorem slotS_size (g : Int) (t : ByteArray) : (slotS g t).size ≤ 400 := by
  by_cases h : 1 ≤ g ∧ g ≤ 1000000 ∧ t.size ≤ 300
  · rw [slotS_yes h]; exact (slot_size h).2
  · rw [slotS_no h]; decide
/-- What Switch tells. -/
def swS (ss : List ByteArray) (ps : List Pat) (R : Int × Int × ByteArray) (t : ByteArray) : List ByteArray := if nextB ss ps R t then cutL (barS ss ps) [⟨nextTo R, slotS (R.2.1 + 1) t⟩] (fun _ => true) else if devOk ss ps then ss else []
def swL (ss : List ByteArray) (ps : List Pat) (R : Int × Int × ByteArray) (t : ByteArray) : List Pat := if nextB ss ps R t then [] else if devOk ss ps then ps else []
/-- What Halfway tells. -/
def hwS (ss : List ByteArray) (ps : List Pat) (R : Int × Int × ByteArray) (t : ByteArray) (k : Bool) : List ByteArray := if nextB ss ps R t then cutL (barS ss ps) [⟨nextTo R, slotS (R.2.1 + 1) t⟩] (keepOf [k]) else []
/-- What the next one laid leaves. -/
def NextP (w : World) (ss : List ByteArray) (ps : List Pat) (R : Int × Int × ByteArray) (t : ByteArray) (e : Ending) (w' : World) : Prop :=
  ∃ Y : DvX, e = .returned (.tuple #[.agg #[Y.vs, Y.vl], .bool (nextB ss ps R t)]) ∧ OwnDv w' w.heap.size Y ∧ (nextB ss ps R t = true → Y.secs = barS ss ps ∧ Y.late = [⟨nextTo R, slotS (R.2.1 + 1) t⟩]) ∧ Below w.heap.size w w'
end Go.Proofs.YtpidmmfjmbinkaaGreatDoor
