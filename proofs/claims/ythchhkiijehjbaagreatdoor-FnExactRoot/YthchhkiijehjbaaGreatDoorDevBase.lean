/- Devices in memory, and what their functions tell, in plain words. -/
import Derived.Test.YthchhkiijehjbaaGreatDoorPatBase
namespace Go.Proofs.YthchhkiijehjbaaGreatDoor
open Go.RowKit
/-- A device with the values of its two rows. -/
structure DvX where
  vs : Value
  vl : Value
  secs : List ByteArray
  late : List Pat
/-- A device that can be read. -/
structure RdDv (w : World) (X : DvX) : Prop where
  secs : RdS w X.vs X.secs
  nil : NilOk X.vs
  late : RdPt w X.vl X.late
theorem RdDv.below {w w' : World} {X : DvX} (h : RdDv w X) (hb : Below w.heap.size w w') : RdDv w' X := ⟨h.secs.below hb, h.nil, h.late.below hb⟩
theorem txt_at {w : World} {a : Option Addr} {n cap : Nat} {ss : List ByteArray} (h : RdS w (.slice a n cap) ss) (i : Nat) (hi : i < ss.length) : ∃ b off, a = some ⟨b, off, none⟩ ∧ w.cell? ⟨b, off + i, none⟩ = some (.string ss[i]) := by
  obtain ⟨a', cap', hv, _, _, h3⟩ := h
  simp only [Value.slice.injEq] at hv
  obtain ⟨rfl, _, _⟩ := hv
  rcases h3 with rfl | ⟨b, off, ha, hc⟩
  · simp at hi
  · exact ⟨b, off, ha, hc i hi⟩
/-- A device's rows, written out. -/
theorem RdDv.slices {w : World} {X : DvX} (h : RdDv w X) : ∃ (sa la : Option Addr) (cs cl : Nat), X.vs = .slice sa X.secs.length cs ∧ X.vl = .slice la X.late.length cl ∧ X.secs.length ≤ cs ∧ cs ≤ 9223372036854775807 ∧ X.late.length ≤ cl ∧ cl ≤ 9223372036854775807 := by
  obtain ⟨sa, cs, hs, h1, h2, -⟩ := h.secs
  obtain ⟨la, cl, hl, h3, h4, -⟩ := h.late
  unfold maxLen at h2 h4
  exact ⟨sa, la, cs, cl, hs, hl, h1, by omega, h3, by omega⟩
/-- The two cells of a device in a box. -/
def DvAt (w : World) (b : Nat) (X : DvX) : Prop := w.cell? ⟨b, 0, none⟩ = some X.vs ∧ w.cell? ⟨b, 1, none⟩ = some X.vl
theorem DvAt.lt {w : World} {b : Nat} {X : DvX} (h : DvAt w b X) : b < w.heap.size := World.block_lt_of_cell? w _ h.1
theorem DvAt.of_block {w w' : World} {b : Nat} {X : DvX} (h : DvAt w b X) (hb : w'.heap[b]? = w.heap[b]?) : DvAt w' b X :=
  ⟨(World.cell?_of_block (a := ⟨b, 0, none⟩) hb).trans h.1, (World.cell?_of_block (a := ⟨b, 1, none⟩) hb).trans h.2⟩
theorem DvAt.below {w w' : World} {b : Nat} {X : DvX} (h : DvAt w b X) (hb : Below w.heap.size w w') : DvAt w' b X := h.of_block (hb.block b h.lt)
theorem dvAt_new (w : World) (X : DvX) (t : TypeId) : DvAt (w.alloc (.cells #[X.vs, X.vl] t)) w.heap.size X := by
  constructor <;> simp [World.cell?_alloc_at]
/-- Right patches and devices. -/
def pOk (n : Nat) (p : Pat) : Bool := decide (0 ≤ p.pos) && decide (p.pos < (n : Int)) && decide (p.text.size ≤ 400)
def devOk (s : List ByteArray) (l : List Pat) : Bool := decide (1 ≤ s.length) && decide (s.length ≤ 16) && decide (l.length ≤ 30) && s.all (fun t => decide (t.size ≤ 400)) && l.all (pOk s.length)
theorem pOk_iff {n : Nat} {p : Pat} : pOk n p = true ↔ 0 ≤ p.pos ∧ p.pos < (n : Int) ∧ p.text.size ≤ 400 := by
  unfold pOk
  simp only [Bool.and_eq_true, decide_eq_true_eq, and_assoc]
theorem devOk_iff (s : List ByteArray) (l : List Pat) : devOk s l = true ↔ 1 ≤ s.length ∧ s.length ≤ 16 ∧ l.length ≤ 30 ∧ (∀ (i : Nat) (h : i < s.length), s[i].size ≤ 400) ∧ ∀ i, i < l.length → pOk s.length (nthP l i) = true := by
  unfold devOk
  simp only [Bool.and_eq_true, decide_eq_true_eq, List.all_eq_true, and_assoc]
  constructor
  · rintro ⟨h1, h2, h3, h4, h5⟩
    exact ⟨h1, h2, h3, fun i h => h4 _ (List.getElem_mem h), fun i h => by rw [nthP_eq h]; exact h5 _ (List.getElem_mem h)⟩
  · rintro ⟨h1, h2, h3, h4, h5⟩
    refine ⟨h1, h2, h3, fun t ht => ?_, fun p hp => ?_⟩
    · obtain ⟨i, hi, rfl⟩ := List.getElem_of_mem ht
      exact h4 i hi
    · obtain ⟨i, hi, rfl⟩ := List.getElem_of_mem hp
      rw [← nthP_eq hi]
      exact h5 i hi
theorem devOk_no {s : List ByteArray} {l : List Pat} (h : ¬ devOk s l = true) : false = devOk s l := by
  cases e : devOk s l with
  | true => exact absurd e h
  | false => rfl
/-- The sectors when the first k of late are in their sectors, of which kp says yes. -/
def cutTo (s : List ByteArray) (l : List Pat) (kp : Nat → Bool) : Nat → List ByteArray
  | 0 => s
  | k + 1 => if kp k then (cutTo s l kp k).set (nthP l k).pos.toNat (nthP l k).text else cutTo s l kp k
theorem cutTo_len (s : List ByteArray) (l : List Pat) (kp : Nat → Bool) : ∀ k, (cutTo s l kp k).length = s.length
  | 0 => rfl
  | k + 1 => by
    unfold cutTo
    split
    · rw [List.length_set]; exact cutTo_len s l kp k
    · exact cutTo_len s l kp k
theorem cutTo_same {s : List ByteArray} {l : List Pat} {kp kq : Nat → Bool} : ∀ k, (∀ j, j < k → kp j = kq j) → cutTo s l kp k = cutTo s l kq k
  | 0, _ => rfl
  | k + 1, h => by
    unfold cutTo
    rw [h k (Nat.lt_succ_self k), cutTo_same k (fun j hj => h j (Nat.lt_succ_of_lt hj))]
theorem cutTo_past {s : List ByteArray} {l : List Pat} {kp : Nat → Bool} {m : Nat} : ∀ d, (∀ j, m ≤ j → kp j = false) → cutTo s l kp (m + d) = cutTo s l kp m
  | 0, _ => rfl
  | d + 1, h => by
    rw [← Nat.add_assoc]
    show (if kp (m + d) then _ else _) = _
    rw [h (m + d) (Nat.le_add_right _ _)]
    exact cutTo_past d h
/-- What lies at a place when the first k of late are written. -/
def liesTo (s0 : ByteArray) (l : List Pat) (p : Int) : Nat → ByteArray
  | 0 => s0
  | k + 1 => if (nthP l k).pos = p then (nthP l k).text else liesTo s0 l p k
theorem lies_cut {s : List ByteArray} {l : List Pat} {p : Nat} (hp : p < s.length) : ∀ k, k ≤ l.length → (∀ i, i < l.length → pOk s.length (nthP l i) = true) → ∀ h, (cutTo s l (fun _ => true) k)[p]'h = liesTo s[p] l (p : Int) k
  | 0, _, _, _ => rfl
  | k + 1, hk, ho, h => by
    have hq := pOk_iff.1 (ho k (by omega))
    have ih := lies_cut hp k (by omega) ho (by rw [cutTo_len]; exact hp)
    unfold liesTo
    show ((cutTo s l (fun _ => true) k).set (nthP l k).pos.toNat (nthP l k).text)[p]'(by rw [List.length_set, cutTo_len]; exact hp) = _
    by_cases e : (nthP l k).pos = (p : Int)
    · have e2 : (nthP l k).pos.toNat = p := by omega
      simp [e]
    · have e2 : (nthP l k).pos.toNat ≠ p := by omega
      rw [if_neg e, List.getElem_set_ne e2, ih]
/-- What a cut leaves, by what is kept. -/
def cutL (s : List ByteArray) (l : List Pat) (kp : Nat → Bool) : List ByteArray := if devOk s l then cutTo s l kp l.length else []
def liesL (s : List ByteArray) (l : List Pat) (p : Int) : ByteArray := if devOk s l && decide (0 ≤ p) && decide (p < (s.length : Int)) then liesTo (s.getD p.toNat ⟨#[]⟩) l p l.length else ⟨#[]⟩
/-- What Lay tells. -/
def layO (s : List ByteArray) (l : List Pat) (p : Int) (t : ByteArray) : Bool := devOk s l && pOk s.length ⟨p, t⟩ && decide (l.length ≠ 30)
def layS (s : List ByteArray) (l : List Pat) : List ByteArray := if devOk s l then s else []
def layL (s : List ByteArray) (l : List Pat) (p : Int) (t : ByteArray) : List Pat := if devOk s l then (if layO s l p t then l ++ [⟨p, t⟩] else l) else []
end Go.Proofs.YthchhkiijehjbaaGreatDoor
