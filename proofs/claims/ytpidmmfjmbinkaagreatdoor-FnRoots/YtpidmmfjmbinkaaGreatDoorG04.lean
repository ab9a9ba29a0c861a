/- The contracts of the law's copy of patches. The contracts of the law's measure and copy of a slice of texts. The contract of the law's own mark of a number, as a text. Plain facts on the number with which some bytes begin. The contract of the model's ReadNumber over any slice of bytes that can be read. The contract of the model's ReadText over any slice of bytes that can be read. The contracts of the laws' own helpers over slices of texts, over MarkText: alike, marked, held. The contracts of the laws' own helpers over patches and devices: measured, copied, alike. -/
import Derived.Test.YtpidmmfjmbinkaaGreatDoorG03
import Derived.Deep.RegionHeld3
import Derived.Test.YtpidmmfjmbinkaaGreatDoorG01
import Derived.Test.YtpidmmfjmbinkaaGreatDoorG00
import Derived.Laws.IdiomStrings
import Derived.Laws.BytesArg
import Derived.BigQuiet
import Derived.Deep.RegionWith
namespace Go.Proofs.YtpidmmfjmbinkaaGreatDoor
open Go.RowKit
theorem made_PtV (n : Nat) : (madeCells #[.int .i64 0, .string ⟨#[]⟩] (n * 2)).toList = PtV (List.replicate n zeroP) := by
  apply List.ext_getElem?
  intro j
  by_cases hj : j < n * 2
  · have h1 : j / 2 < n := by omega
    have h2 := PtV_get (List.replicate n zeroP) (j / 2) (by rw [List.length_replicate]; exact h1) (j % 2) (by omega)
    rw [show j / 2 * 2 + j % 2 = j by omega] at h2
    rw [h2, nthP_eq (by rw [List.length_replicate]; exact h1), List.getElem_replicate]
    have h3 : j % 2 = 0 ∨ j % 2 = 1 := by omega
    rcases h3 with h | h <;> simp [madeCells, hj, h, PtC, zeroP]
  · rw [List.getElem?_eq_none (by rw [Array.length_toList, size_madeCells]; omega), List.getElem?_eq_none (by rw [PtV_length, List.length_replicate]; omega)]
theorem PtV_setAt : ∀ (es : List Pat) (k : Nat), k < es.length → ∀ (j : Nat), j < 2 → ∀ (u : Value) (e' : Pat), (PtC (nthP es k)).set j u = PtC e' → (PtV es).set (k * 2 + j) u = PtV (es.set k e')
  | [], k, h, _, _, _, _, _ => by simp at h
  | a :: r, 0, _, j, hj, u, e', h => by
    rw [nthP_zero] at h
    rw [PtV_cons, Nat.zero_mul, Nat.zero_add, List.set_append_left _ _ (by simp [PtC]; exact hj), h, List.set_cons_zero, PtV_cons]
  | a :: r, k + 1, hk, j, hj, u, e', h => by
    rw [nthP_succ] at h
    rw [PtV_cons, List.set_append_right _ _ (by simp [PtC]; omega), List.set_cons_succ, PtV_cons, ← PtV_setAt r k (by simpa using hk) j hj u e' h]
    congr 2
    simp [PtC]; omega
theorem ownPt_store {w : World} {base g cap n : Nat} {es : List Pat} (ho : w.ownsRow base 70 2 (.slice (some ⟨g, 0, none⟩) n cap) n (PtV es)) {k j : Nat} (hk : k < es.length) (hj : j < 2) {u : Value} {e' : Pat} (h : (PtC (nthP es k)).set j u = PtC e') :
    (w.setCell ⟨g, k * 2 + j, none⟩ u).ownsRow base 70 2 (.slice (some ⟨g, 0, none⟩) n cap) n (PtV (es.set k e')) := by
  have := (ho.stored (k * 2 + j) u).1
  rwa [PtV_setAt es k hk j hj u e' h] at this
theorem nthP_set_same {es : List Pat} {k : Nat} (hk : k < es.length) (e : Pat) : nthP (es.set k e) k = e := by
  rw [nthP_eq (by rw [List.length_set]; exact hk), List.getElem_set_self]
/-- A whole entry stored. -/
theorem ownPt_store2 {w : World} {base g cap n : Nat} {es : List Pat} (ho : w.ownsRow base 70 2 (.slice (some ⟨g, 0, none⟩) n cap) n (PtV es)) {k : Nat} (hk : k < es.length) (x : Pat) :
    ((w.setCell ⟨g, k * 2, none⟩ (.int .i64 x.pos)).setCell ⟨g, k * 2 + 1, none⟩ (.string x.text)).ownsRow base 70 2 (.slice (some ⟨g, 0, none⟩) n cap) n (PtV (es.set k x)) := by
  have h0 := ownPt_store ho hk (j := 0) (by omega) (u := .int .i64 x.pos) (e' := { nthP es k with pos := x.pos }) rfl
  have h1 := ownPt_store h0 (k := k) (j := 1) (by rw [List.length_set]; exact hk) (by omega) (u := .string x.text) (e' := x) (by rw [nthP_set_same hk]; rfl)
  rw [List.set_set] at h1
  exact h1
theorem cpPt_step (bs : List Pat) (z : Pat) (k : Nat) (h : k < bs.length) : (bs.take k ++ List.replicate (bs.length - k) z).set k (nthP bs k) = bs.take (k + 1) ++ List.replicate (bs.length - (k + 1)) z := by
  have hl : (bs.take k).length = k := by rw [List.length_take]; omega
  rw [List.set_append_right _ _ (by omega), hl, Nat.sub_self]
  obtain ⟨m, hm⟩ : ∃ m, bs.length - k = m + 1 := ⟨bs.length - k - 1, by omega⟩
  have hm2 : bs.length - (k + 1) = m := by omega
  rw [hm, hm2, List.replicate_succ, List.set_cons_zero, List.take_succ_eq_append_getElem h, List.append_assoc, List.singleton_append, nthP_eq h]
theorem cpPt_len (bs : List Pat) (z : Pat) (k : Nat) (h : k ≤ bs.length) : (bs.take k ++ List.replicate (bs.length - k) z).length = bs.length := by
  rw [List.length_append, List.length_take, List.length_replicate]; omega
end Go.Proofs.YtpidmmfjmbinkaaGreatDoor
namespace Go.Proofs.YtpidmmfjmbinkaaGreatDoor
open Go.RowKit
theorem made_SV (n : Nat) : (madeCells #[Value.string ⟨#[]⟩] n).toList = SV (List.replicate n ⟨#[]⟩) := by
  rw [toList_madeCells_one]
  simp [SV]
theorem cpS_step (bs : List ByteArray) (z : ByteArray) (k : Nat) (h : k < bs.length) : (bs.take k ++ List.replicate (bs.length - k) z).set k bs[k] = bs.take (k + 1) ++ List.replicate (bs.length - (k + 1)) z := by
  have hl : (bs.take k).length = k := by rw [List.length_take]; omega
  rw [List.set_append_right _ _ (by omega), hl, Nat.sub_self]
  obtain ⟨m, hm⟩ : ∃ m, bs.length - k = m + 1 := ⟨bs.length - k - 1, by omega⟩
  have hm2 : bs.length - (k + 1) = m := by omega
  rw [hm, hm2, List.replicate_succ, List.set_cons_zero, List.take_succ_eq_append_getElem h, List.append_assoc, List.singleton_append]
theorem cpS_len (bs : List ByteArray) (z : ByteArray) (k : Nat) (h : k ≤ bs.length) : (bs.take k ++ List.replicate (bs.length - k) z).length = bs.length := by
  rw [List.length_append, List.length_take, List.length_replicate]; omega

/-- What the measure leaves: a number below 0, or the list and each of its texts are small. -/
def SzPost (w : World) (ss : List ByteArray) (e : Ending) (w' : World) : Prop :=
  w' = w ∧ ∃ x : Int, e = .returned (.int .i64 x) ∧ (x < 0 ∨ 0 ≤ x ∧ ss.length ≤ 1048576 ∧ ∀ s ∈ ss, s.size ≤ 1048576)
end Go.Proofs.YtpidmmfjmbinkaaGreatDoor
namespace Go.Proofs.YtpidmmfjmbinkaaGreatDoor
open Go.RowKit
/-- The digits of k ahead of acc. -/
def digs (k : Nat) (acc : List UInt8) : List UInt8 := if h : k = 0 then acc else digs (k / 10) (UInt8.ofNat (48 + k % 10) :: acc)
theorem digs_zero (acc : List UInt8) : digs 0 acc = acc := by rw [digs, dif_pos rfl]
theorem digs_step (k : Nat) (h : 0 < k) (acc : List UInt8) : digs k acc = digs (k / 10) (UInt8.ofNat (48 + k % 10) :: acc) := by rw [digs, dif_neg (by omega)]
/-- The law's mark number k. -/
def mk (k : Nat) : ByteArray := ⟨((109 : UInt8) :: digs k []).toArray⟩
end Go.Proofs.YtpidmmfjmbinkaaGreatDoor
namespace Go.Proofs.YtpidmmfjmbinkaaGreatDoor
open Go.RowKit
/-- The number that the bytes go on with behind i of them that make n, the next one weighing p; and how many bytes it takes. -/
def rdF : Nat → Nat → Nat → Nat → List UInt8 → Nat × Nat
  | 0, _, _, _, _ => (0, 0)
  | _ + 1, _, _, _, [] => (0, 0)
  | f + 1, i, n, p, b :: r => if b.toNat < 128 then (if 1099511627776 < n + b.toNat % 128 * p ∨ 0 < i ∧ b.toNat = 0 then (0, 0) else (n + b.toNat % 128 * p, i + 1)) else rdF f (i + 1) (n + b.toNat % 128 * p) (p * 128) r
/-- The number with which the bytes begin, and how many bytes it takes; 0 and 0 where there is none. -/
def rdNum (bs : List UInt8) : Nat × Nat := rdF 6 0 0 1 bs
theorem rdF_end (f i n p : Nat) (bs : List UInt8) (k : Nat) (h : bs.length ≤ k) : rdF f i n p (bs.drop k) = (0, 0) := by
  rw [List.drop_eq_nil_of_le h]; cases f <;> rfl
theorem rdF_more (f i n p k b : Nat) (bs : List UInt8) (h : k < bs.length) (hb : b = bs[k].toNat) (h1 : 128 ≤ b) : rdF (f + 1) i n p (bs.drop k) = rdF f (i + 1) (n + b % 128 * p) (p * 128) (bs.drop (k + 1)) := by
  subst hb
  rw [List.drop_eq_getElem_cons h, rdF, if_neg (by omega)]
theorem rdF_no (f i n p k b : Nat) (bs : List UInt8) (h : k < bs.length) (hb : b = bs[k].toNat) (h1 : b < 128) (h2 : 1099511627776 < n + b % 128 * p ∨ 0 < i ∧ b = 0) : rdF (f + 1) i n p (bs.drop k) = (0, 0) := by
  subst hb
  rw [List.drop_eq_getElem_cons h, rdF, if_pos h1, if_pos h2]
theorem rdF_yes (f i n p k b : Nat) (bs : List UInt8) (h : k < bs.length) (hb : b = bs[k].toNat) (h1 : b < 128) (h2 : ¬ (1099511627776 < n + b % 128 * p ∨ 0 < i ∧ b = 0)) : rdF (f + 1) i n p (bs.drop k) = (n + b % 128 * p, i + 1) := by
  subst hb
  rw [List.drop_eq_getElem_cons h, rdF, if_pos h1, if_neg h2]
theorem rdF_len (f : Nat) : ∀ (i n p : Nat) (bs : List UInt8), (rdF f i n p bs).2 ≤ i + bs.length ∧ (rdF f i n p bs).1 ≤ 1099511627776 ∧ (rdF f i n p bs).2 ≤ i + f := by
  induction f with
  | zero => intro i n p bs; simp [rdF]
  | succ f ih =>
    intro i n p bs
    cases bs with
    | nil => simp [rdF]
    | cons b r =>
      rw [rdF]
      split
      · split
        · simp
        · simp only [List.length_cons]; omega
      · have := ih (i + 1) (n + b.toNat % 128 * p) (p * 128) r
        simp only [List.length_cons]; omega
theorem rdNum_len (bs : List UInt8) : (rdNum bs).2 ≤ bs.length ∧ (rdNum bs).1 ≤ 1099511627776 ∧ (rdNum bs).2 ≤ 6 := by have := rdF_len 6 0 0 1 bs; unfold rdNum; omega
theorem rdF_zero (f : Nat) : ∀ (i n p : Nat) (bs : List UInt8), (rdF f i n p bs).2 = 0 → (rdF f i n p bs).1 = 0 := by
  induction f with
  | zero => intro i n p bs _; simp [rdF]
  | succ f ih =>
    intro i n p bs
    cases bs with
    | nil => simp [rdF]
    | cons b r =>
      rw [rdF]
      split
      · split
        · simp
        · simp
      · exact ih (i + 1) (n + b.toNat % 128 * p) (p * 128) r
theorem rdNum_zero (bs : List UInt8) (h : (rdNum bs).2 = 0) : (rdNum bs).1 = 0 := rdF_zero 6 0 0 1 bs h
/-- The weights and sums that a round meets. -/
theorem mul_le (b p : Nat) : b % 128 * p ≤ 127 * p := Nat.mul_le_mul_right p (by omega)
end Go.Proofs.YtpidmmfjmbinkaaGreatDoor
namespace Go.Proofs.YtpidmmfjmbinkaaGreatDoor
open Go.RowKit
theorem ret2_int {k l : IntKind} {a b c d : Int} (h : a = c) (h2 : b = d) : Ending.returned (.tuple #[.int k a, .int l b]) = .returned (.tuple #[.int k c, .int l d]) := by rw [h, h2]
end Go.Proofs.YtpidmmfjmbinkaaGreatDoor
namespace Go.Proofs.YtpidmmfjmbinkaaGreatDoor
open Go.RowKit
/-- The text with which the bytes begin, and how many bytes it takes with its number; none and 0 where there is none. -/
def rdText (bs : List UInt8) : List UInt8 × Nat :=
  if (rdNum bs).2 = 0 ∨ 3000 < (rdNum bs).1 ∨ bs.length < (rdNum bs).2 + (rdNum bs).1 then ([], 0) else ((bs.drop (rdNum bs).2).take (rdNum bs).1, (rdNum bs).2 + (rdNum bs).1)
theorem cut_len (bs : List UInt8) (k n : Nat) (h : k + n ≤ bs.length) : ((bs.drop k).take n).length = n := by rw [List.length_take, List.length_drop]; omega
theorem conv_cut (w : World) (b off k n c : Nat) (bs : List UInt8) (h : k + n ≤ bs.length) (hc : ∀ i (h : i < bs.length), w.cell? ⟨b, off + i, none⟩ = some (.int .u8 (bs[i].toNat : Int))) :
    (convert 22 9 (.slice (some ⟨b, off + k, none⟩) n c)).run Tryz.prog w = .ok (.string ⟨((bs.drop k).take n).toArray⟩) w :=
  conv_at w b (off + k) n c _ (cut_len bs k n h) fun j hj => by
    rw [cut_len bs k n h] at hj
    have := hc (k + j) (by omega)
    rw [← Nat.add_assoc] at this
    rw [this]
    simp
theorem conv_none (w : World) (b off n c : Nat) (h : n = 0) (l : List UInt8) (hl : l = []) : (convert 22 9 (.slice (some ⟨b, off, none⟩) n c)).run Tryz.prog w = .ok (.string ⟨l.toArray⟩) w := by
  subst h
  subst hl
  exact conv_at w b off 0 c [] rfl fun j hj => by simp at hj
end Go.Proofs.YtpidmmfjmbinkaaGreatDoor
namespace Go.Proofs.YtpidmmfjmbinkaaGreatDoor
open Go.RowKit
def smarks (k n : Nat) : List ByteArray := (List.range n).map fun i => mk (k + i)
theorem smarks_length (k n : Nat) : (smarks k n).length = n := by simp [smarks]
theorem smarks_succ (k n : Nat) : smarks k (n + 1) = smarks k n ++ [mk (k + n)] := by simp [smarks, List.range_succ]
theorem smarks_get (k n i : Nat) (h : i < (smarks k n).length) : (smarks k n)[i] = mk (k + i) := by simp [smarks]
theorem smark_step (k i : Nat) (bs : List ByteArray) (h : i < bs.length) : (smarks k i ++ bs.drop i).set i (mk (k + i)) = smarks k (i + 1) ++ bs.drop (i + 1) := by
  rw [smarks_succ, List.set_append_right _ _ (by rw [smarks_length]; omega), smarks_length, Nat.sub_self, List.drop_eq_getElem_cons h, List.set_cons_zero]
  simp
/-- What the marking leaves: nothing below the row's base has turned but for new blocks and the row itself. -/
theorem smark_frame {w wr w1 : World} {g : Nat} {u : Value} {j : Nat} (hg : w.grownBy wr (some g)) (hb : Below wr.heap.size wr w1) : w.grownBy (w1.setCell ⟨g, j, none⟩ u) (some g) :=
  ⟨hb.os.trans hg.os, hb.tape.trans hg.tape, hb.output.trans hg.output, by have := hg.size; have := hb.size; simp; omega, fun k hk hr => by
    rw [heap_setCell_other w1 ⟨g, j, none⟩ k u (fun e => hr (by simp [e])), hb.block k (by have := hg.size; omega)]
    exact hg.block k hk hr⟩
theorem grownBy_one (a : World) (row : Option Nat) : a.grownBy a row := ⟨rfl, rfl, rfl, Nat.le_refl _, fun _ _ _ => rfl⟩

end Go.Proofs.YtpidmmfjmbinkaaGreatDoor
-- UNF Gen
namespace Go.Proofs.YtpidmmfjmbinkaaGreatDoor
open Go.RowKit
/-- What the measure of a row of patches leaves. -/
def SzPs (w : World) (es : List Pat) (l : Int) (e : Ending) (w' : World) : Prop :=
  Below w.heap.size w w' ∧ ∃ z : Int, e = .returned (.int .i64 z) ∧ (z = -1 ∨ 0 ≤ z ∧ z + es.length ≤ l)
/-- What a device that comes in can be; what the measure leaves. -/
structure HeldDv (X : DvX) : Prop where
  secs : ∀ s ∈ X.secs, s.size ≤ maxLen
  late : ∀ p ∈ X.late, p.text.size ≤ maxLen
def SmallDv (X : DvX) : Prop := X.secs.length + X.late.length ≤ 1048576
def SzDv (w : World) (X : DvX) (e : Ending) (w' : World) : Prop := Below w.heap.size w w' ∧ ∃ z : Int, e = .returned (.int .i64 z) ∧ (z = -1 ∨ 0 ≤ z ∧ SmallDv X)
/-- A device in rows of the call's own. -/
structure OwnDv (w : World) (B : Nat) (X : DvX) : Prop where
  secs : OwnS w B X.vs X.secs
  late : OwnPt w B X.vl X.late
theorem OwnDv.below {w w' : World} {B : Nat} {X : DvX} (h : OwnDv w B X) (hb : Below w.heap.size w w') : OwnDv w' B X := ⟨h.secs.below hb, h.late.below hb⟩
theorem OwnDv.rd {w : World} {B : Nat} {X : DvX} (h : OwnDv w B X) : RdDv w X := ⟨h.secs.rd, own_nil h.secs, h.late.rd⟩
theorem OwnDv.mono {w : World} {B B' : Nat} {X : DvX} (h : OwnDv w B X) (hb : B' ≤ B) : OwnDv w B' X := ⟨h.secs.mono hb, h.late.mono hb⟩
/-- The blocks of a device's rows. -/
def dvB (X : DvX) : List Nat := oneB X.vs ++ oneB X.vl
theorem OwnDv.bound {w : World} {B : Nat} {X : DvX} (h : OwnDv w B X) {k : Nat} (hk : k ∈ dvB X) : B ≤ k ∧ k < w.heap.size := by
  rcases List.mem_append.1 hk with hk | hk
  · exact World.ownsRow.lt h.secs k (mem_oneB.1 hk)
  · exact World.ownsRow.lt h.late k (mem_oneB.1 hk)
theorem OwnDv.touch {bs : List Nat} {w w' : World} {B : Nat} {X : DvX} (h : OwnDv w B X) (ht : Touch bs w w') (hn : ∀ k ∈ dvB X, k ∉ bs) : OwnDv w' B X :=
  ⟨ht.row h.secs (fun k hk => hn k (List.mem_append_left _ (mem_oneB.2 hk))), ht.row h.late (fun k hk => hn k (List.mem_append_right _ (mem_oneB.2 hk)))⟩
theorem Touch.dv {bs : List Nat} {w w' : World} {b : Nat} {X : DvX} (h : Touch bs w w') (ht : DvAt w b X) (hn : b ∉ bs) : DvAt w' b X := ht.of_block (h.block b ht.lt hn)
/-- A device of the call's own, with these sectors and patches. -/
def ToDv (w : World) (ss : List ByteArray) (ps : List Pat) (e : Ending) (w' : World) : Prop := ∃ Y : DvX, e = .returned (.agg #[Y.vs, Y.vl]) ∧ Y.secs = ss ∧ Y.late = ps ∧ OwnDv w' w.heap.size Y ∧ Below w.heap.size w w'
theorem own_slice {w : World} {B t z n : Nat} {v : Value} {xs : List Value} (h : w.ownsRow B t z v n xs) : ∃ a c, v = .slice a n c := by
  rcases h.2 with ⟨hv, h0⟩ | ⟨g, cap, cur, hv, _⟩
  · exact ⟨none, 0, by rw [hv, h0]⟩
  · exact ⟨_, _, hv⟩
/-- A device's box. -/
def BoxDv (w : World) (b : Nat) (u0 u1 : Value) : Prop := w.heap[b]? = some (.cells #[u0, u1] 27 (0, 0))
theorem BoxDv.lt {w : World} {b : Nat} {u0 u1 : Value} (h : BoxDv w b u0 u1) : b < w.heap.size := (Array.getElem?_eq_some_iff.1 h).1
theorem BoxDv.of_block {w w' : World} {b : Nat} {u0 u1 : Value} (h : BoxDv w b u0 u1) (hb : w'.heap[b]? = w.heap[b]?) : BoxDv w' b u0 u1 := hb.trans h
theorem BoxDv.below {w w' : World} {b : Nat} {u0 u1 : Value} (h : BoxDv w b u0 u1) (hb : Below w.heap.size w w') : BoxDv w' b u0 u1 := h.of_block (hb.block b h.lt)
theorem BoxDv.facts {w : World} {b : Nat} {u0 u1 : Value} (h : BoxDv w b u0 u1) : w.cell? ⟨b, 0, none⟩ = some u0 ∧ w.cell? ⟨b, 1, none⟩ = some u1 ∧ w.frozen? ⟨b, 0, none⟩ = false ∧ w.frozen? ⟨b, 1, none⟩ = false := by
  unfold BoxDv at h
  refine ⟨?_, ?_, ?_, ?_⟩ <;> simp [World.cell?, World.frozen?, h]
theorem boxDv_new (w : World) (u0 u1 : Value) : BoxDv (w.alloc (.cells #[u0, u1] 27)) w.heap.size u0 u1 := heap_alloc_new w _
theorem boxDv_row {w : World} {B b t s n : Nat} {u0 u1 v : Value} {xs : List Value} (h : BoxDv w b u0 u1) (ho : w.ownsRow B t s v n xs) (ht : t ≠ 27) : ∀ k, v.ownBlock = some k → b = k → False := by
  intro k hk e
  subst e
  rcases ho.2 with ⟨rfl, _⟩ | ⟨g, cap, cur, rfl, _, hg, _⟩
  · simp [Value.ownBlock] at hk
  · obtain rfl : g = b := by simpa [Value.ownBlock] using hk
    unfold BoxDv at h
    rw [h] at hg
    injection hg with hg
    injection hg with _ h2
    exact ht h2.symm
theorem BoxDv.set0 {w : World} {b : Nat} {u0 u1 u : Value} (h : BoxDv w b u0 u1) : BoxDv (w.setCell ⟨b, 0, none⟩ u) b u u1 := by
  unfold BoxDv at h ⊢
  exact heap_setCell_same w b 0 _ _ u h
theorem BoxDv.set1 {w : World} {b : Nat} {u0 u1 u : Value} (h : BoxDv w b u0 u1) : BoxDv (w.setCell ⟨b, 1, none⟩ u) b u0 u := by
  unfold BoxDv at h ⊢
  exact heap_setCell_same w b 1 _ _ u h
theorem BoxDv.at {w : World} {b : Nat} {X : DvX} (h : BoxDv w b X.vs X.vl) : DvAt w b X := ⟨h.facts.1, h.facts.2.1⟩
theorem block_set {w : World} {b c j : Nat} {u : Value} (h : c ≠ b) : (w.setCell ⟨c, j, none⟩ u).heap[b]? = w.heap[b]? := heap_setCell_other w ⟨c, j, none⟩ b u (fun e => h e.symm)
theorem below_drewN' {W : World} (n : Nat) : Below W.heap.size W (W.drewN n) := below_drewN (Below.refl _ _) n
end Go.Proofs.YtpidmmfjmbinkaaGreatDoor
