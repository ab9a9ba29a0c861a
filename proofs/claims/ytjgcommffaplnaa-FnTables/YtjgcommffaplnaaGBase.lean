/- Plain facts on bytes, on rows of bytes that a call owns or reads, and on the numbers that are written seven bits to a byte; no function of the program is walked here. Plain facts on rows of texts that a call owns or reads. Plain facts on lists of entries: their order, where one is put, which one is seen, which ones are shown; no function of the program is walked here. Plain facts on rows of entries (four cells each) that a call owns or reads. -/
import Derived.Test.YtjgcommffaplnaaChecked
import Derived.WalkKit
import Derived.WalkSmall
import Derived.OpenShut
import Derived.Deep.DeepMust
import Derived.Deep.DeepFit
import Derived.Deep.RegionLaw
namespace Go.Proofs.Ytjgcommffaplnaa
open Go.RowKit

def BV (bs : List UInt8) : List Value := bs.map fun b : UInt8 => Value.int .u8 (b.toNat : Int)
theorem BV_length (bs : List UInt8) : (BV bs).length = bs.length := by simp [BV]
theorem BV_append (a b : List UInt8) : BV (a ++ b) = BV a ++ BV b := by simp [BV]
theorem BV_get (bs : List UInt8) (i : Nat) (h : i < bs.length) : (BV bs)[i]? = some (.int .u8 (bs[i].toNat : Int)) := by simp [BV, h]

/-- The slice v is the call's own (its block is at least number base) and holds the bytes bs. -/
def Own (w : World) (base : Nat) (v : Value) (bs : List UInt8) : Prop := w.ownsRow base 5 1 v bs.length (BV bs)
/-- The slice v can be read and holds the bytes bs. -/
def Rd (w : World) (v : Value) (bs : List UInt8) : Prop :=
  ∃ a cap, v = .slice a bs.length cap ∧ bs.length ≤ cap ∧ cap ≤ maxLen ∧
    (bs = [] ∨ ∃ b off, a = some ⟨b, off, none⟩ ∧ ∀ i (h : i < bs.length), w.cell? ⟨b, off + i, none⟩ = some (.int .u8 (bs[i].toNat : Int)))

theorem Own.rd {w : World} {base : Nat} {v : Value} {bs : List UInt8} (h : Own w base v bs) : Rd w v bs := by
  have h' := h
  rcases h.2 with ⟨rfl, h0⟩ | ⟨g, cap, cur, rfl, hb, hg, hn, hc, hs, ht⟩
  · have : bs = [] := List.length_eq_zero_iff.1 h0
    subst this
    exact ⟨none, 0, rfl, Nat.le_refl _, Nat.zero_le _, .inl rfl⟩
  · refine ⟨some ⟨g, 0, none⟩, cap, rfl, hn, hc, .inr ⟨g, 0, rfl, fun i hi => ?_⟩⟩
    have := h'.cellAt i (by omega)
    rw [BV_get bs i hi] at this
    simpa using this
theorem own_below {w w' : World} {base : Nat} {e : TypeId} {s : Nat} {v : Value} {n : Nat} {xs : List Value} (h : w.ownsRow base e s v n xs) (hb : Below w.heap.size w w') : w'.ownsRow base e s v n xs := by
  refine ⟨h.1, ?_⟩
  rcases h.2 with h2 | ⟨g, cap, cur, hv, hg, hh, r⟩
  · exact .inl h2
  · exact .inr ⟨g, cap, cur, hv, hg, by rw [hb.block g (Array.getElem?_eq_some_iff.1 hh).1]; exact hh, r⟩
theorem Own.below {w w' : World} {base : Nat} {v : Value} {bs : List UInt8} (h : Own w base v bs) (hb : Below w.heap.size w w') : Own w' base v bs := own_below h hb
theorem Own.drewN {w : World} {base : Nat} {v : Value} {bs : List UInt8} (h : Own w base v bs) (q : Nat) : Own (w.drewN q) base v bs := h
theorem Own.mono {w : World} {base base' : Nat} {v : Value} {bs : List UInt8} (h : Own w base v bs) (hb : base' ≤ base) : Own w base' v bs := by
  refine ⟨h.1, ?_⟩
  rcases h.2 with h2 | ⟨g, cap, cur, hv, hg, r⟩
  · exact .inl h2
  · exact .inr ⟨g, cap, cur, hv, Nat.le_trans hb hg, r⟩
theorem Rd.below {w w' : World} {v : Value} {bs : List UInt8} (h : Rd w v bs) (hb : Below w.heap.size w w') : Rd w' v bs := by
  obtain ⟨a, cap, hv, h1, h2, h3⟩ := h
  refine ⟨a, cap, hv, h1, h2, ?_⟩
  rcases h3 with h3 | ⟨b, off, ha, hc⟩
  · exact .inl h3
  · exact .inr ⟨b, off, ha, fun i hi => by rw [hb.cell (World.block_lt_of_cell? w _ (hc i hi))]; exact hc i hi⟩
theorem Rd.drewN {w : World} {v : Value} {bs : List UInt8} (h : Rd w v bs) (q : Nat) : Rd (w.drewN q) v bs := h
theorem Rd.shape {w : World} {v : Value} {bs : List UInt8} (h : Rd w v bs) : ∃ a cap, v = .slice a bs.length cap := ⟨h.choose, h.choose_spec.choose, h.choose_spec.choose_spec.1⟩

theorem rd_nil (w : World) : Rd w (.slice none 0 0) [] := ⟨none, 0, rfl, Nat.le_refl _, Nat.zero_le _, .inl rfl⟩
theorem byte_of {n : Int} (h : (Lit.int .u8 n).wf = true) : ((UInt8.ofNat n.toNat).toNat : Int) = n := by
  have h1 := bounds_u8 h
  rw [UInt8.toNat_ofNat']; omega
/-- A slice of bytes that came in: its first len numbers are bytes. -/
theorem rd_of {w : World} {x : Addr} {len cap : Nat} {zs : List Int} (hl : len ≤ cap) (hm : cap ≤ maxLen) (hz : zs.length = cap) (hcell : ∀ i, i < zs.length → w.cell? (x.add i) = some (.int .u8 (zs.getD i 0))) (hwz : ∀ n ∈ zs, (Lit.int .u8 n).wf = true) :
    ∃ bs, Rd w (.slice (some x) len cap) bs := by
  refine ⟨(zs.take len).map fun n => UInt8.ofNat n.toNat, some x, cap, ?_, ?_, hm, ?_⟩
  · congr 1; rw [List.length_map, List.length_take]; omega
  · rw [List.length_map, List.length_take]; omega
  · by_cases h0 : len = 0
    · left; subst h0; simp
    · right
      obtain ⟨b, off, spot⟩ := x
      have hc := hcell 0 (by omega)
      have hspot : spot = none := by simpa [Addr.add] using World.cell?_spot hc
      subst hspot
      refine ⟨b, off, rfl, fun i hi => ?_⟩
      have hi' : i < len := by rw [List.length_map, List.length_take] at hi; omega
      have h := hcell i (by omega)
      have hg : zs.getD i 0 = zs[i]'(by omega) := by simp [List.getD, List.getElem?_eq_getElem (show i < zs.length by omega)]
      rw [Addr.add_lit] at h
      rw [h, hg]
      simp only [List.getElem_map, List.getElem_take]
      rw [byte_of (hwz _ (List.getElem_mem (by omega)))]
/-- Behind an append of one byte. -/
theorem own_push {w1 : World} {B : Nat} {v' : Value} {ys : List UInt8} {x : Int} (b : UInt8) (hx : x = (b.toNat : Int)) (h : w1.ownsRow B 5 1 v' (ys.length + 1) (BV ys ++ [.int .u8 x])) : Own w1 B v' (ys ++ [b]) := by
  subst hx
  have e : BV (ys ++ [b]) = BV ys ++ [.int .u8 (b.toNat : Int)] := by simp [BV]
  unfold Own
  rw [e, List.length_append]
  exact h
theorem push_below {w wr w1 : World} {B : Nat} {v : Value} {o : Obj} {ys : List UInt8} (hown : Own wr B v ys) (hb : Below B w wr) (hB : B ≤ wr.heap.size) (hg : (wr.alloc o).grownBy w1 v.ownBlock) : Below B w w1 :=
  (hb.alloc hB o).grown hg (by simp; omega) (fun k hk => (World.ownsRow.lt hown k hk).1)
theorem one_new (w : World) (x : Value) (t : TypeId) : ∀ j u, [x][j]? = some u → (w.alloc (.cells #[x] t)).cell? ((⟨w.heap.size, 0, none⟩ : Addr).add j) = some u := by
  intro j u hj
  match j, hj with
  | 0, hj => simp at hj; subst hj; simp [Addr.add]

/-- A number written seven bits to a byte. -/
def enc (n : Nat) : List UInt8 := if h : n < 128 then [UInt8.ofNat n] else UInt8.ofNat (n % 128 + 128) :: enc (n / 128)
theorem enc_small (n : Nat) (h : n < 128) : enc n = [UInt8.ofNat n] := by rw [enc, dif_pos h]
theorem enc_big (n : Nat) (h : 128 ≤ n) : enc n = UInt8.ofNat (n % 128 + 128) :: enc (n / 128) := by rw [enc, dif_neg (by omega)]
theorem enc_len (k : Nat) : ∀ n, n < 128 ^ (k + 1) → (enc n).length ≤ k + 1 := by
  induction k with
  | zero => intro n h; rw [enc_small n (by simpa using h)]; simp
  | succ k ih =>
    intro n h
    by_cases hn : n < 128
    · rw [enc_small n hn]; simp
    · rw [enc_big n (by omega), List.length_cons]
      have := ih (n / 128) (by rw [Nat.pow_succ] at h; omega)
      omega
theorem enc_len9 (n : Nat) (h : n ≤ 9223372036854775807) : (enc n).length ≤ 9 := enc_len 8 n (by omega)
theorem toNat_low (n : Nat) (h : n < 128) : ((UInt8.ofNat n).toNat : Int) = (n : Int) := by
  rw [UInt8.toNat_ofNat']; omega
theorem toNat_high (n : Nat) : ((UInt8.ofNat (n % 128 + 128)).toNat : Int) = (n : Int) % 128 + 128 := by
  rw [UInt8.toNat_ofNat']; omega
/-- What Number writes: nothing out of range. -/
def num (n : Int) : List UInt8 := if 0 ≤ n ∧ n ≤ 1099511627776 then enc n.toNat else []
end Go.Proofs.Ytjgcommffaplnaa
namespace Go.Proofs.Ytjgcommffaplnaa
open Go.RowKit
theorem Try.info9 : (Try.prog.info? 9).map (fun i => (i.zero, i.size, i.bytes)) = some (some (.string ⟨#[]⟩), 1, 16) := by kernel_rfl
def SV (ss : List ByteArray) : List Value := ss.map Value.string
theorem SV_length (ss : List ByteArray) : (SV ss).length = ss.length := by simp [SV]
theorem SV_append (a b : List ByteArray) : SV (a ++ b) = SV a ++ SV b := by simp [SV]
theorem SV_get (ss : List ByteArray) (i : Nat) (h : i < ss.length) : (SV ss)[i]? = some (.string ss[i]) := by simp [SV, h]
theorem SV_set (ss : List ByteArray) (i : Nat) (s : ByteArray) : SV (ss.set i s) = (SV ss).set i (.string s) := by simp [SV, List.map_set]
/-- The slice v is the call's own (its block is at least number base) and holds the texts ss. -/
def OwnS (w : World) (base : Nat) (v : Value) (ss : List ByteArray) : Prop := w.ownsRow base 9 1 v ss.length (SV ss)
/-- The slice v can be read and holds the texts ss. -/
def RdS (w : World) (v : Value) (ss : List ByteArray) : Prop :=
  ∃ a cap, v = .slice a ss.length cap ∧ ss.length ≤ cap ∧ cap ≤ maxLen ∧
    (ss = [] ∨ ∃ b off, a = some ⟨b, off, none⟩ ∧ ∀ i (h : i < ss.length), w.cell? ⟨b, off + i, none⟩ = some (.string ss[i]))
theorem OwnS.rd {w : World} {base : Nat} {v : Value} {ss : List ByteArray} (h : OwnS w base v ss) : RdS w v ss := by
  have h' := h
  rcases h.2 with ⟨rfl, h0⟩ | ⟨g, cap, cur, rfl, hb, hg, hn, hc, hs, ht⟩
  · have : ss = [] := List.length_eq_zero_iff.1 h0
    subst this
    exact ⟨none, 0, rfl, Nat.le_refl _, Nat.zero_le _, .inl rfl⟩
  · refine ⟨some ⟨g, 0, none⟩, cap, rfl, hn, hc, .inr ⟨g, 0, rfl, fun i hi => ?_⟩⟩
    have := h'.cellAt i (by omega)
    rw [SV_get ss i hi] at this
    simpa using this
theorem OwnS.below {w w' : World} {base : Nat} {v : Value} {ss : List ByteArray} (h : OwnS w base v ss) (hb : Below w.heap.size w w') : OwnS w' base v ss := own_below h hb
theorem OwnS.drewN {w : World} {base : Nat} {v : Value} {ss : List ByteArray} (h : OwnS w base v ss) (q : Nat) : OwnS (w.drewN q) base v ss := h
theorem OwnS.mono {w : World} {base base' : Nat} {v : Value} {ss : List ByteArray} (h : OwnS w base v ss) (hb : base' ≤ base) : OwnS w base' v ss := by
  refine ⟨h.1, ?_⟩
  rcases h.2 with h2 | ⟨g, cap, cur, hv, hg, r⟩
  · exact .inl h2
  · exact .inr ⟨g, cap, cur, hv, Nat.le_trans hb hg, r⟩
theorem RdS.below {w w' : World} {v : Value} {ss : List ByteArray} (h : RdS w v ss) (hb : Below w.heap.size w w') : RdS w' v ss := by
  obtain ⟨a, cap, hv, h1, h2, h3⟩ := h
  refine ⟨a, cap, hv, h1, h2, ?_⟩
  rcases h3 with h3 | ⟨b, off, ha, hc⟩
  · exact .inl h3
  · exact .inr ⟨b, off, ha, fun i hi => by rw [hb.cell (World.block_lt_of_cell? w _ (hc i hi))]; exact hc i hi⟩
theorem RdS.drewN {w : World} {v : Value} {ss : List ByteArray} (h : RdS w v ss) (q : Nat) : RdS (w.drewN q) v ss := h
theorem rdS_nil (w : World) : RdS w (.slice none 0 0) [] := ⟨none, 0, rfl, Nat.le_refl _, Nat.zero_le _, .inl rfl⟩
/-- A slice of texts that came in. -/
theorem rdS_of {w : World} {x : Addr} {len cap : Nat} {zs : List ByteArray} (hl : len ≤ cap) (hm : cap ≤ maxLen) (hz : zs.length = cap) (hcell : ∀ i, i < zs.length → w.cell? (x.add i) = some (.string (zs.getD i ByteArray.empty))) (hwz : ∀ s ∈ zs, s.size ≤ maxLen) :
    ∃ ss, RdS w (.slice (some x) len cap) ss ∧ ∀ s ∈ ss, s.size ≤ maxLen := by
  refine ⟨zs.take len, ⟨some x, cap, ?_, ?_, hm, ?_⟩, fun s hs => hwz s (List.mem_of_mem_take hs)⟩
  · congr 1; rw [List.length_take]; omega
  · rw [List.length_take]; omega
  · by_cases h0 : len = 0
    · left; subst h0; simp
    · right
      obtain ⟨b, off, spot⟩ := x
      have hc := hcell 0 (by omega)
      have hspot : spot = none := by simpa [Addr.add] using World.cell?_spot hc
      subst hspot
      refine ⟨b, off, rfl, fun i hi => ?_⟩
      have hi' : i < len := by rw [List.length_take] at hi; omega
      have h := hcell i (by omega)
      have hg : zs.getD i ByteArray.empty = zs[i]'(by omega) := by simp [List.getD, List.getElem?_eq_getElem (show i < zs.length by omega)]
      rw [Addr.add_lit] at h
      rw [h, hg]
      simp only [List.getElem_take]
theorem ownS_none (w : World) : OwnS (w.alloc (.cells #[] 9)) w.heap.size (.slice (some ⟨w.heap.size, 0, none⟩) 0 0) [] := World.ownsRow_lit w #[] 0 (Nat.le_refl _) (Nat.zero_le _) rfl
theorem ownS_push {w1 : World} {B : Nat} {v' : Value} {ys : List ByteArray} {x : ByteArray} (h : w1.ownsRow B 9 1 v' (ys.length + 1) (SV ys ++ [.string x])) : OwnS w1 B v' (ys ++ [x]) := by
  have e : SV (ys ++ [x]) = SV ys ++ [.string x] := by simp [SV]
  unfold OwnS
  rw [e, List.length_append]
  exact h
theorem pushS_below {w wr w1 : World} {B B' : Nat} {v : Value} {o : Obj} {ys : List ByteArray} (hown : OwnS wr B' v ys) (hBB : B ≤ B') (hb : Below B w wr) (hB : B ≤ wr.heap.size) (hg : (wr.alloc o).grownBy w1 v.ownBlock) : Below B w w1 :=
  (hb.alloc hB o).grown hg (by simp; omega) (fun k hk => Nat.le_trans hBB (World.ownsRow.lt hown k hk).1)
theorem ownS_lt {w : World} {B : Nat} {v : Value} {ss : List ByteArray} (h : OwnS w B v ss) : ∀ k, v.ownBlock = some k → k < w.heap.size := fun k hk => (World.ownsRow.lt h k hk).2
/-- Two rows that lie apart: the one of the elder call stays as the younger one is written. -/
theorem ownS_other {w w' : World} {B1 B2 : Nat} {v1 v2 : Value} {ss ss2 : List ByteArray} (h1 : OwnS w B1 v1 ss) (hlt : ∀ k, v1.ownBlock = some k → k < B2) (h2 : OwnS w B2 v2 ss2) (hg : w.grownBy w' v2.ownBlock) : OwnS w' B1 v1 ss := by
  refine World.ownsRow.kept h1 hg ?_
  cases h : v1.ownBlock with
  | none => exact .inl rfl
  | some k => exact .inr fun e => by have := (World.ownsRow.lt h2 k e.symm).1; have := hlt k h; omega
theorem belowS_marked {a w w' : World} {B B2 : Nat} {v2 : Value} {ss2 : List ByteArray} (hb : Below B a w) (h2 : OwnS w B2 v2 ss2) (hB : B ≤ B2) (hg : w.grownBy w' v2.ownBlock) (hs : B ≤ w.heap.size) : Below B a w' :=
  hb.grown hg hs (fun k hk => by have := (World.ownsRow.lt h2 k hk).1; omega)
/-- A row that lies apart from the one that is written stays. -/
theorem row_kept {w w' : World} {B : Nat} {e : TypeId} {s : Nat} {v : Value} {n : Nat} {xs : List Value} {row : Option Nat} (h : w.ownsRow B e s v n xs) (hg : w.grownBy w' row) (hd : ∀ k, v.ownBlock = some k → row ≠ some k) : w'.ownsRow B e s v n xs := by
  refine World.ownsRow.kept h hg ?_
  cases hu : v.ownBlock with
  | none => exact .inl rfl
  | some k => exact .inr fun e => hd k hu e.symm
end Go.Proofs.Ytjgcommffaplnaa
namespace Go.Proofs.Ytjgcommffaplnaa

structure Ent where
  key : ByteArray
  val : ByteArray
  seq : Int
  gone : Bool
deriving DecidableEq
instance : Inhabited Ent := ⟨⟨ByteArray.empty, ByteArray.empty, 0, false⟩⟩
/-- Entry number i of a list. -/
def nth (es : List Ent) (i : Nat) : Ent := es.getD i default
theorem nth_eq {es : List Ent} {i : Nat} (h : i < es.length) : nth es i = es[i] := by simp [nth, List.getD, List.getElem?_eq_getElem h]
theorem nth_zero (a : Ent) (r : List Ent) : nth (a :: r) 0 = a := rfl
theorem nth_succ (a : Ent) (r : List Ent) (i : Nat) : nth (a :: r) (i + 1) = nth r i := by simp [nth, List.getD]
/-- Are two texts alike? -/
def kEq (a b : ByteArray) : Bool := decide (a = b)

/-- Is the one text ahead of the other? -/
def kLt (a b : ByteArray) : Bool := Op.bytesLess a.toList b.toList
theorem bl_irrefl : ∀ x : List UInt8, Op.bytesLess x x = false
  | [] => rfl
  | a :: x => by simp [Op.bytesLess, bl_irrefl x, UInt8.lt_irrefl]
theorem bl_trans : ∀ x y z : List UInt8, Op.bytesLess x y = true → Op.bytesLess y z = true → Op.bytesLess x z = true
  | _, [], _, h, _ => by simp [Op.bytesLess] at h
  | _, _ :: _, [], _, h => by simp [Op.bytesLess] at h
  | [], _ :: _, _ :: _, _, _ => rfl
  | a :: x, b :: y, c :: z, h, k => by
    simp only [Op.bytesLess, Bool.or_eq_true, decide_eq_true_eq, Bool.and_eq_true, beq_iff_eq] at h k ⊢
    rcases h with h | ⟨h, h'⟩ <;> rcases k with k | ⟨k, k'⟩
    · exact .inl (UInt8.lt_trans h k)
    · subst k; exact .inl h
    · subst h; exact .inl k
    · subst h; subst k; exact .inr ⟨rfl, bl_trans x y z h' k'⟩
theorem bl_tri : ∀ x y : List UInt8, Op.bytesLess x y = false → Op.bytesLess y x = false → x = y
  | [], [], _, _ => rfl
  | [], _ :: _, h, _ => by simp [Op.bytesLess] at h
  | _ :: _, [], _, h => by simp [Op.bytesLess] at h
  | a :: x, b :: y, h, k => by
    simp only [Op.bytesLess, Bool.or_eq_false_iff, decide_eq_false_iff_not, Bool.and_eq_false_iff, decide_eq_false_iff_not] at h k
    have hab : a = b := by
      apply UInt8.toNat_inj.1
      have h1 := h.1; have k1 := k.1
      rw [UInt8.lt_iff_toNat_lt] at h1 k1
      omega
    subst hab
    rcases h.2 with h2 | h2
    · simp at h2
    · rcases k.2 with k2 | k2
      · simp at k2
      · rw [bl_tri x y h2 k2]
theorem ba_toList_inj {a b : ByteArray} (h : a.toList = b.toList) : a = b := by
  have e : ∀ c : ByteArray, c.toList = c.data.toList := fun c => ByteArray.toList_eq c
  rw [e, e] at h
  cases a; cases b; simp_all
theorem kLt_irrefl (a : ByteArray) : kLt a a = false := bl_irrefl _
theorem kLt_trans {a b c : ByteArray} (h : kLt a b = true) (k : kLt b c = true) : kLt a c = true := bl_trans _ _ _ h k
theorem kLt_tri {a b : ByteArray} (h : kLt a b = false) (k : kLt b a = false) : a = b := ba_toList_inj (bl_tri _ _ h k)
theorem kLt_asymm {a b : ByteArray} (h : kLt a b = true) : kLt b a = false := by
  cases k : kLt b a with
  | false => rfl
  | true => have := kLt_trans h k; rw [kLt_irrefl] at this; cases this

/-- Is the one entry ahead of the other? -/
def ahd (a b : Ent) : Bool := kLt a.key b.key || (kEq a.key b.key && decide (b.seq < a.seq))
def sameKS (a b : Ent) : Bool := kEq a.key b.key && decide (a.seq = b.seq)
theorem ahd_iff (a b : Ent) : ahd a b = true ↔ kLt a.key b.key = true ∨ (a.key = b.key ∧ b.seq < a.seq) := by simp [ahd, kEq]
theorem ahd_trans {a b c : Ent} (h : ahd a b = true) (k : ahd b c = true) : ahd a c = true := by
  rw [ahd_iff] at h k ⊢
  rcases h with h | ⟨h, h'⟩ <;> rcases k with k | ⟨k, k'⟩
  · exact .inl (kLt_trans h k)
  · exact .inl (k ▸ h)
  · exact .inl (h ▸ k)
  · exact .inr ⟨h.trans k, by omega⟩
theorem ahd_irrefl (a : Ent) : ahd a a = false := by simp [ahd, kEq, kLt_irrefl]
theorem ahd_tri {a b : Ent} (h : ahd a b = false) (k : sameKS a b = false) : ahd b a = true := by
  rw [ahd_iff]
  have h1 : kLt a.key b.key = false := by cases e : kLt a.key b.key with | false => rfl | true => simp [ahd, kEq, e] at h
  cases e : kLt b.key a.key with
  | true => exact .inl rfl
  | false =>
    have hk := kLt_tri h1 e
    refine .inr ⟨hk.symm, ?_⟩
    simp [ahd, kEq, hk, kLt_irrefl] at h
    simp [sameKS, kEq, hk] at k
    omega

/-- Three ways of a comparison. -/
def cmpK (a b : ByteArray) : Int := if kLt a b = true then -1 else if kLt b a = true then 1 else 0
def cmpI (a b : Int) : Int := if a < b then -1 else if b < a then 1 else 0
def ordE (a b : Ent) : Int := if cmpK a.key b.key ≠ 0 then cmpK a.key b.key else cmpI b.seq a.seq
theorem cmpK_neg (a b : ByteArray) : cmpK a b < 0 ↔ kLt a b = true := by unfold cmpK; split <;> (try split) <;> simp_all
theorem cmpK_zero (a b : ByteArray) : cmpK a b = 0 ↔ a = b := by
  unfold cmpK
  constructor
  · intro h
    split at h
    · omega
    · split at h
      · omega
      · exact kLt_tri (by simp_all) (by simp_all)
  · rintro rfl; simp [kLt_irrefl]
theorem ordE_neg (a b : Ent) : ordE a b < 0 ↔ ahd a b = true := by
  rw [ahd_iff]
  unfold ordE
  by_cases h : cmpK a.key b.key = 0
  · rw [if_neg (by simp [h])]
    have hk := (cmpK_zero _ _).1 h
    rw [hk]
    unfold cmpI
    split
    · simp_all
    · simp [kLt_irrefl]; split <;> omega
  · rw [if_pos h, cmpK_neg]
    have hk : a.key ≠ b.key := fun e => h ((cmpK_zero _ _).2 e)
    simp [hk]
theorem ordE_zero (a b : Ent) : ordE a b = 0 ↔ sameKS a b = true := by
  unfold ordE sameKS
  by_cases h : cmpK a.key b.key = 0
  · rw [if_neg (by simp [h])]
    have hk := (cmpK_zero _ _).1 h
    simp only [hk, kEq, decide_true, Bool.true_and, decide_eq_true_eq]
    unfold cmpI
    split
    · omega
    · split <;> omega
  · rw [if_pos h]
    have hk : a.key ≠ b.key := fun e => h ((cmpK_zero _ _).2 e)
    simp [kEq, hk, h]

/-- Is an entry as told? -/
def okE (e : Ent) : Bool := decide (1 ≤ e.key.size) && decide (e.key.size ≤ 40) && decide (e.val.size ≤ 200) && (!e.gone || decide (e.val.size = 0)) && decide (1 ≤ e.seq) && decide (e.seq ≤ 1000000)
def okAt (es : List Ent) (i : Nat) : Bool := okE (nth es i) && (decide (i = 0) || ahd (nth es (i - 1)) (nth es i))
def okTo (es : List Ent) (k : Nat) : Bool := (List.range k).all (okAt es)
def okL (es : List Ent) : Bool := decide (es.length ≤ 300) && okTo es es.length
theorem okTo_succ (es : List Ent) (k : Nat) : okTo es (k + 1) = (okTo es k && okAt es k) := by simp [okTo, List.range_succ]
theorem okTo_at {es : List Ent} {k i : Nat} (h : okTo es k = true) (hi : i < k) : okAt es i = true := by
  rw [okTo, List.all_eq_true] at h; exact h i (List.mem_range.2 hi)
theorem okTo_no {es : List Ent} {k i : Nat} (hi : i < k) (h : okAt es i = false) : okTo es k = false := by
  cases e : okTo es k with
  | false => rfl
  | true => rw [okTo_at e hi] at h; cases h
theorem okL_no_at {es : List Ent} {i : Nat} (hi : i < es.length) (h : okAt es i = false) : okL es = false := by
  unfold okL; rw [okTo_no hi h]; simp
theorem okL_len {es : List Ent} (h : okL es = true) : es.length ≤ 300 := by simp [okL] at h; exact h.1
theorem okL_to {es : List Ent} (h : okL es = true) : okTo es es.length = true := by simp [okL] at h; exact h.2
theorem okL_ent {es : List Ent} (h : okL es = true) {i : Nat} (hi : i < es.length) : okE (nth es i) = true := by
  have := okTo_at (okL_to h) hi; simp [okAt] at this; exact this.1
theorem okL_next {es : List Ent} (h : okL es = true) {i : Nat} (hi : i + 1 < es.length) : ahd (nth es i) (nth es (i + 1)) = true := by
  have := okTo_at (okL_to h) hi; simp [okAt] at this; simpa using this.2
theorem okL_lt {es : List Ent} (h : okL es = true) : ∀ (d i : Nat), i + d + 1 < es.length → ahd (nth es i) (nth es (i + d + 1)) = true
  | 0, i, hi => okL_next h hi
  | d + 1, i, hi => ahd_trans (okL_lt h d i (by omega)) (okL_next h hi)
theorem okL_ij {es : List Ent} (h : okL es = true) {i j : Nat} (hij : i < j) (hj : j < es.length) : ahd (nth es i) (nth es j) = true := by
  obtain ⟨d, rfl⟩ : ∃ d, j = i + d + 1 := ⟨j - i - 1, by omega⟩
  exact okL_lt h d i hj
/-- A list is as told just where each entry is and each is ahead of all behind it. -/
theorem okL_iff (es : List Ent) : okL es = true ↔ es.length ≤ 300 ∧ (∀ e ∈ es, okE e = true) ∧ es.Pairwise (fun a b => ahd a b = true) := by
  constructor
  · intro h
    refine ⟨okL_len h, fun e he => ?_, ?_⟩
    · obtain ⟨i, hi, rfl⟩ := List.getElem_of_mem he
      have := okL_ent h hi
      rwa [nth_eq hi] at this
    · rw [List.pairwise_iff_getElem]
      intro i j hi hj hij
      have := okL_ij h hij hj
      rwa [nth_eq hi, nth_eq hj] at this
  · rintro ⟨h1, h2, h3⟩
    rw [List.pairwise_iff_getElem] at h3
    simp only [okL, okTo, Bool.and_eq_true, decide_eq_true_eq, List.all_eq_true, List.mem_range]
    refine ⟨h1, fun i hi => ?_⟩
    simp only [okAt, Bool.and_eq_true, Bool.or_eq_true, decide_eq_true_eq]
    refine ⟨by rw [nth_eq hi]; exact h2 _ (List.getElem_mem hi), ?_⟩
    by_cases h0 : i = 0
    · exact .inl h0
    · right
      rw [nth_eq hi, nth_eq (show i - 1 < es.length by omega)]
      exact h3 _ _ (by omega) hi (by omega)

/-- How many are ahead of an entry. -/
def atE (es : List Ent) (t : Ent) : Nat := (es.takeWhile (fun a => ahd a t)).length
theorem atE_le (es : List Ent) (t : Ent) : atE es t ≤ es.length := by
  unfold atE; exact (List.takeWhile_sublist _).length_le
theorem tw_get (p : Ent → Bool) : ∀ (es : List Ent) (i : Nat), i < (es.takeWhile p).length → p (nth es i) = true
  | [], i, h => by simp at h
  | a :: r, i, h => by
    rw [List.takeWhile_cons] at h
    split at h
    · rename_i ha
      match i, h with
      | 0, _ => exact ha
      | i + 1, h => rw [nth_succ]; exact tw_get p r i (by simpa using h)
    · simp at h
theorem tw_stop (p : Ent → Bool) : ∀ (es : List Ent), (es.takeWhile p).length < es.length → p (nth es ((es.takeWhile p).length)) = false
  | [], h => by simp at h
  | a :: r, h => by
    rw [List.takeWhile_cons] at h ⊢
    split at h
    · rename_i ha
      rw [if_pos ha]
      rw [List.length_cons, nth_succ]; exact tw_stop p r (by simpa using h)
    · rename_i ha
      rw [if_neg ha]
      rw [List.length_nil, nth_zero]; simpa using ha
theorem atE_lo (es : List Ent) (t : Ent) {i : Nat} (h : i < atE es t) : ahd (nth es i) t = true := tw_get _ es i h
theorem atE_hi {es : List Ent} (hs : okL es = true) (t : Ent) {i : Nat} (h : atE es t ≤ i) (hi : i < es.length) : ahd (nth es i) t = false := by
  have h0 := tw_stop (fun a => ahd a t) es (show atE es t < es.length by omega)
  change ahd (nth es (atE es t)) t = false at h0
  by_cases he : atE es t = i
  · rw [← he]; exact h0
  · cases e : ahd (nth es i) t with
    | false => rfl
    | true => rw [ahd_trans (okL_ij hs (by omega) hi) e] at h0; cases h0
/-- From a place on none is ahead, all in front of it are: that is the place. -/
theorem atE_of {es : List Ent} (hs : okL es = true) (t : Ent) (k : Nat) (hk : k ≤ es.length) (h1 : ∀ i, i < k → ahd (nth es i) t = true) (h2 : k < es.length → ahd (nth es k) t = false) : atE es t = k := by
  have h3 := atE_le es t
  rcases Nat.lt_trichotomy (atE es t) k with h | h | h
  · have := atE_hi hs t (Nat.le_refl _) (show atE es t < es.length by omega)
    rw [h1 _ h] at this; cases this
  · exact h
  · have := atE_lo es t h
    rw [h2 (by omega)] at this; cases this
theorem atE_scan (es : List Ent) (t : Ent) (k : Nat) (hk : k ≤ es.length) (h1 : ∀ i, i < k → ahd (nth es i) t = true) (h2 : k < es.length → ahd (nth es k) t = false) : atE es t = k := by
  have h3 := atE_le es t
  rcases Nat.lt_trichotomy (atE es t) k with h | h | h
  · have := tw_stop (fun a => ahd a t) es (show atE es t < es.length by omega)
    change ahd (nth es (atE es t)) t = false at this
    rw [h1 _ h] at this; cases this
  · exact h
  · have := atE_lo es t h
    rw [h2 (by omega)] at this; cases this

/-- With an entry in its place. -/
def insE (es : List Ent) (e : Ent) : List Ent := es.take (atE es e) ++ e :: es.drop (atE es e)
def hasKS (es : List Ent) (e : Ent) : Bool := es.any (fun a => sameKS a e)
def putOk (es : List Ent) (e : Ent) : Bool := okL es && okE e && !decide (es.length = 300) && !hasKS es e
/-- What is put. -/
def putL (es : List Ent) (e : Ent) : List Ent := if putOk es e = true then insE es e else []
theorem insE_length (es : List Ent) (e : Ent) : (insE es e).length = es.length + 1 := by
  have := atE_le es e
  simp [insE]; omega
/-- In a right list one with this key and number stands at the place, or nowhere. -/
theorem has_at {es : List Ent} (hs : okL es = true) (t : Ent) : hasKS es t = (decide (atE es t < es.length) && sameKS (nth es (atE es t)) t) := by
  rw [Bool.eq_iff_iff]
  simp only [hasKS, List.any_eq_true, Bool.and_eq_true, decide_eq_true_eq]
  constructor
  · rintro ⟨a, ha, hk⟩
    obtain ⟨i, hi, rfl⟩ := List.getElem_of_mem ha
    have hk' : sameKS (nth es i) t = true := by rw [nth_eq hi]; exact hk
    have hna : ahd (nth es i) t = false := by
      simp [sameKS, kEq] at hk'
      simp [ahd, kEq, hk'.1, hk'.2, kLt_irrefl]
    have hle : atE es t ≤ i := by
      rcases Nat.lt_or_ge i (atE es t) with h | h
      · rw [atE_lo es t h] at hna; cases hna
      · exact h
    by_cases he : atE es t = i
    · exact ⟨by omega, by rw [he]; exact hk'⟩
    · exfalso
      have h1 := okL_ij hs (show atE es t < i by omega) hi
      have h2 := atE_hi hs t (Nat.le_refl _) (show atE es t < es.length by omega)
      have h3 : ahd (nth es (atE es t)) t = ahd (nth es (atE es t)) (nth es i) := by
        simp [sameKS, kEq] at hk'
        simp [ahd, kEq, hk'.1, hk'.2]
      rw [h3, h1] at h2; cases h2
  · rintro ⟨h1, h2⟩
    exact ⟨nth es (atE es t), by rw [nth_eq h1]; exact List.getElem_mem h1, h2⟩

/-- What is put leaves a right list. -/
theorem insE_ok {es : List Ent} {e : Ent} (h : putOk es e = true) : okL (insE es e) = true := by
  simp only [putOk, Bool.and_eq_true, Bool.not_eq_true', decide_eq_false_iff_not] at h
  obtain ⟨⟨⟨hs, he⟩, hn⟩, hh⟩ := h
  have hl := okL_len hs
  rw [okL_iff]
  obtain ⟨h1, h2, h3⟩ := (okL_iff es).1 hs
  refine ⟨by rw [insE_length]; omega, ?_, ?_⟩
  · intro a ha
    simp only [insE, List.mem_append, List.mem_cons] at ha
    rcases ha with ha | rfl | ha
    · exact h2 a (List.mem_of_mem_take ha)
    · exact he
    · exact h2 a (List.mem_of_mem_drop ha)
  · have hA : ∀ a ∈ es.take (atE es e), ahd a e = true := by
      intro a ha
      obtain ⟨i, hi, rfl⟩ := List.getElem_of_mem ha
      rw [List.length_take] at hi
      have := atE_lo es e (show i < atE es e by omega)
      rw [nth_eq (by omega)] at this
      rw [List.getElem_take]
      exact this
    have hB : ∀ b ∈ es.drop (atE es e), ahd e b = true := by
      intro b hb
      obtain ⟨i, hi, rfl⟩ := List.getElem_of_mem hb
      rw [List.length_drop] at hi
      rw [List.getElem_drop]
      have h4 := atE_hi hs e (show atE es e ≤ atE es e + i by omega) (by omega)
      rw [nth_eq (by omega)] at h4
      refine ahd_tri h4 ?_
      cases hk : sameKS (es[atE es e + i]'(by omega)) e with
      | false => rfl
      | true =>
        have : hasKS es e = true := by
          simp only [hasKS, List.any_eq_true]
          exact ⟨_, List.getElem_mem (by omega), hk⟩
        rw [this] at hh; cases hh
    unfold insE
    rw [List.pairwise_append]
    refine ⟨h3.sublist (List.take_sublist _ _), ?_, ?_⟩
    · rw [List.pairwise_cons]
      exact ⟨hB, h3.sublist (List.drop_sublist _ _)⟩
    · intro a ha b hb
      rcases List.mem_cons.1 hb with rfl | hb
      · exact hA a ha
      · exact ahd_trans (hA a ha) (hB b hb)

/-- The one that is seen. -/
def seenP (k : ByteArray) (q : Int) (e : Ent) : Bool := kEq e.key k && decide (e.seq ≤ q)
def seenL (es : List Ent) (k : ByteArray) (q : Int) : Option Ent := es.find? (seenP k q)
def zeroE : Ent := ⟨⟨#[]⟩, ⟨#[]⟩, 0, false⟩
def seenA (es : List Ent) (k : ByteArray) (q : Int) : Option Ent := if okL es = true then seenL es k q else none
theorem seenL_scan (es : List Ent) (k : ByteArray) (q : Int) (i : Nat) (hi : i < es.length) (h1 : ∀ j, j < i → seenP k q (nth es j) = false) (h2 : seenP k q (nth es i) = true) : seenL es k q = some (nth es i) := by
  unfold seenL
  rw [List.find?_eq_some_iff_getElem]
  refine ⟨h2, i, hi, by rw [nth_eq hi], fun j hj => ?_⟩
  have := h1 j hj
  rw [nth_eq (by omega)] at this
  simp [this]
theorem seenL_none (es : List Ent) (k : ByteArray) (q : Int) (h1 : ∀ j, j < es.length → seenP k q (nth es j) = false) : seenL es k q = none := by
  unfold seenL
  rw [List.find?_eq_none]
  intro a ha
  obtain ⟨i, hi, rfl⟩ := List.getElem_of_mem ha
  have := h1 i hi
  rw [nth_eq hi] at this
  simp [this]
/-- In a right list the one that is seen stands at the place. -/
theorem seen_at {es : List Ent} (hs : okL es = true) (k : ByteArray) (q : Int) (t : Ent) (hk : t.key = k) (hq : t.seq = q) :
    seenL es k q = if atE es t < es.length ∧ (nth es (atE es t)).key = k then some (nth es (atE es t)) else none := by
  have hlo : ∀ j, j < atE es t → seenP k q (nth es j) = false := by
    intro j hj
    have := atE_lo es t hj
    rw [ahd_iff, hk, hq] at this
    rcases this with h | ⟨h, h'⟩
    · have hne : (nth es j).key ≠ k := fun e => by rw [e, kLt_irrefl] at h; cases h
      simp [seenP, kEq, hne]
    · simp [seenP, kEq]; intro _; omega
  split
  · rename_i h
    refine seenL_scan es k q _ h.1 hlo ?_
    have h2 := atE_hi hs t (Nat.le_refl _) h.1
    simp [ahd, kEq, hk, hq, h.2, kLt_irrefl] at h2
    simp [seenP, kEq, h.2]; omega
  · rename_i h
    refine seenL_none es k q fun j hj => ?_
    rcases Nat.lt_or_ge j (atE es t) with h1 | h1
    · exact hlo j h1
    · have h2 := atE_hi hs t h1 hj
      have hne : (nth es j).key ≠ k := by
        intro e
        apply h
        refine ⟨by omega, ?_⟩
        by_cases hje : atE es t = j
        · rw [hje]; exact e
        · have h3 := okL_ij hs (show atE es t < j by omega) hj
          have h4 := atE_hi hs t (Nat.le_refl _) (show atE es t < es.length by omega)
          rw [ahd_iff] at h3
          rcases h3 with h3 | h3
          · rw [e, ← hk] at h3
            simp [ahd, kEq, h3] at h4
          · rw [h3.1, e]
      simp [seenP, kEq, hne]
theorem seenL_some {es : List Ent} {k : ByteArray} {q : Int} {e : Ent} (h : seenL es k q = some e) : e.key = k ∧ e.seq ≤ q := by
  have := List.find?_some h
  simpa [seenP, kEq] using this
/-- Each of a right list is seen at its own number. -/
theorem seen_mem {es : List Ent} (hs : okL es = true) {e : Ent} (he : e ∈ es) : seenL es e.key e.seq = some e := by
  obtain ⟨i, hi, rfl⟩ := List.getElem_of_mem he
  have := seenL_scan es (es[i]).key (es[i]).seq i hi (fun j hj => ?_) (by rw [nth_eq hi]; simp [seenP, kEq])
  · rw [nth_eq hi] at this; exact this
  · have h := okL_ij hs hj hi
    rw [nth_eq hi, ahd_iff] at h
    rcases h with h | h
    · have hne : (nth es j).key ≠ (es[i]).key := fun e => by rw [e, kLt_irrefl] at h; cases h
      simp [seenP, kEq, hne]
    · simp [seenP, kEq]; intro _; omega

/-- Is number i shown at q? -/
def isShown (es : List Ent) (q : Int) (i : Nat) : Bool := decide ((nth es i).seq ≤ q) && (decide (i = 0) || !kEq (nth es (i - 1)).key (nth es i).key || decide (q < (nth es (i - 1)).seq))
def shAt (es : List Ent) (q : Int) (i : Nat) : Bool := isShown es q i && !(nth es i).gone
def shTo (es : List Ent) (q : Int) : Nat → List Ent
  | 0 => []
  | i + 1 => if shAt es q i = true then shTo es q i ++ [nth es i] else shTo es q i
def shownL (es : List Ent) (q : Int) : List Ent := if okL es = true then shTo es q es.length else []
theorem shTo_len (es : List Ent) (q : Int) : ∀ i, (shTo es q i).length ≤ i
  | 0 => Nat.le_refl _
  | i + 1 => by
    have := shTo_len es q i
    rw [shTo]; split
    · simp; omega
    · omega
theorem shTo_yes {es : List Ent} {q : Int} {i : Nat} (h : shAt es q i = true) : shTo es q (i + 1) = shTo es q i ++ [nth es i] := by rw [shTo, if_pos h]
theorem shTo_no {es : List Ent} {q : Int} {i : Nat} (h : shAt es q i = false) : shTo es q (i + 1) = shTo es q i := by rw [shTo, if_neg (by simp [h])]
theorem shTo_sub (es : List Ent) (q : Int) : ∀ i, i ≤ es.length → (shTo es q i).Sublist (es.take i)
  | 0, _ => by simp [shTo]
  | i + 1, h => by
    have ih := shTo_sub es q i (by omega)
    rw [List.take_succ_eq_append_getElem (by omega), shTo]
    split
    · rw [nth_eq (by omega)]; exact ih.append (List.Sublist.refl _)
    · exact ih.trans (List.sublist_append_left _ _)
theorem shownL_ok {es : List Ent} (hs : okL es = true) (q : Int) : okL (shTo es q es.length) = true := by
  have hsub := shTo_sub es q es.length (Nat.le_refl _)
  rw [List.take_length] at hsub
  rw [okL_iff] at hs ⊢
  obtain ⟨h1, h2, h3⟩ := hs
  exact ⟨Nat.le_trans hsub.length_le h1, fun e he => h2 e (hsub.subset he), h3.sublist hsub⟩
/-- The key that the model's loop bears behind its first i rounds. -/
def lastK (es : List Ent) (q : Int) : Nat → ByteArray
  | 0 => ⟨#[]⟩
  | i + 1 => if (nth es i).seq ≤ q then (nth es i).key else lastK es q i
theorem lastK_from (es : List Ent) (q : Int) : ∀ i, lastK es q i = ⟨#[]⟩ ∨ ∃ j, j < i ∧ (nth es j).key = lastK es q i ∧ (nth es j).seq ≤ q
  | 0 => .inl rfl
  | i + 1 => by
    rw [lastK]
    split
    · rename_i h; exact .inr ⟨i, by omega, rfl, h⟩
    · rcases lastK_from es q i with h | ⟨j, hj, h⟩
      · exact .inl h
      · exact .inr ⟨j, by omega, h⟩
/-- In a right list the loop's key is the entry's own just where the one ahead is of that key and not too late. -/
theorem lastK_iff {es : List Ent} (hs : okL es = true) (q : Int) (i : Nat) (hi : i < es.length) (hq : (nth es i).seq ≤ q) :
    isShown es q i = !kEq (nth es i).key (lastK es q i) := by
  unfold isShown
  rw [decide_eq_true hq, Bool.true_and]
  match i, hi, hq with
  | 0, hi, _ =>
    have h := okL_ent hs hi
    have hne : (nth es 0).key ≠ ⟨#[]⟩ := fun e => by
      simp only [okE, Bool.and_eq_true, decide_eq_true_eq] at h
      have h1 := h.1.1.1.1.1
      rw [e] at h1
      exact absurd h1 (by decide)
    have hb : kEq (nth es 0).key (lastK es q 0) = false := by exact decide_eq_false hne
    rw [hb]
    simp
  | i + 1, hi, hq =>
    simp only [Nat.add_one_sub_one]
    rw [show decide (i + 1 = 0) = false from by simp, Bool.false_or]
    by_cases h1 : (nth es i).seq ≤ q
    · rw [lastK, if_pos h1]
      have : decide (q < (nth es i).seq) = false := by simp; omega
      rw [this, Bool.or_false]
      by_cases hk : (nth es i).key = (nth es (i + 1)).key
      · simp [kEq, hk]
      · have h2 : kEq (nth es i).key (nth es (i + 1)).key = false := by simpa [kEq] using hk
        have h3 : kEq (nth es (i + 1)).key (nth es i).key = false := by simpa [kEq] using fun e => hk e.symm
        rw [h2, h3]
    · have h4 : decide (q < (nth es i).seq) = true := by simp; omega
      rw [h4, Bool.or_true]
      have hne : (nth es (i + 1)).key ≠ lastK es q (i + 1) := by
        intro e
        rw [lastK, if_neg h1] at e
        rcases lastK_from es q i with h | ⟨j, hj, hk, hjq⟩
        · have h5 := okL_ent hs hi
          simp only [okE, Bool.and_eq_true, decide_eq_true_eq] at h5
          have h6 := h5.1.1.1.1.1
          rw [e, h] at h6
          exact absurd h6 (by decide)
        · have h7 := okL_ij hs (show j < i by omega) (by omega)
          have h8 := okL_ij hs (show i < i + 1 by omega) hi
          rw [ahd_iff] at h7 h8
          rcases h7 with h7 | h7
          · rcases h8 with h8 | h8
            · have := kLt_trans h7 h8
              rw [hk, ← e, kLt_irrefl] at this; cases this
            · rw [h8.1, hk, ← e, kLt_irrefl] at h7; cases h7
          · omega
      simp [kEq, hne]
/-- In a right list number i is shown just where it is seen at q and not gone. -/
theorem shown_seen {es : List Ent} (hs : okL es = true) (q : Int) (i : Nat) (hi : i < es.length) : isShown es q i = decide (seenL es (nth es i).key q = some (nth es i)) := by
  rw [Bool.eq_iff_iff, decide_eq_true_eq]
  constructor
  · intro h
    simp only [isShown, kEq, Bool.and_eq_true, Bool.or_eq_true, decide_eq_true_eq, Bool.not_eq_true', decide_eq_false_iff_not] at h
    refine seenL_scan es _ q i hi (fun j hj => ?_) (by simp [seenP, kEq, h.1])
    have h1 := okL_ij hs hj hi
    rw [ahd_iff] at h1
    rcases h1 with h1 | h1
    · have hne : (nth es j).key ≠ (nth es i).key := fun e => by rw [e, kLt_irrefl] at h1; cases h1
      simp [seenP, kEq, hne]
    · have hi1 : i ≠ 0 := by omega
      have h2 : (nth es (i - 1)).key = (nth es i).key ∧ (nth es (i - 1)).seq ≤ (nth es j).seq := by
        by_cases hj1 : j = i - 1
        · subst hj1; exact ⟨h1.1, Int.le_refl _⟩
        · have h3 := okL_ij hs (show j < i - 1 by omega) (by omega)
          have h4 := okL_ij hs (show i - 1 < i by omega) hi
          rw [ahd_iff] at h3 h4
          rcases h3 with h3 | h3
          · rcases h4 with h4 | h4
            · have := kLt_trans h3 h4
              rw [h1.1, kLt_irrefl] at this; cases this
            · rw [h4.1, h1.1, kLt_irrefl] at h3; cases h3
          · exact ⟨h3.1.symm.trans h1.1, by omega⟩
      rcases h.2 with (h5 | h5) | h5
      · exact absurd h5 hi1
      · exact absurd h2.1 h5
      · simp [seenP, kEq]; intro _; omega
  · intro h
    have h0 := seenL_some h
    simp only [isShown, kEq, Bool.and_eq_true, Bool.or_eq_true, decide_eq_true_eq, Bool.not_eq_true', decide_eq_false_iff_not]
    refine ⟨h0.2, ?_⟩
    by_cases hi1 : i = 0
    · exact .inl (.inl hi1)
    by_cases hk : (nth es (i - 1)).key = (nth es i).key
    · right
      rcases Int.lt_or_le q (nth es (i - 1)).seq with h1 | h1
      · exact h1
      · exfalso
        unfold seenL at h
        rw [List.find?_eq_some_iff_getElem] at h
        obtain ⟨_, k, hk1, hk2, hk3⟩ := h
        rcases Nat.lt_trichotomy k i with h2 | h2 | h2
        · have h3 := okL_ij hs h2 hi
          rw [nth_eq hk1, hk2, ahd_irrefl] at h3; cases h3
        · have h3 := hk3 (i - 1) (by omega)
          rw [← nth_eq (show i - 1 < es.length by omega)] at h3
          simp [seenP, kEq, hk] at h3
          omega
        · have h3 := okL_ij hs h2 hk1
          rw [nth_eq hk1, hk2, ahd_irrefl] at h3; cases h3
    · exact .inl (.inr hk)
end Go.Proofs.Ytjgcommffaplnaa
namespace Go.Proofs.Ytjgcommffaplnaa
open Go.RowKit
theorem Try.info37 : (Try.prog.info? 37).map (fun i => (i.zero, i.size, i.bytes)) = some (some (.agg #[.string ⟨#[]⟩, .string ⟨#[]⟩, .int .i64 0, .bool false]), 4, 48) := by kernel_rfl
/-- The four cells of an entry. -/
def EC (e : Ent) : List Value := [.string e.key, .string e.val, .int .i64 e.seq, .bool e.gone]
def EA (e : Ent) : Value := .agg #[.string e.key, .string e.val, .int .i64 e.seq, .bool e.gone]
def EV (es : List Ent) : List Value := es.flatMap EC
theorem EV_length : ∀ es : List Ent, (EV es).length = es.length * 4
  | [] => rfl
  | a :: r => by
    have := EV_length r
    unfold EV at this ⊢
    rw [List.flatMap_cons, List.length_append, this, List.length_cons]
    simp [EC]; omega
theorem EV_append (a b : List Ent) : EV (a ++ b) = EV a ++ EV b := by simp [EV]
theorem EV_one (e : Ent) : EV [e] = EC e := by simp [EV]
theorem EV_cons (a : Ent) (r : List Ent) : EV (a :: r) = EC a ++ EV r := by simp [EV]
theorem EV_get : ∀ (es : List Ent) (i : Nat), i < es.length → ∀ j, j < 4 → (EV es)[i * 4 + j]? = (EC (nth es i))[j]?
  | [], i, h, _, _ => by simp at h
  | a :: r, 0, _, j, hj => by
    rw [EV_cons, nth_zero, Nat.zero_mul, Nat.zero_add, List.getElem?_append_left (by simp [EC]; exact hj)]
  | a :: r, i + 1, h, j, hj => by
    rw [EV_cons, nth_succ, ← EV_get r i (by simpa using h) j hj, List.getElem?_append_right (by simp [EC]; omega)]
    congr 1
    simp [EC]; omega
theorem EV_oneCell (es : List Ent) : ∀ u ∈ EV es, u.oneCell' = true := by
  intro u hu
  simp only [EV, List.mem_flatMap] at hu
  obtain ⟨e, _, he⟩ := hu
  simp only [EC, List.mem_cons, List.not_mem_nil, or_false] at he
  rcases he with rfl | rfl | rfl | rfl <;> rfl
/-- The entry e lies at offset o of block b. -/
def EntAt (w : World) (b o : Nat) (e : Ent) : Prop :=
  w.cell? ⟨b, o, none⟩ = some (.string e.key) ∧ w.cell? ⟨b, o + 1, none⟩ = some (.string e.val) ∧ w.cell? ⟨b, o + 2, none⟩ = some (.int .i64 e.seq) ∧ w.cell? ⟨b, o + 3, none⟩ = some (.bool e.gone)
/-- The slice v is the call's own (its block is at least number base) and holds the entries es. -/
def OwnE (w : World) (base : Nat) (v : Value) (es : List Ent) : Prop := w.ownsRow base 37 4 v es.length (EV es)
/-- The slice v can be read and holds the entries es. -/
def RdE (w : World) (v : Value) (es : List Ent) : Prop :=
  ∃ a cap, v = .slice a es.length cap ∧ es.length ≤ cap ∧ cap ≤ maxLen ∧ (a = none → cap = 0) ∧
    (es = [] ∨ ∃ b off, a = some ⟨b, off, none⟩ ∧ ∀ i, i < es.length → EntAt w b (off + i * 4) (nth es i))
theorem EntAt.lt {w : World} {b o : Nat} {e : Ent} (h : EntAt w b o e) : b < w.heap.size := World.block_lt_of_cell? w _ h.1
theorem EntAt.of_block {w w' : World} {b o : Nat} {e : Ent} (h : EntAt w b o e) (hb : w'.heap[b]? = w.heap[b]?) : EntAt w' b o e :=
  ⟨(World.cell?_of_block (a := ⟨b, o, none⟩) hb).trans h.1, (World.cell?_of_block (a := ⟨b, o + 1, none⟩) hb).trans h.2.1, (World.cell?_of_block (a := ⟨b, o + 2, none⟩) hb).trans h.2.2.1, (World.cell?_of_block (a := ⟨b, o + 3, none⟩) hb).trans h.2.2.2⟩
theorem EntAt.below {w w' : World} {b o : Nat} {e : Ent} (h : EntAt w b o e) (hb : Below w.heap.size w w') : EntAt w' b o e := h.of_block (hb.block b h.lt)
theorem ownE_cell {w : World} {base g cap n : Nat} {es : List Ent} (h : w.ownsRow base 37 4 (.slice (some ⟨g, 0, none⟩) n cap) n (EV es)) (hn : n = es.length) (i : Nat) (hi : i < n) : EntAt w g (i * 4) (nth es i) := by
  subst hn
  have c : ∀ j, j < 4 → w.cell? ⟨g, i * 4 + j, none⟩ = (EC (nth es i))[j]? := fun j hj => (h.cellAt (i * 4 + j) (by omega)).trans (EV_get es i hi j hj)
  exact ⟨c 0 (by omega), c 1 (by omega), c 2 (by omega), c 3 (by omega)⟩
theorem OwnE.rd {w : World} {base : Nat} {v : Value} {es : List Ent} (h : OwnE w base v es) : RdE w v es := by
  have h' := h
  rcases h.2 with ⟨rfl, h0⟩ | ⟨g, cap, cur, rfl, hb, hg, hn, hc, hs, ht⟩
  · have : es = [] := List.length_eq_zero_iff.1 h0
    subst this
    exact ⟨none, 0, rfl, Nat.le_refl _, Nat.zero_le _, fun _ => rfl, .inl rfl⟩
  · refine ⟨some ⟨g, 0, none⟩, cap, rfl, hn, hc, (fun h => by cases h), .inr ⟨g, 0, rfl, fun i hi => ?_⟩⟩
    rw [Nat.zero_add]
    exact ownE_cell h' rfl i hi
theorem OwnE.below {w w' : World} {base : Nat} {v : Value} {es : List Ent} (h : OwnE w base v es) (hb : Below w.heap.size w w') : OwnE w' base v es := own_below h hb
theorem OwnE.drewN {w : World} {base : Nat} {v : Value} {es : List Ent} (h : OwnE w base v es) (q : Nat) : OwnE (w.drewN q) base v es := h
theorem OwnE.mono {w : World} {base base' : Nat} {v : Value} {es : List Ent} (h : OwnE w base v es) (hb : base' ≤ base) : OwnE w base' v es := by
  refine ⟨h.1, ?_⟩
  rcases h.2 with h2 | ⟨g, cap, cur, hv, hg, r⟩
  · exact .inl h2
  · exact .inr ⟨g, cap, cur, hv, Nat.le_trans hb hg, r⟩
theorem RdE.below {w w' : World} {v : Value} {es : List Ent} (h : RdE w v es) (hb : Below w.heap.size w w') : RdE w' v es := by
  obtain ⟨a, cap, hv, h1, h2, h0, h3⟩ := h
  refine ⟨a, cap, hv, h1, h2, h0, ?_⟩
  rcases h3 with h3 | ⟨b, off, ha, hc⟩
  · exact .inl h3
  · exact .inr ⟨b, off, ha, fun i hi => (hc i hi).below hb⟩
theorem RdE.drewN {w : World} {v : Value} {es : List Ent} (h : RdE w v es) (q : Nat) : RdE (w.drewN q) v es := h
theorem rdE_nil (w : World) : RdE w (.slice none 0 0) [] := ⟨none, 0, rfl, Nat.le_refl _, Nat.zero_le _, fun _ => rfl, .inl rfl⟩
theorem ownE_none (w : World) : OwnE (w.alloc (.cells #[] 37)) w.heap.size (.slice (some ⟨w.heap.size, 0, none⟩) 0 0) [] := World.ownsRow_lit w #[] 0 (Nat.le_refl _) (Nat.zero_le _) rfl
theorem ownE_lt {w : World} {B : Nat} {v : Value} {es : List Ent} (h : OwnE w B v es) : ∀ k, v.ownBlock = some k → k < w.heap.size := fun k hk => (World.ownsRow.lt h k hk).2
theorem ownE_more {w1 : World} {B : Nat} {v' : Value} {ys zs : List Ent} (h : w1.ownsRow B 37 4 v' (ys.length + zs.length) (EV ys ++ EV zs)) : OwnE w1 B v' (ys ++ zs) := by
  unfold OwnE
  rw [EV_append, List.length_append]
  exact h
/-- Where an entry of a slice lies. -/
theorem RdE.at {w : World} {a : Option Addr} {n cap : Nat} {es : List Ent} (h : RdE w (.slice a n cap) es) (hn : n = es.length) (i : Nat) (hi : i < es.length) : ∃ b off, a = some ⟨b, off, none⟩ ∧ EntAt w b (off + i * 4) (nth es i) := by
  obtain ⟨a', cap', hv, _, _, _, h3⟩ := h
  simp only [Value.slice.injEq] at hv
  obtain ⟨rfl, _, _⟩ := hv
  rcases h3 with rfl | ⟨b, off, ha, hc⟩
  · simp at hi
  · exact ⟨b, off, ha, hc i hi⟩
theorem EV_nth {es : List Ent} {j : Nat} {u : Value} (h : (EV es)[j]? = some u) : j / 4 < es.length ∧ (EC (nth es (j / 4)))[j % 4]? = some u := by
  have hj : j < (EV es).length := (List.getElem?_eq_some_iff.1 h).1
  rw [EV_length] at hj
  have h1 : j / 4 < es.length := by omega
  refine ⟨h1, ?_⟩
  have h2 := EV_get es (j / 4) h1 (j % 4) (by omega)
  rw [show j / 4 * 4 + j % 4 = j by omega] at h2
  rw [← h2]; exact h
theorem EntAt.cellAt {w : World} {b o : Nat} {e : Ent} (h : EntAt w b o e) {j : Nat} {u : Value} (hu : (EC e)[j]? = some u) : w.cell? ⟨b, o + j, none⟩ = some u := by
  obtain ⟨h0, h1, h2, h3⟩ := h
  match j, hu with
  | 0, hu => simp [EC] at hu; subst hu; exact h0
  | 1, hu => simp [EC] at hu; subst hu; exact h1
  | 2, hu => simp [EC] at hu; subst hu; exact h2
  | 3, hu => simp [EC] at hu; subst hu; exact h3
/-- The cells of a slice of entries, in a row. -/
theorem entsAt_cells {w : World} {b off : Nat} {es : List Ent} (h : ∀ i, i < es.length → EntAt w b (off + i * 4) (nth es i)) : ∀ j u, (EV es)[j]? = some u → w.cell? ((⟨b, off, none⟩ : Addr).add j) = some u := by
  intro j u hu
  obtain ⟨h1, h2⟩ := EV_nth hu
  have := (h _ h1).cellAt h2
  rw [Addr.add_lit]
  rw [show off + j / 4 * 4 + j % 4 = off + j by omega] at this
  exact this
/-- append of entries that can be read onto a row of the call's own. -/
theorem run_append_ents (ty : TypeId) {w : World} {base : Nat} {v u : Value} {ys zs : List Ent} (hown : OwnE w base v ys) (hr : RdE w u zs) (hl : ys.length + zs.length ≤ 1000000000) (hbase : base ≤ w.heap.size) :
    ∃ v' w', (Builtin.append_ #[24, 24] ty #[v, u]).run Try.prog w = .ok v' w' ∧ OwnE w' base v' (ys ++ zs) ∧ w.grownBy w' v.ownBlock := by
  obtain ⟨i0, hi, hz0, hz1, hz2⟩ := info_parts Try.info37
  obtain ⟨a, cap, rfl, h1, h2, h0, h3⟩ := hr
  have row : ∀ ad news, news = EV zs → (∀ j u, news[j]? = some u → w.cell? (ad.add j) = some u) → ∃ v' w', (Builtin.append_ #[24, 24] ty #[v, .slice (some ad) zs.length cap]).run Try.prog w = .ok v' w' ∧ OwnE w' base v' (ys ++ zs) ∧ w.grownBy w' v.ownBlock := by
    intro ad news hn hc
    subst hn
    obtain ⟨v', w', hrun, r1, r2, _⟩ := run_append_own (P := Try.prog) w base 24 ty 37 i0 _ 4 48 Try.underlying24 hi hz0 hz1 hz2 rfl (by decide) v ys.length (EV ys) hown ad zs.length cap (EV zs) (EV_length zs) hc (EV_oneCell zs) (by unfold maxLen; omega) (by omega) hbase
    exact ⟨v', w', hrun, ownE_more r1, r2⟩
  cases a with
  | some ad =>
    refine row ad (EV zs) rfl ?_
    rcases h3 with rfl | ⟨b, off, ha, hc⟩
    · intro j u hj; simp [EV] at hj
    · cases ha; exact entsAt_cells hc
  | none =>
    have hc0 := h0 rfl
    subst hc0
    rcases h3 with rfl | ⟨b, off, ha, hc⟩
    · refine ⟨v, w, run_append_owned_none (P := Try.prog) w base 24 ty 37 i0 4 Try.underlying24 hi v ys.length (EV ys) hown, by simpa using hown, ⟨rfl, rfl, rfl, Nat.le_refl _, fun _ _ _ => rfl⟩⟩
    · cases ha
theorem wpList_append_ents {w : World} {ops : Array Oper} {rest : List Oper} {o : Oper} {a : Act} {Q : Exit → Act → World → Prop} (hgd : o.guard = none) (s x : Operand)
    (ho : o.op = .call { callee := .builtin .append, args := #[s, x], argTypes := #[24, 24] }) (base : Nat) (v u : Value) (ys zs : List Ent) (hs : a.eval s = v) (hx : a.eval x = u) (hown : OwnE w base v ys) (hr : RdE w u zs) (hl : ys.length + zs.length ≤ 1000000000) (hbase : base ≤ w.heap.size)
    (h : ∀ v' w', OwnE w' base v' (ys ++ zs) → w.grownBy w' v.ownBlock → wpList Try.prog ops Q rest (a.put o.dst v') w') : wpList Try.prog ops Q (o :: rest) a w := by
  refine wpList_plain hgd fun K hK => ?_
  obtain ⟨v', w', hrun, r1, r2⟩ := run_append_ents o.type hown hr hl hbase
  unfold Oper.wp
  simp [execOp, ho, resolve, invoke, builtin, hs, hx, hrun, Result.andThen]
  exact hK _ _ (h v' w' r1 r2)
theorem step_append_ents {w : World} {ops : Array Oper} {o : Oper} {a : Act} {K : Act → World → Prop} {Q : Exit → Act → World → Prop} {E : Prop} (hgd : o.guard = none) (d : Nat) (hd : o.dst = some d) (s x : Operand)
    (ho : o.op = .call { callee := .builtin .append, args := #[s, x], argTypes := #[24, 24] }) (base : Nat) (v u : Value) (ys zs : List Ent) (hs : a.eval s = v) (hx : a.eval x = u) (hown : OwnE w base v ys) (hr : RdE w u zs) (hl : ys.length + zs.length ≤ 1000000000) (hbase : base ≤ w.heap.size)
    (h : ∀ v' w', OwnE w' base v' (ys ++ zs) → w.grownBy w' v.ownBlock → K (a.put (some d) v') w') :
    if Region.wanted o (yielded ops a.tmps) = true then Oper.wp Try.prog o a w K Q else E := by
  have hw : Region.wanted o (yielded ops a.tmps) = true := by simp [Region.wanted, hgd]
  rw [if_pos hw]
  obtain ⟨v', w', hrun, r1, r2⟩ := run_append_ents o.type hown hr hl hbase
  unfold Oper.wp
  simp [execOp, ho, resolve, invoke, builtin, hs, hx, hrun, Result.andThen]
  have h' := h v' w' r1 r2
  rw [← hd] at h'
  exact h'
/-- Texts and numbers of an entry are such as a program can hold. -/
def Fits (e : Ent) : Prop := e.key.size ≤ 4503599627370496 ∧ e.val.size ≤ 4503599627370496 ∧ -9223372036854775808 ≤ e.seq ∧ e.seq ≤ 9223372036854775807
end Go.Proofs.Ytjgcommffaplnaa
