/- Plain facts on bytes, on rows of bytes that a call owns or reads, and on the numbers that are written seven bits to a byte; no function of the program is walked here. Plain facts on rows of texts that a call owns or reads. Plain facts on lists of entries: their order, where one is put, which one is seen, which ones are shown; no function of the program is walked here. -/
import Derived.Test.YtbefmbjlogkmbaaGreatChecked
import Derived.WalkKit
import Derived.WalkSmall
import Derived.OpenShut
import Derived.Deep.DeepMust
import Derived.Deep.DeepFit
namespace Go.Proofs.YtbefmbjlogkmbaaGreat
set_option maxHeartbeats 16000000
set_option maxRecDepth 100000
theorem sA {α : Type} (l : List α) (i : Nat) (a : α) : l.toArray.setIfInBounds i a = (l.set i a).toArray := List.setIfInBounds_toArray l i a
theorem sZ {α : Type} {x : α} {xs : List α} {a : α} : (x :: xs).set 0 a = a :: xs := rfl
theorem sS {α : Type} {x : α} {xs : List α} {n : Nat} {a : α} : (x :: xs).set (n + 1) a = x :: xs.set n a := rfl
open Go.RowKit

def BV (bs : List UInt8) : List Value := bs.map fun b : UInt8 => Value.int .u8 (b.toNat : Int)
theorem BV_length (bs : List UInt8) : (BV bs).length = bs.length := by simp [BV]
theorem BV_append (a b : List UInt8) : BV (a ++ b) = BV a ++ BV b := by simp [BV]
theorem BV_get (bs : List UInt8) (i : Nat) (h : i < bs.length) : (BV bs)[i]? = some (.int .u8 (bs[i].toNat : Int)) := by simp [BV, h]

def Own (w : World) (base : Nat) (v : Value) (bs : List UInt8) : Prop := w.ownsRow base 5 1 v bs.length (BV bs)
def Rd (w : World) (v : Value) (bs : List UInt8) : Prop :=
  ∃ a cap, v = .slice a bs.length cap ∧ bs.length ≤ cap ∧ cap ≤ maxLen ∧
    (bs = [] ∨ ∃ b off, a = some ⟨b, off, none⟩ ∧ ∀ i (h : i < bs.length), w.cell? ⟨b, off + i, none⟩ = some (.int .u8 (bs[i].toNat : Int)))

theorem Own.rd {w : World} {base : Nat} {v : Value} {bs : List UInt8} (h : Own w base v bs) : Rd w v bs := by
  have h' := h
  rcases h.2 with ⟨rfl, h0⟩ | ⟨g, cap, cur, rfl, hb, hg, hn, hc, hs, ht⟩
  · have : bs = [] := List.length_eq_zero_iff.1 h0
    subst this
    exact ⟨none, 0, rfl, Nat.le_refl _, Nat.zero_le _, .inl rfl⟩
  · refine ⟨some ⟨g, 0, none⟩, cap, rfl, hn, hc, .inr ⟨g, 0, rfl, fun i hi => ?_⟩⟩
    have := h'.cellAt i (by omega)
    rw [BV_get bs i hi] at this
    simpa using this
theorem own_below {w w' : World} {base : Nat} {e : TypeId} {s : Nat} {v : Value} {n : Nat} {xs : List Value} (h : w.ownsRow base e s v n xs) (hb : Below w.heap.size w w') : w'.ownsRow base e s v n xs := by
  refine ⟨h.1, ?_⟩
  rcases h.2 with h2 | ⟨g, cap, cur, hv, hg, hh, r⟩
  · exact .inl h2
  · exact .inr ⟨g, cap, cur, hv, hg, by rw [hb.block g (Array.getElem?_eq_some_iff.1 hh).1]; exact hh, r⟩
theorem Own.below {w w' : World} {base : Nat} {v : Value} {bs : List UInt8} (h : Own w base v bs) (hb : Below w.heap.size w w') : Own w' base v bs := own_below h hb
theorem Own.drewN {w : World} {base : Nat} {v : Value} {bs : List UInt8} (h : Own w base v bs) (q : Nat) : Own (w.drewN q) base v bs := h
theorem Own.mono {w : World} {base base' : Nat} {v : Value} {bs : List UInt8} (h : Own w base v bs) (hb : base' ≤ base) : Own w base' v bs := by
  refine ⟨h.1, ?_⟩
  rcases h.2 with h2 | ⟨g, cap, cur, hv, hg, r⟩
  · exact .inl h2
  · exact .inr ⟨g, cap, cur, hv, Nat.le_trans hb hg, r⟩
theorem Rd.below {w w' : World} {v : Value} {bs : List UInt8} (h : Rd w v bs) (hb : Below w.heap.size w w') : Rd w' v bs := by
  obtain ⟨a, cap, hv, h1, h2, h3⟩ := h
  refine ⟨a, cap, hv, h1, h2, ?_⟩
  rcases h3 with h3 | ⟨b, off, ha, hc⟩
  · exact .inl h3
  · exact .inr ⟨b, off, ha, fun i hi => by rw [hb.cell (World.block_lt_of_cell? w _ (hc i hi))]; exact hc i hi⟩
theorem Rd.drewN {w : World} {v : Value} {bs : List UInt8} (h : Rd w v bs) (q : Nat) : Rd (w.drewN q) v bs := h
theorem Rd.shape {w : World} {v : Value} {bs : List UInt8} (h : Rd w v bs) : ∃ a cap, v = .slice a bs.length cap := ⟨h.choose, h.choose_spec.choose, h.choose_spec.choose_spec.1⟩

theorem own_push {w1 : World} {B : Nat} {v' : Value} {ys : List UInt8} {x : Int} (b : UInt8) (hx : x = (b.toNat : Int)) (h : w1.ownsRow B 5 1 v' (ys.length + 1) (BV ys ++ [.int .u8 x])) : Own w1 B v' (ys ++ [b]) := by
  subst hx
  have e : BV (ys ++ [b]) = BV ys ++ [.int .u8 (b.toNat : Int)] := by simp [BV]
  unfold Own
  rw [e, List.length_append]
  exact h
theorem push_below {w wr w1 : World} {B : Nat} {v : Value} {o : Obj} {ys : List UInt8} (hown : Own wr B v ys) (hb : Below B w wr) (hB : B ≤ wr.heap.size) (hg : (wr.alloc o).grownBy w1 v.ownBlock) : Below B w w1 :=
  (hb.alloc hB o).grown hg (by simp; omega) (fun k hk => (World.ownsRow.lt hown k hk).1)
theorem one_new (w : World) (x : Value) (t : TypeId) : ∀ j u, [x][j]? = some u → (w.alloc (.cells #[x] t)).cell? ((⟨w.heap.size, 0, none⟩ : Addr).add j) = some u := by
  intro j u hj
  match j, hj with
  | 0, hj => simp at hj; subst hj; simp [Addr.add]

def enc (n : Nat) : List UInt8 := if h : n < 128 then [UInt8.ofNat n] else UInt8.ofNat (n % 128 + 128) :: enc (n / 128)
theorem enc_small (n : Nat) (h : n < 128) : enc n = [UInt8.ofNat n] := by rw [enc, dif_pos h]
theorem enc_big (n : Nat) (h : 128 ≤ n) : enc n = UInt8.ofNat (n % 128 + 128) :: enc (n / 128) := by rw [enc, dif_neg (by omega)]
theorem enc_len (k : Nat) : ∀ n, n < 128 ^ (k + 1) → (enc n).length ≤ k + 1 := by
  induction k with
  | zero => intro n h; rw [enc_small n (by simpa using h)]; simp
  | succ k ih =>
    intro n h
    by_cases hn : n < 128
    · rw [enc_small n hn]; simp
    · rw [enc_big n (by omega), List.length_cons]
      have := ih (n / 128) (by rw [Nat.pow_succ] at h; omega)
      omega
theorem enc_len9 (n : Nat) (h : n ≤ 9223372036854775807) : (enc n).length ≤ 9 := enc_len 8 n (by omega)
theorem toNat_low (n : Nat) (h : n < 128) : ((UInt8.ofNat n).toNat : Int) = (n : Int) := by
  rw [UInt8.toNat_ofNat']; omega
theorem toNat_high (n : Nat) : ((UInt8.ofNat (n % 128 + 128)).toNat : Int) = (n : Int) % 128 + 128 := by
  rw [UInt8.toNat_ofNat']; omega
def num (n : Int) : List UInt8 := if 0 ≤ n ∧ n ≤ 1099511627776 then enc n.toNat else []
open Go.RowKit
theorem Tryz.info9 : (Tryz.prog.info? 9).map (fun i => (i.zero, i.size, i.bytes)) = some (some (.string ⟨#[]⟩), 1, 16) := by kernel_rfl
def SV (ss : List ByteArray) : List Value := ss.map Value.string
theorem SV_length (ss : List ByteArray) : (SV ss).length = ss.length := by simp [SV]
theorem SV_append (a b : List ByteArray) : SV (a ++ b) = SV a ++ SV b := by simp [SV]
theorem SV_get (ss : List ByteArray) (i : Nat) (h : i < ss.length) : (SV ss)[i]? = some (.string ss[i]) := by simp [SV, h]
theorem SV_set (ss : List ByteArray) (i : Nat) (s : ByteArray) : SV (ss.set i s) = (SV ss).set i (.string s) := by simp [SV, List.map_set]
def OwnS (w : World) (base : Nat) (v : Value) (ss : List ByteArray) : Prop := w.ownsRow base 9 1 v ss.length (SV ss)
def RdS (w : World) (v : Value) (ss : List ByteArray) : Prop :=
  ∃ a cap, v = .slice a ss.length cap ∧ ss.length ≤ cap ∧ cap ≤ maxLen ∧
    (ss = [] ∨ ∃ b off, a = some ⟨b, off, none⟩ ∧ ∀ i (h : i < ss.length), w.cell? ⟨b, off + i, none⟩ = some (.string ss[i]))
theorem OwnS.rd {w : World} {base : Nat} {v : Value} {ss : List ByteArray} (h : OwnS w base v ss) : RdS w v ss := by
  have h' := h
  rcases h.2 with ⟨rfl, h0⟩ | ⟨g, cap, cur, rfl, hb, hg, hn, hc, hs, ht⟩
  · have : ss = [] := List.length_eq_zero_iff.1 h0
    subst this
    exact ⟨none, 0, rfl, Nat.le_refl _, Nat.zero_le _, .inl rfl⟩
  · refine ⟨some ⟨g, 0, none⟩, cap, rfl, hn, hc, .inr ⟨g, 0, rfl, fun i hi => ?_⟩⟩
    have := h'.cellAt i (by omega)
    rw [SV_get ss i hi] at this
    simpa using this
theorem OwnS.below {w w' : World} {base : Nat} {v : Value} {ss : List ByteArray} (h : OwnS w base v ss) (hb : Below w.heap.size w w') : OwnS w' base v ss := own_below h hb
theorem OwnS.drewN {w : World} {base : Nat} {v : Value} {ss : List ByteArray} (h : OwnS w base v ss) (q : Nat) : OwnS (w.drewN q) base v ss := h
theorem OwnS.mono {w : World} {base base' : Nat} {v : Value} {ss : List ByteArray} (h : OwnS w base v ss) (hb : base' ≤ base) : OwnS w base' v ss := by
  refine ⟨h.1, ?_⟩
  rcases h.2 with h2 | ⟨g, cap, cur, hv, hg, r⟩
  · exact .inl h2
  · exact .inr ⟨g, cap, cur, hv, Nat.le_trans hb hg, r⟩
theorem RdS.below {w w' : World} {v : Value} {ss : List ByteArray} (h : RdS w v ss) (hb : Below w.heap.size w w') : RdS w' v ss := by
  obtain ⟨a, cap, hv, h1, h2, h3⟩ := h
  refine ⟨a, cap, hv, h1, h2, ?_⟩
  rcases h3 with h3 | ⟨b, off, ha, hc⟩
  · exact .inl h3
  · exact .inr ⟨b, off, ha, fun i hi => by rw [hb.cell (World.block_lt_of_cell? w _ (hc i hi))]; exact hc i hi⟩
theorem RdS.drewN {w : World} {v : Value} {ss : List ByteArray} (h : RdS w v ss) (q : Nat) : RdS (w.drewN q) v ss := h
theorem rdS_nil (w : World) : RdS w (.slice none 0 0) [] := ⟨none, 0, rfl, Nat.le_refl _, Nat.zero_le _, .inl rfl⟩
theorem rdS_of {w : World} {x : Addr} {len cap : Nat} {zs : List ByteArray} (hl : len ≤ cap) (hm : cap ≤ maxLen) (hz : zs.length = cap) (hcell : ∀ i, i < zs.length → w.cell? (x.add i) = some (.string (zs.getD i ByteArray.empty))) (hwz : ∀ s ∈ zs, s.size ≤ maxLen) :
    ∃ ss, RdS w (.slice (some x) len cap) ss ∧ ∀ s ∈ ss, s.size ≤ maxLen := by
  refine ⟨zs.take len, ⟨some x, cap, ?_, ?_, hm, ?_⟩, fun s hs => hwz s (List.mem_of_mem_take hs)⟩
  · congr 1; rw [List.length_take]; omega
  · rw [List.length_take]; omega
  · by_cases h0 : len = 0
    · left; subst h0; simp
    · right
      obtain ⟨b, off, spot⟩ := x
      have hc := hcell 0 (by omega)
      have hspot : spot = none := by simpa [Addr.add] using World.cell?_spot hc
      subst hspot
      refine ⟨b, off, rfl, fun i hi => ?_⟩
      have hi' : i < len := by rw [List.length_take] at hi; omega
      have h := hcell i (by omega)
      have hg : zs.getD i ByteArray.empty = zs[i]'(by omega) := by simp [List.getD, List.getElem?_eq_getElem (show i < zs.length by omega)]
      rw [Addr.add_lit] at h
      rw [h, hg]
      simp only [List.getElem_take]
theorem ownS_none (w : World) : OwnS (w.alloc (.cells #[] 9)) w.heap.size (.slice (some ⟨w.heap.size, 0, none⟩) 0 0) [] := World.ownsRow_lit w #[] 0 (Nat.le_refl _) (Nat.zero_le _) rfl
theorem ownS_push {w1 : World} {B : Nat} {v' : Value} {ys : List ByteArray} {x : ByteArray} (h : w1.ownsRow B 9 1 v' (ys.length + 1) (SV ys ++ [.string x])) : OwnS w1 B v' (ys ++ [x]) := by
  have e : SV (ys ++ [x]) = SV ys ++ [.string x] := by simp [SV]
  unfold OwnS
  rw [e, List.length_append]
  exact h
theorem pushS_below {w wr w1 : World} {B B' : Nat} {v : Value} {o : Obj} {ys : List ByteArray} (hown : OwnS wr B' v ys) (hBB : B ≤ B') (hb : Below B w wr) (hB : B ≤ wr.heap.size) (hg : (wr.alloc o).grownBy w1 v.ownBlock) : Below B w w1 :=
  (hb.alloc hB o).grown hg (by simp; omega) (fun k hk => Nat.le_trans hBB (World.ownsRow.lt hown k hk).1)
theorem row_kept {w w' : World} {B : Nat} {e : TypeId} {s : Nat} {v : Value} {n : Nat} {xs : List Value} {row : Option Nat} (h : w.ownsRow B e s v n xs) (hg : w.grownBy w' row) (hd : ∀ k, v.ownBlock = some k → row ≠ some k) : w'.ownsRow B e s v n xs := by
  refine World.ownsRow.kept h hg ?_
  cases hu : v.ownBlock with
  | none => exact .inl rfl
  | some k => exact .inr fun e => hd k hu e.symm

structure Ent where
  key : ByteArray
  val : ByteArray
  seq : Int
  gone : Bool
deriving DecidableEq
instance : Inhabited Ent := ⟨⟨ByteArray.empty, ByteArray.empty, 0, false⟩⟩
def nth (es : List Ent) (i : Nat) : Ent := es.getD i default
theorem nth_eq {es : List Ent} {i : Nat} (h : i < es.length) : nth es i = es[i] := by simp [nth, List.getD, List.getElem?_eq_getElem h]
theorem nth_zero (a : Ent) (r : List Ent) : nth (a :: r) 0 = a := rfl
theorem nth_succ (a : Ent) (r : List Ent) (i : Nat) : nth (a :: r) (i + 1) = nth r i := by simp [nth, List.getD]
def kEq (a b : ByteArray) : Bool := decide (a = b)

def kLt (a b : ByteArray) : Bool := Op.bytesLess a.toList b.toList
theorem bl_irrefl : ∀ x : List UInt8, Op.bytesLess x x = false
  | [] => rfl
  | a :: x => by simp [Op.bytesLess, bl_irrefl x, UInt8.lt_irrefl]
theorem bl_trans : ∀ x y z : List UInt8, Op.bytesLess x y = true → Op.bytesLess y z = true → Op.bytesLess x z = true
  | _, [], _, h, _ => by simp [Op.bytesLess] at h
  | _, _ :: _, [], _, h => by simp [Op.bytesLess] at h
  | [], _ :: _, _ :: _, _, _ => rfl
  | a :: x, b :: y, c :: z, h, k => by
    simp only [Op.bytesLess, Bool.or_eq_true, decide_eq_true_eq, Bool.and_eq_true, beq_iff_eq] at h k ⊢
    rcases h with h | ⟨h, h'⟩ <;> rcases k with k | ⟨k, k'⟩
    · exact .inl (UInt8.lt_trans h k)
    · subst k; exact .inl h
    · subst h; exact .inl k
    · subst h; subst k; exact .inr ⟨rfl, bl_trans x y z h' k'⟩
theorem bl_tri : ∀ x y : List UInt8, Op.bytesLess x y = false → Op.bytesLess y x = false → x = y
  | [], [], _, _ => rfl
  | [], _ :: _, h, _ => by simp [Op.bytesLess] at h
  | _ :: _, [], _, h => by simp [Op.bytesLess] at h
  | a :: x, b :: y, h, k => by
    simp only [Op.bytesLess, Bool.or_eq_false_iff, decide_eq_false_iff_not, Bool.and_eq_false_iff, decide_eq_false_iff_not] at h k
    have hab : a = b := by
      apply UInt8.toNat_inj.1
      have h1 := h.1; have k1 := k.1
      rw [UInt8.lt_iff_toNat_lt] at h1 k1
      omega
    subst hab
    rcases h.2 with h2 | h2
    · simp at h2
    · rcases k.2 with k2 | k2
      · simp at k2
      · rw [bl_tri x y h2 k2]
theorem ba_toList_inj {a b : ByteArray} (h : a.toList = b.toList) : a = b := by
  have e : ∀ c : ByteArray, c.toList = c.data.toList := fun c => ByteArray.toList_eq c
  rw [e, e] at h
  cases a; cases b; simp_all
theorem kLt_irrefl (a : ByteArray) : kLt a a = false := bl_irrefl _
theorem kLt_trans {a b c : ByteArray} (h : kLt a b = true) (k : kLt b c = true) : kLt a c = true := bl_trans _ _ _ h k
theorem kLt_tri {a b : ByteArray} (h : kLt a b = false) (k : kLt b a = false) : a = b := ba_toList_inj (bl_tri _ _ h k)
def ahd (a b : Ent) : Bool := kLt a.key b.key || (kEq a.key b.key && decide (b.seq < a.seq))
def sameKS (a b : Ent) : Bool := kEq a.key b.key && decide (a.seq = b.seq)
theorem ahd_iff (a b : Ent) : ahd a b = true ↔ kLt a.key b.key = true ∨ (a.key = b.key ∧ b.seq < a.seq) := by simp [ahd, kEq]
theorem ahd_trans {a b c : Ent} (h : ahd a b = true) (k : ahd b c = true) : ahd a c = true := by
  rw [ahd_iff] at h k ⊢
  rcases h with h | ⟨h, h'⟩ <;> rcases k with k | ⟨k, k'⟩
  · exact .inl (kLt_trans h k)
  · exact .inl (k ▸ h)
  · exact .inl (h ▸ k)
  · exact .inr ⟨h.trans k, by omega⟩
theorem ahd_irrefl (a : Ent) : ahd a a = false := by simp [ahd, kEq, kLt_irrefl]
theorem ahd_tri {a b : Ent} (h : ahd a b = false) (k : sameKS a b = false) : ahd b a = true := by
  rw [ahd_iff]
  have h1 : kLt a.key b.key = false := by cases e : kLt a.key b.key with | false => rfl | true => simp [ahd, kEq, e] at h
  cases e : kLt b.key a.key with
  | true => exact .inl rfl
  | false =>
    have hk := kLt_tri h1 e
    refine .inr ⟨hk.symm, ?_⟩
    simp [ahd, kEq, hk, kLt_irrefl] at h
    simp [sameKS, kEq, hk] at k
    omega

def cmpK (a b : ByteArray) : Int := if kLt a b = true then -1 else if kLt b a = true then 1 else 0
def cmpI (a b : Int) : Int := if a < b then -1 else if b < a then 1 else 0
def ordE (a b : Ent) : Int := if cmpK a.key b.key ≠ 0 then cmpK a.key b.key else cmpI b.seq a.seq
theorem cmpK_neg (a b : ByteArray) : cmpK a b < 0 ↔ kLt a b = true := by unfold cmpK; split <;> (try split) <;> simp_all
theorem cmpK_zero (a b : ByteArray) : cmpK a b = 0 ↔ a = b := by
  unfold cmpK
  constructor
  · intro h
    split at h
    · omega
    · split at h
      · omega
      · exact kLt_tri (by simp_all) (by simp_all)
  · rintro rfl; simp [kLt_irrefl]
theorem ordE_neg (a b : Ent) : ordE a b < 0 ↔ ahd a b = true := by
  rw [ahd_iff]
  unfold ordE
  by_cases h : cmpK a.key b.key = 0
  · rw [if_neg (by simp [h])]
    have hk := (cmpK_zero _ _).1 h
    rw [hk]
    unfold cmpI
    split
    · simp_all
    · simp [kLt_irrefl]; split <;> omega
  · rw [if_pos h, cmpK_neg]
    have hk : a.key ≠ b.key := fun e => h ((cmpK_zero _ _).2 e)
    simp [hk]
theorem ordE_zero (a b : Ent) : ordE a b = 0 ↔ sameKS a b = true := by
  unfold ordE sameKS
  by_cases h : cmpK a.key b.key = 0
  · rw [if_neg (by simp [h])]
    have hk := (cmpK_zero _ _).1 h
    simp only [hk, kEq, decide_true, Bool.true_and, decide_eq_true_eq]
    unfold cmpI
    split
    · omega
    · split <;> omega
  · rw [if_pos h]
    have hk : a.key ≠ b.key := fun e => h ((cmpK_zero _ _).2 e)
    simp [kEq, hk, h]

def okE (e : Ent) : Bool := decide (1 ≤ e.key.size) && decide (e.key.size ≤ 40) && decide (e.val.size ≤ 200) && (!e.gone || decide (e.val.size = 0)) && decide (1 ≤ e.seq) && decide (e.seq ≤ 1000000)
def okAt (es : List Ent) (i : Nat) : Bool := okE (nth es i) && (decide (i = 0) || ahd (nth es (i - 1)) (nth es i))
def okTo (es : List Ent) (k : Nat) : Bool := (List.range k).all (okAt es)
def okL (es : List Ent) : Bool := decide (es.length ≤ 300) && okTo es es.length
theorem okTo_succ (es : List Ent) (k : Nat) : okTo es (k + 1) = (okTo es k && okAt es k) := by simp [okTo, List.range_succ]
theorem okTo_at {es : List Ent} {k i : Nat} (h : okTo es k = true) (hi : i < k) : okAt es i = true := by
  rw [okTo, List.all_eq_true] at h; exact h i (List.mem_range.2 hi)
theorem okTo_no {es : List Ent} {k i : Nat} (hi : i < k) (h : okAt es i = false) : okTo es k = false := by
  cases e : okTo es k with
  | false => rfl
  | true => rw [okTo_at e hi] at h; cases h
theorem okL_no_at {es : List Ent} {i : Nat} (hi : i < es.length) (h : okAt es i = false) : okL es = false := by
  unfold okL; rw [okTo_no hi h]; simp
theorem okL_len {es : List Ent} (h : okL es = true) : es.length ≤ 300 := by simp [okL] at h; exact h.1
theorem okL_to {es : List Ent} (h : okL es = true) : okTo es es.length = true := by simp [okL] at h; exact h.2
theorem okL_ent {es : List Ent} (h : okL es = true) {i : Nat} (hi : i < es.length) : okE (nth es i) = true := by
  have := okTo_at (okL_to h) hi; simp [okAt] at this; exact this.1
theorem okL_next {es : List Ent} (h : okL es = true) {i : Nat} (hi : i + 1 < es.length) : ahd (nth es i) (nth es (i + 1)) = true := by
  have := okTo_at (okL_to h) hi; simp [okAt] at this; simpa using this.2
theorem okL_lt {es : List Ent} (h : okL es = true) : ∀ (d i : Nat), i + d + 1 < es.length → ahd (nth es i) (nth es (i + d + 1)) = true
  | 0, i, hi => okL_next h hi
  | d + 1, i, hi => ahd_trans (okL_lt h d i (by omega)) (okL_next h hi)
theorem okL_ij {es : List Ent} (h : okL es = true) {i j : Nat} (hij : i < j) (hj : j < es.length) : ahd (nth es i) (nth es j) = true := by
  obtain ⟨d, rfl⟩ : ∃ d, j = i + d + 1 := ⟨j - i - 1, by omega⟩
  exact okL_lt h d i hj
theorem okL_iff (es : List Ent) : okL es = true ↔ es.length ≤ 300 ∧ (∀ e ∈ es, okE e = true) ∧ es.Pairwise (fun a b => ahd a b = true) := by
  constructor
  · intro h
    refine ⟨okL_len h, fun e he => ?_, ?_⟩
    · obtain ⟨i, hi, rfl⟩ := List.getElem_of_mem he
      have := okL_ent h hi
      rwa [nth_eq hi] at this
    · rw [List.pairwise_iff_getElem]
      intro i j hi hj hij
      have := okL_ij h hij hj
      rwa [nth_eq hi, nth_eq hj] at this
  · rintro ⟨h1, h2, h3⟩
    rw [List.pairwise_iff_getElem] at h3
    simp only [okL, okTo, Bool.and_eq_true, decide_eq_true_eq, List.all_eq_true, List.mem_range]
    refine ⟨h1, fun i hi => ?_⟩
    simp only [okAt, Bool.and_eq_true, Bool.or_eq_true, decide_eq_true_eq]
    refine ⟨by rw [nth_eq hi]; exact h2 _ (List.getElem_mem hi), ?_⟩
    by_cases h0 : i = 0
    · exact .inl h0
    · right
      rw [nth_eq hi, nth_eq (show i - 1 < es.length by omega)]
      exact h3 _ _ (by omega) hi (by omega)

def atE (es : List Ent) (t : Ent) : Nat := (es.takeWhile (fun a => ahd a t)).length
theorem atE_le (es : List Ent) (t : Ent) : atE es t ≤ es.length := by
  unfold atE; exact (List.takeWhile_sublist _).length_le
theorem tw_get (p : Ent → Bool) : ∀ (es : List Ent) (i : Nat), i < (es.takeWhile p).length → p (nth es i) = true
  | [], i, h => by simp at h
  | a :: r, i, h => by
    rw [List.takeWhile_cons] at h
    split at h
    · rename_i ha
      match i, h with
      | 0, _ => exact ha
      | i + 1, h => rw [nth_succ]; exact tw_get p r i (by simpa using h)
    · simp at h
theorem tw_stop (p : Ent → Bool) : ∀ (es : List Ent), (es.takeWhile p).length < es.length → p (nth es ((es.takeWhile p).length)) = false
  | [], h => by simp at h
  | a :: r, h => by
    rw [List.takeWhile_cons] at h ⊢
    split at h
    · rename_i ha
      rw [if_pos ha]
      rw [List.length_cons, nth_succ]; exact tw_stop p r (by simpa using h)
    · rename_i ha
      rw [if_neg ha]
      rw [List.length_nil, nth_zero]; simpa using ha
theorem atE_lo (es : List Ent) (t : Ent) {i : Nat} (h : i < atE es t) : ahd (nth es i) t = true := tw_get _ es i h
theorem atE_hi {es : List Ent} (hs : okL es = true) (t : Ent) {i : Nat} (h : atE es t ≤ i) (hi : i < es.length) : ahd (nth es i) t = false := by
  have h0 := tw_stop (fun a => ahd a t) es (show atE es t < es.length by omega)
  change ahd (nth es (atE es t)) t = false at h0
  by_cases he : atE es t = i
  · rw [← he]; exact h0
  · cases e : ahd (nth es i) t with
    | false => rfl
    | true => rw [ahd_trans (okL_ij hs (by omega) hi) e] at h0; cases h0
def hasKS (es : List Ent) (e : Ent) : Bool := es.any (fun a => sameKS a e)
theorem has_at {es : List Ent} (hs : okL es = true) (t : Ent) : hasKS es t = (decide (atE es t < es.length) && sameKS (nth es (atE es t)) t) := by
  rw [Bool.eq_iff_iff]
  simp only [hasKS, List.any_eq_true, Bool.and_eq_true, decide_eq_true_eq]
  constructor
  · rintro ⟨a, ha, hk⟩
    obtain ⟨i, hi, rfl⟩ := List.getElem_of_mem ha
    have hk' : sameKS (nth es i) t = true := by rw [nth_eq hi]; exact hk
    have hna : ahd (nth es i) t = false := by
      simp [sameKS, kEq] at hk'
      simp [ahd, kEq, hk'.1, hk'.2, kLt_irrefl]
    have hle : atE es t ≤ i := by
      rcases Nat.lt_or_ge i (atE es t) with h | h
      · rw [atE_lo es t h] at hna; cases hna
      · exact h
    by_cases he : atE es t = i
    · exact ⟨by omega, by rw [he]; exact hk'⟩
    · exfalso
      have h1 := okL_ij hs (show atE es t < i by omega) hi
      have h2 := atE_hi hs t (Nat.le_refl _) (show atE es t < es.length by omega)
      have h3 : ahd (nth es (atE es t)) t = ahd (nth es (atE es t)) (nth es i) := by
        simp [sameKS, kEq] at hk'
        simp [ahd, kEq, hk'.1, hk'.2]
      rw [h3, h1] at h2; cases h2
  · rintro ⟨h1, h2⟩
    exact ⟨nth es (atE es t), by rw [nth_eq h1]; exact List.getElem_mem h1, h2⟩

def seenP (k : ByteArray) (q : Int) (e : Ent) : Bool := kEq e.key k && decide (e.seq ≤ q)
def seenL (es : List Ent) (k : ByteArray) (q : Int) : Option Ent := es.find? (seenP k q)
def zeroE : Ent := ⟨⟨#[]⟩, ⟨#[]⟩, 0, false⟩
theorem seenL_scan (es : List Ent) (k : ByteArray) (q : Int) (i : Nat) (hi : i < es.length) (h1 : ∀ j, j < i → seenP k q (nth es j) = false) (h2 : seenP k q (nth es i) = true) : seenL es k q = some (nth es i) := by
  unfold seenL
  rw [List.find?_eq_some_iff_getElem]
  refine ⟨h2, i, hi, by rw [nth_eq hi], fun j hj => ?_⟩
  have := h1 j hj
  rw [nth_eq (by omega)] at this
  simp [this]
theorem seenL_none (es : List Ent) (k : ByteArray) (q : Int) (h1 : ∀ j, j < es.length → seenP k q (nth es j) = false) : seenL es k q = none := by
  unfold seenL
  rw [List.find?_eq_none]
  intro a ha
  obtain ⟨i, hi, rfl⟩ := List.getElem_of_mem ha
  have := h1 i hi
  rw [nth_eq hi] at this
  simp [this]
theorem seen_at {es : List Ent} (hs : okL es = true) (k : ByteArray) (q : Int) (t : Ent) (hk : t.key = k) (hq : t.seq = q) :
    seenL es k q = if atE es t < es.length ∧ (nth es (atE es t)).key = k then some (nth es (atE es t)) else none := by
  have hlo : ∀ j, j < atE es t → seenP k q (nth es j) = false := by
    intro j hj
    have := atE_lo es t hj
    rw [ahd_iff, hk, hq] at this
    rcases this with h | ⟨h, h'⟩
    · have hne : (nth es j).key ≠ k := fun e => by rw [e, kLt_irrefl] at h; cases h
      simp [seenP, kEq, hne]
    · simp [seenP, kEq]; intro _; omega
  split
  · rename_i h
    refine seenL_scan es k q _ h.1 hlo ?_
    have h2 := atE_hi hs t (Nat.le_refl _) h.1
    simp [ahd, kEq, hk, hq, h.2, kLt_irrefl] at h2
    simp [seenP, kEq, h.2]; omega
  · rename_i h
    refine seenL_none es k q fun j hj => ?_
    rcases Nat.lt_or_ge j (atE es t) with h1 | h1
    · exact hlo j h1
    · have h2 := atE_hi hs t h1 hj
      have hne : (nth es j).key ≠ k := by
        intro e
        apply h
        refine ⟨by omega, ?_⟩
        by_cases hje : atE es t = j
        · rw [hje]; exact e
        · have h3 := okL_ij hs (show atE es t < j by omega) hj
          have h4 := atE_hi hs t (Nat.le_refl _) (show atE es t < es.length by omega)
          rw [ahd_iff] at h3
          rcases h3 with h3 | h3
          · rw [e, ← hk] at h3
            simp [ahd, kEq, h3] at h4
          · rw [h3.1, e]
      simp [seenP, kEq, hne]
end Go.Proofs.YtbefmbjlogkmbaaGreat
