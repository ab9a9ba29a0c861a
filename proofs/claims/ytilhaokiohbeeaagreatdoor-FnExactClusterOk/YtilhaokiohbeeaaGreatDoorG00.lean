/- Plain facts on bytes, on rows of bytes that a call owns or reads, and on the numbers that are written seven bits to a byte; no function of the program is walked here. Plain facts on rows of bytes and on conversions between bytes and texts, over this program's own types; no function of the program is walked here. The decimal digits of a number: the contract of the model's writer. The decimal digits of a number: the contract of the library's writer (at base 10). What the row's list of tables gives the walks: the library's powers of ten. Plain facts on rows of texts that a call owns or reads. -/
import Derived.Test.YtilhaokiohbeeaaGreatDoorChecked
import Derived.WalkKit
import Derived.WalkSmall
import Derived.OpenShut
import Derived.Deep.DeepMust
import Derived.Deep.DeepFit
import Derived.Laws.IdiomStrings
import Derived.Laws.BytesArg
import Derived.Lib.ConvBytes
import Derived.Lib.ItoaNum
import Derived.Lib.ItoaLen
import Derived.Lib.AppendIntMem
import Derived.Test.YtilhaokiohbeeaaGreatDoorShelf
import Derived.Test.YtilhaokiohbeeaaGreatDoorRows
import Derived.Stop.LaidErr
import Derived.LaidMore
namespace Go.Proofs.YtilhaokiohbeeaaGreatDoor
open Go.RowKit

def BV (bs : List UInt8) : List Value := bs.map fun b : UInt8 => Value.int .u8 (b.toNat : Int)
theorem BV_length (bs : List UInt8) : (BV bs).length = bs.length := by simp [BV]
theorem BV_append (a b : List UInt8) : BV (a ++ b) = BV a ++ BV b := by simp [BV]
theorem BV_get (bs : List UInt8) (i : Nat) (h : i < bs.length) : (BV bs)[i]? = some (.int .u8 (bs[i].toNat : Int)) := by simp [BV, h]

/-- The slice v is the call's own (its block is at least number base) and holds the bytes bs. -/
def Own (w : World) (base : Nat) (v : Value) (bs : List UInt8) : Prop := w.ownsRow base 5 1 v bs.length (BV bs)
/-- The slice v can be read and holds the bytes bs. -/
def Rd (w : World) (v : Value) (bs : List UInt8) : Prop :=
  ∃ a cap, v = .slice a bs.length cap ∧ bs.length ≤ cap ∧ cap ≤ maxLen ∧
    (bs = [] ∨ ∃ b off, a = some ⟨b, off, none⟩ ∧ ∀ i (h : i < bs.length), w.cell? ⟨b, off + i, none⟩ = some (.int .u8 (bs[i].toNat : Int)))

theorem Own.rd {w : World} {base : Nat} {v : Value} {bs : List UInt8} (h : Own w base v bs) : Rd w v bs := by
  have h' := h
  rcases h.2 with ⟨rfl, h0⟩ | ⟨g, cap, cur, rfl, hb, hg, hn, hc, hs, ht⟩
  · have : bs = [] := List.length_eq_zero_iff.1 h0
    subst this
    exact ⟨none, 0, rfl, Nat.le_refl _, Nat.zero_le _, .inl rfl⟩
  · refine ⟨some ⟨g, 0, none⟩, cap, rfl, hn, hc, .inr ⟨g, 0, rfl, fun i hi => ?_⟩⟩
    have := h'.cellAt i (by omega)
    rw [BV_get bs i hi] at this
    simpa using this
theorem own_below {w w' : World} {base : Nat} {e : TypeId} {s : Nat} {v : Value} {n : Nat} {xs : List Value} (h : w.ownsRow base e s v n xs) (hb : Below w.heap.size w w') : w'.ownsRow base e s v n xs := by
  refine ⟨h.1, ?_⟩
  rcases h.2 with h2 | ⟨g, cap, cur, hv, hg, hh, r⟩
  · exact .inl h2
  · exact .inr ⟨g, cap, cur, hv, hg, by rw [hb.block g (Array.getElem?_eq_some_iff.1 hh).1]; exact hh, r⟩
theorem Own.below {w w' : World} {base : Nat} {v : Value} {bs : List UInt8} (h : Own w base v bs) (hb : Below w.heap.size w w') : Own w' base v bs := own_below h hb
theorem Own.drewN {w : World} {base : Nat} {v : Value} {bs : List UInt8} (h : Own w base v bs) (q : Nat) : Own (w.drewN q) base v bs := h
theorem Own.mono {w : World} {base base' : Nat} {v : Value} {bs : List UInt8} (h : Own w base v bs) (hb : base' ≤ base) : Own w base' v bs := by
  refine ⟨h.1, ?_⟩
  rcases h.2 with h2 | ⟨g, cap, cur, hv, hg, r⟩
  · exact .inl h2
  · exact .inr ⟨g, cap, cur, hv, Nat.le_trans hb hg, r⟩
theorem Rd.below {w w' : World} {v : Value} {bs : List UInt8} (h : Rd w v bs) (hb : Below w.heap.size w w') : Rd w' v bs := by
  obtain ⟨a, cap, hv, h1, h2, h3⟩ := h
  refine ⟨a, cap, hv, h1, h2, ?_⟩
  rcases h3 with h3 | ⟨b, off, ha, hc⟩
  · exact .inl h3
  · exact .inr ⟨b, off, ha, fun i hi => by rw [hb.cell (World.block_lt_of_cell? w _ (hc i hi))]; exact hc i hi⟩
theorem Rd.drewN {w : World} {v : Value} {bs : List UInt8} (h : Rd w v bs) (q : Nat) : Rd (w.drewN q) v bs := h
theorem Rd.shape {w : World} {v : Value} {bs : List UInt8} (h : Rd w v bs) : ∃ a cap, v = .slice a bs.length cap := ⟨h.choose, h.choose_spec.choose, h.choose_spec.choose_spec.1⟩

theorem rd_nil (w : World) : Rd w (.slice none 0 0) [] := ⟨none, 0, rfl, Nat.le_refl _, Nat.zero_le _, .inl rfl⟩
theorem byte_of {n : Int} (h : (Lit.int .u8 n).wf = true) : ((UInt8.ofNat n.toNat).toNat : Int) = n := by
  have h1 := bounds_u8 h
  rw [UInt8.toNat_ofNat']; omega
/-- A slice of bytes that came in: its first len numbers are bytes. -/
theorem rd_of {w : World} {x : Addr} {len cap : Nat} {zs : List Int} (hl : len ≤ cap) (hm : cap ≤ maxLen) (hz : zs.length = cap) (hcell : ∀ i, i < zs.length → w.cell? (x.add i) = some (.int .u8 (zs.getD i 0))) (hwz : ∀ n ∈ zs, (Lit.int .u8 n).wf = true) :
    ∃ bs, Rd w (.slice (some x) len cap) bs := by
  refine ⟨(zs.take len).map fun n => UInt8.ofNat n.toNat, some x, cap, ?_, ?_, hm, ?_⟩
  · congr 1; rw [List.length_map, List.length_take]; omega
  · rw [List.length_map, List.length_take]; omega
  · by_cases h0 : len = 0
    · left; subst h0; simp
    · right
      obtain ⟨b, off, spot⟩ := x
      have hc := hcell 0 (by omega)
      have hspot : spot = none := by simpa [Addr.add] using World.cell?_spot hc
      subst hspot
      refine ⟨b, off, rfl, fun i hi => ?_⟩
      have hi' : i < len := by rw [List.length_map, List.length_take] at hi; omega
      have h := hcell i (by omega)
      have hg : zs.getD i 0 = zs[i]'(by omega) := by simp [List.getD, List.getElem?_eq_getElem (show i < zs.length by omega)]
      rw [Addr.add_lit] at h
      rw [h, hg]
      simp only [List.getElem_map, List.getElem_take]
      rw [byte_of (hwz _ (List.getElem_mem (by omega)))]
/-- Behind an append of one byte. -/
theorem own_push {w1 : World} {B : Nat} {v' : Value} {ys : List UInt8} {x : Int} (b : UInt8) (hx : x = (b.toNat : Int)) (h : w1.ownsRow B 5 1 v' (ys.length + 1) (BV ys ++ [.int .u8 x])) : Own w1 B v' (ys ++ [b]) := by
  subst hx
  have e : BV (ys ++ [b]) = BV ys ++ [.int .u8 (b.toNat : Int)] := by simp [BV]
  unfold Own
  rw [e, List.length_append]
  exact h
theorem push_below {w wr w1 : World} {B : Nat} {v : Value} {o : Obj} {ys : List UInt8} (hown : Own wr B v ys) (hb : Below B w wr) (hB : B ≤ wr.heap.size) (hg : (wr.alloc o).grownBy w1 v.ownBlock) : Below B w w1 :=
  (hb.alloc hB o).grown hg (by simp; omega) (fun k hk => (World.ownsRow.lt hown k hk).1)
theorem one_new (w : World) (x : Value) (t : TypeId) : ∀ j u, [x][j]? = some u → (w.alloc (.cells #[x] t)).cell? ((⟨w.heap.size, 0, none⟩ : Addr).add j) = some u := by
  intro j u hj
  match j, hj with
  | 0, hj => simp at hj; subst hj; simp [Addr.add]

/-- A number written seven bits to a byte. -/
def enc (n : Nat) : List UInt8 := if h : n < 128 then [UInt8.ofNat n] else UInt8.ofNat (n % 128 + 128) :: enc (n / 128)
theorem enc_small (n : Nat) (h : n < 128) : enc n = [UInt8.ofNat n] := by rw [enc, dif_pos h]
theorem enc_big (n : Nat) (h : 128 ≤ n) : enc n = UInt8.ofNat (n % 128 + 128) :: enc (n / 128) := by rw [enc, dif_neg (by omega)]
theorem enc_len (k : Nat) : ∀ n, n < 128 ^ (k + 1) → (enc n).length ≤ k + 1 := by
  induction k with
  | zero => intro n h; rw [enc_small n (by simpa using h)]; simp
  | succ k ih =>
    intro n h
    by_cases hn : n < 128
    · rw [enc_small n hn]; simp
    · rw [enc_big n (by omega), List.length_cons]
      have := ih (n / 128) (by rw [Nat.pow_succ] at h; omega)
      omega
theorem enc_len9 (n : Nat) (h : n ≤ 9223372036854775807) : (enc n).length ≤ 9 := enc_len 8 n (by omega)
theorem toNat_low (n : Nat) (h : n < 128) : ((UInt8.ofNat n).toNat : Int) = (n : Int) := by
  rw [UInt8.toNat_ofNat']; omega
theorem toNat_high (n : Nat) : ((UInt8.ofNat (n % 128 + 128)).toNat : Int) = (n : Int) % 128 + 128 := by
  rw [UInt8.toNat_ofNat']; omega
/-- What Number writes: nothing out of range. -/
def num (n : Int) : List UInt8 := if 0 ≤ n ∧ n ≤ 1099511627776 then enc n.toNat else []
end Go.Proofs.YtilhaokiohbeeaaGreatDoor
namespace Go.Proofs.YtilhaokiohbeeaaGreatDoor
open Go.RowKit
theorem Tryz.info5 : (Tryz.prog.info? 5).map (fun i => (i.zero, i.size, i.bytes)) = some (some (.int .u8 0), 1, 1) := by kernel_rfl
theorem own_none (w : World) : Own (w.alloc (.cells #[] 5)) w.heap.size (.slice (some ⟨w.heap.size, 0, none⟩) 0 0) [] := World.ownsRow_lit w #[] 0 (Nat.le_refl _) (Nat.zero_le _) rfl
theorem size_length (s : ByteArray) : s.data.toList.length = s.size := by rw [Array.length_toList]; rfl
theorem conv_at (w : World) (b o n c : Nat) (l : List UInt8) (hl : l.length = n) (hc : ∀ j (hj : j < l.length), w.cell? ⟨b, o + j, none⟩ = some (.int .u8 (l[j].toNat : Int))) :
    (convert 22 9 (.slice (some ⟨b, o, none⟩) n c)).run Tryz.prog w = .ok (.string ⟨l.toArray⟩) w := by
  subst hl
  exact run_convert_bytes_back w 22 9 5 ⟨b, o, none⟩ c l Tryz.underlying22 Tryz.underlying5 Tryz.underlying9 (fun j hj => by rw [Addr.add_lit]; exact hc j hj)
/-- A row of bytes of the call's own, as a text. -/
theorem conv_own {w : World} {B : Nat} {v : Value} {bs : List UInt8} (h : Own w B v bs) : (convert 22 9 v).run Tryz.prog w = .ok (.string ⟨bs.toArray⟩) w := by
  rcases h.2 with ⟨rfl, h0⟩ | ⟨g, cap, cur, rfl, _⟩
  · have : bs = [] := List.length_eq_zero_iff.1 h0
    subst this
    exact run_convert_bytes_nil w 22 5 Tryz.underlying22 Tryz.underlying5 0 0 9 Tryz.underlying9
  · refine conv_at w g 0 bs.length cap bs rfl fun j hj => ?_
    have := World.ownsRow.cellAt h j (by omega)
    rw [BV_get bs j hj] at this
    rw [Nat.zero_add]
    exact this
theorem some_byte (x : Int) (h0 : 0 ≤ x) (h1 : x < 256) : x = ((UInt8.ofNat x.toNat).toNat : Int) := by rw [UInt8.toNat_ofNat']; omega
theorem dig_toNat (k : Nat) : ((UInt8.ofNat (48 + k % 10)).toNat : Int) = 48 + (k : Int) % 10 := by
  rw [UInt8.toNat_ofNat']; omega
theorem conv_one (w : World) (b : UInt8) (x : Int) (hx : (b.toNat : Int) = x) :
    (convert 22 9 (.slice (some ⟨w.heap.size, 0, none⟩) 1 1)).run Tryz.prog (w.alloc (.cells #[.int .u8 x] 5)) = .ok (.string ⟨#[b]⟩) (w.alloc (.cells #[.int .u8 x] 5)) := by
  refine conv_at _ w.heap.size 0 1 1 [b] rfl fun j hj => ?_
  have : j = 0 := by simpa using hj
  subst this
  simp [hx]
theorem madeB (n : Nat) : (madeCells #[Value.int .u8 0] n).toList = BV (List.replicate n 0) := by
  rw [toList_madeCells_one]
  simp [BV]
theorem conv_bytes (w : World) (s : ByteArray) : (convert 9 22 (.string s)).run Tryz.prog w = .ok (.slice (some ⟨w.heap.size, 0, none⟩) s.size (grownCap w s.size 0 5)) (Lib.bytesWorld w 5 s) :=
  Lib.run_convert_string_bytes w 9 22 5 s Tryz.underlying9 Tryz.underlying22 Tryz.underlying5
theorem bytes_rd (w : World) (s : ByteArray) (hs : s.size ≤ maxLen) : Rd (Lib.bytesWorld w 5 s) (.slice (some ⟨w.heap.size, 0, none⟩) s.size (grownCap w s.size 0 5)) s.data.toList := by
  have hl := size_length s
  refine ⟨_, _, by rw [hl], by rw [hl]; exact grownCap_ge w s.size 0 _, grownCap_le_maxLen w s.size 0 _ hs, .inr ⟨w.heap.size, 0, rfl, fun i hi => ?_⟩⟩
  rw [Nat.zero_add, Lib.bytesWorld_cell w _ s i (by omega)]
  simp [List.getD, List.getElem?_eq_getElem hi]
theorem bytes_below (w : World) (s : ByteArray) : Below w.heap.size w (Lib.bytesWorld w 5 s) :=
  ⟨rfl, rfl, rfl, by rw [Lib.bytesWorld_size]; omega, fun k hk => Lib.bytesWorld_at_old w _ s k hk⟩
theorem own_some {w : World} {B : Nat} {v : Value} {bs : List UInt8} (h : Own w B v bs) (hn : bs ≠ []) : ∃ g cap, v = .slice (some ⟨g, 0, none⟩) bs.length cap ∧ ∀ j u, (BV bs)[j]? = some u → w.cell? ((⟨g, 0, none⟩ : Addr).add j) = some u := by
  rcases h.2 with ⟨_, h0⟩ | ⟨g, cap, cur, hv, _⟩
  · exact absurd (List.length_eq_zero_iff.1 h0) hn
  · exact ⟨g, cap, hv, World.ownsRow.cells h (by rw [hv]; rfl)⟩
theorem BV_oneCell (bs : List UInt8) : ∀ u ∈ BV bs, u.oneCell' = true := by
  intro u hu
  obtain ⟨_, _, rfl⟩ := List.mem_map.1 hu
  rfl
theorem own_more {w1 : World} {B : Nat} {v' : Value} {ys zs : List UInt8} (h : w1.ownsRow B 5 1 v' (ys.length + zs.length) (BV ys ++ BV zs)) : Own w1 B v' (ys ++ zs) := by
  unfold Own
  rw [BV_append, List.length_append]
  exact h

end Go.Proofs.YtilhaokiohbeeaaGreatDoor
namespace Go.Proofs.YtilhaokiohbeeaaGreatDoor
open Go.RowKit
/-- A number in decimal digits, as a text. -/
def itoaS (n : Int) : ByteArray := ⟨(Lib.itoa n).toArray⟩
/-- The digits that are still to be written, of u: none of 0. -/
def left (u : Nat) : List UInt8 := if u = 0 then [] else Lib.decDigits u
theorem dec_left (u : Nat) : Lib.decDigits u = left (u / 10) ++ [UInt8.ofNat (48 + u % 10)] := by
  unfold left
  by_cases h : u < 10
  · rw [if_pos (by omega), Lib.decDigits, dif_pos h, Nat.mod_eq_of_lt h]; rfl
  · rw [if_neg (by omega), Lib.decDigits, dif_neg h]
def sizeV : Value → Nat
  | .string s => s.size
  | _ => 0
theorem left_step (u : Nat) (h : 0 < u) : left u = left (u / 10) ++ [UInt8.ofNat (48 + u % 10)] := by
  rw [← dec_left, left, if_neg (by omega)]
theorem dec_len (n : Nat) (h : n ≤ 9223372036854775808) : (Lib.decDigits n).length ≤ 21 := by
  by_cases h0 : n = 0
  · subst h0; rw [Lib.decDigits_length, Lib.nDigits_small (by omega)]; omega
  · have := Lib.itoa_length_le (-(n : Int)) (by omega) (by omega)
    rw [Lib.itoa_neg n (by omega), List.length_cons] at this
    omega
/-- What is still to be written, where ys is written. -/
def todo (u : Nat) (ys : List UInt8) : List UInt8 := if ys = [] then Lib.decDigits u else left u ++ ys
theorem todo_step (u : Nat) (ys : List UInt8) (h : ys = [] ∨ 0 < u) : todo u ys = left (u / 10) ++ (UInt8.ofNat (48 + u % 10) :: ys) := by
  unfold todo
  by_cases hy : ys = []
  · rw [if_pos hy, dec_left, hy]
  · rw [if_neg hy, left_step u (by rcases h with h | h; exact absurd h hy; exact h), List.append_assoc]; rfl
theorem todo_len (u : Nat) (ys : List UInt8) : ys.length ≤ (todo u ys).length := by
  unfold todo
  by_cases hy : ys = []
  · rw [if_pos hy, hy]; simp
  · rw [if_neg hy, List.length_append]; omega
set_option maxHeartbeats 400000 in
set_option maxRecDepth 100000 in
theorem l2Int_pos (n : Nat) (w : World) (h1 : n ≤ 9223372036854775807) :
    Calls Tryz.prog 169 #[.int .i64 n] w fun e w' => e = .returned (.string ⟨(Lib.decDigits n).toArray⟩) ∧ Below w.heap.size w w' := by
  have hL := dec_len n (by omega)
  generalize hR : Lib.decDigits n = R at hL
  have HR : Hid (Lib.decDigits n = R) := hR
  clear hR
  go_enter Tryz.func169, Tryz.ntmps169
  go_wp2
  go_loopw [0, 3, 5] (fun nn v _ wr => ∃ (u : Nat) (ys : List UInt8), nn = .int .i64 u ∧ u ≤ 9223372036854775807 ∧ v = .string ⟨ys.toArray⟩ ∧ Hid (todo u ys = R) ∧ Below w.heap.size w wr) (fun nn v _ _ => 2 * (intOf nn).toNat + (1 - sizeV v))
  case atStart => exact ⟨n, [], rfl, h1, rfl, HR.out, Below.refl _ _⟩
  case round =>
    obtain ⟨u, ys, rfl, hu, rfl, he, hb⟩ := hrel
    have hs := hb.size
    have hyl := todo_len u ys
    rw [he.out] at hyl
    have hcv := conv_one wr (UInt8.ofNat (48 + u % 10)) (48 + (u : Int) % 10) (dig_toNat u)
    by_cases hgo : ys = [] ∨ 0 < u
    · have hstep := todo_step u ys hgo
      generalize hd : UInt8.ofNat (48 + u % 10) = d at hcv hstep
      have hadd : ∀ w', (Op.stringOp .add ⟨#[d]⟩ ⟨ys.toArray⟩).run Tryz.prog w' = .ok (.string ⟨(d :: ys).toArray⟩) w' := fun w' => run_string_add_lists w' [d] ys (by simp) (by omega)
      have HE : Hid (todo (u / 10) (d :: ys) = R) := by
        show _ = _
        rw [← he.out, hstep]
        unfold todo
        rw [if_neg (by simp)]
      have R2 : Below w.heap.size w (wr.alloc (.cells #[.int .u8 (48 + (u : Int) % 10)] 5)) := hb.alloc hs _
      clear hd he hb hstep HR hL hyl
      by_cases hy : ys = []
      · subst hy
        go_wp2
        go_roundw
        case rel => exact ⟨u / 10, [d], by go_num, by omega, rfl, HE, R2⟩
        case measure => simp [intOf, sizeV, ByteArray.size]; omega
      · have hie : ys.isEmpty = false := by simpa using hy
        have hu0 : ((u : Int) != 0) = true := by simp; rcases hgo with h | h; exact absurd h hy; omega
        have hu1 : 0 < u := by rcases hgo with h | h; exact absurd h hy; exact h
        clear hgo
        go_wp2
        go_roundw
        case rel => exact ⟨u / 10, d :: ys, by go_num, by omega, by simp, HE, R2⟩
        case measure => simp [intOf, sizeV, ByteArray.size]; omega
    · have hy : ys ≠ [] := fun h => hgo (.inl h)
      have hu1 : u = 0 := by omega
      subst hu1
      have hie : ys.isEmpty = false := by simpa using hy
      have hu0 : (((0 : Nat) : Int) != 0) = false := by simp
      have HE : Hid (ys = R) := by
        show _ = _
        rw [← he.out]
        unfold todo left
        rw [if_neg hy]; simp
      clear he hgo hcv
      go_wp2
      go_ret
      exact ⟨by rw [HE.out]; rfl, hb⟩
set_option maxHeartbeats 400000 in
set_option maxRecDepth 100000 in
theorem l2Int_neg (n : Nat) (w : World) (h0 : 0 < n) (h1 : n ≤ 9223372036854775808) :
    Calls Tryz.prog 169 #[.int .i64 (-(n : Int))] w fun e w' => e = .returned (.string ⟨(45 :: Lib.decDigits n).toArray⟩) ∧ Below w.heap.size w w' := by
  have hL := dec_len n (by omega)
  generalize hR : Lib.decDigits n = R at hL
  have HR : Hid (Lib.decDigits n = R) := hR
  clear hR
  go_enter Tryz.func169, Tryz.ntmps169
  go_wp2
  go_loopw [0, 3, 5] (fun nn v _ wr => ∃ (u : Nat) (ys : List UInt8), nn = .int .i64 (-(u : Int)) ∧ u ≤ 9223372036854775808 ∧ v = .string ⟨ys.toArray⟩ ∧ Hid (todo u ys = R) ∧ Below w.heap.size w wr) (fun nn v _ _ => 2 * (intOf nn).natAbs + (1 - sizeV v))
  case atStart => exact ⟨n, [], rfl, h1, rfl, HR.out, Below.refl _ _⟩
  case round =>
    obtain ⟨u, ys, rfl, hu, rfl, he, hb⟩ := hrel
    have hs := hb.size
    have hyl := todo_len u ys
    rw [he.out] at hyl
    obtain ⟨x, hx, hxz⟩ : ∃ x : Int, ((UInt8.ofNat (48 + u % 10)).toNat : Int) = x ∧ x = (if 0 < (u : Int) % 10 then 48 + (u : Int) % 10 else 48 + -((u : Int) % 10)) := by
      refine ⟨_, rfl, ?_⟩
      rw [dig_toNat]
      split <;> omega
    have hcv := conv_one wr (UInt8.ofNat (48 + u % 10)) x hx
    by_cases hgo : ys = [] ∨ 0 < u
    · have hstep := todo_step u ys hgo
      generalize hd : UInt8.ofNat (48 + u % 10) = d at hcv hstep
      have hadd : ∀ w', (Op.stringOp .add ⟨#[d]⟩ ⟨ys.toArray⟩).run Tryz.prog w' = .ok (.string ⟨(d :: ys).toArray⟩) w' := fun w' => run_string_add_lists w' [d] ys (by simp) (by omega)
      have HE : Hid (todo (u / 10) (d :: ys) = R) := by
        show _ = _
        rw [← he.out, hstep]
        unfold todo
        rw [if_neg (by simp)]
      have R2 : Below w.heap.size w (wr.alloc (.cells #[.int .u8 x] 5)) := hb.alloc hs _
      clear hd he hb hstep HR hL hyl hx
      by_cases hz : 0 < (u : Int) % 10
      · rw [if_pos hz] at hxz
        subst hxz
        by_cases hy : ys = []
        · subst hy
          go_wp2
          go_roundw
          case rel => exact ⟨u / 10, [d], by go_num, by omega, rfl, HE, R2⟩
          case measure => simp [intOf, sizeV, ByteArray.size]; omega
        · have hie : ys.isEmpty = false := by simpa using hy
          have hu0 : ((-(u : Int)) != 0) = true := by simp; rcases hgo with h | h; exact absurd h hy; omega
          have hu1 : 0 < u := by rcases hgo with h | h; exact absurd h hy; exact h
          clear hgo
          go_wp2
          go_roundw
          case rel => exact ⟨u / 10, d :: ys, by go_num, by omega, by simp, HE, R2⟩
          case measure => simp [intOf, sizeV, ByteArray.size]; omega
      · rw [if_neg hz] at hxz
        subst hxz
        by_cases hy : ys = []
        · subst hy
          go_wp2
          go_roundw
          case rel => exact ⟨u / 10, [d], by go_num, by omega, rfl, HE, R2⟩
          case measure => simp [intOf, sizeV, ByteArray.size]; omega
        · have hie : ys.isEmpty = false := by simpa using hy
          have hu0 : ((-(u : Int)) != 0) = true := by simp; rcases hgo with h | h; exact absurd h hy; omega
          have hu1 : 0 < u := by rcases hgo with h | h; exact absurd h hy; exact h
          clear hgo
          go_wp2
          go_roundw
          case rel => exact ⟨u / 10, d :: ys, by go_num, by omega, by simp, HE, R2⟩
          case measure => simp [intOf, sizeV, ByteArray.size]; omega
    · have hy : ys ≠ [] := fun h => hgo (.inl h)
      have hu1 : u = 0 := by omega
      subst hu1
      have hie : ys.isEmpty = false := by simpa using hy
      have hu0 : ((-((0 : Nat) : Int)) != 0) = false := by simp
      have hadd : ∀ w', (Op.stringOp .add ⟨#[45]⟩ ⟨ys.toArray⟩).run Tryz.prog w' = .ok (.string ⟨((45 : UInt8) :: ys).toArray⟩) w' := fun w' => run_string_add_lists w' [45] ys (by simp) (by omega)
      have HE : Hid (ys = R) := by
        show _ = _
        rw [← he.out]
        unfold todo left
        rw [if_neg hy]; simp
      clear he hgo hcv hx hxz
      go_wp2
      go_ret
      exact ⟨by rw [HE.out]; rfl, hb⟩
theorem l2Int_any (n : Int) (w : World) (h0 : -9223372036854775808 ≤ n) (h1 : n ≤ 9223372036854775807) :
    Calls Tryz.prog 169 #[.int .i64 n] w fun e w' => e = .returned (.string (itoaS n)) ∧ Below w.heap.size w w' := by
  by_cases hn : n < 0
  · obtain ⟨u, rfl⟩ : ∃ u : Nat, n = -(u : Int) := ⟨n.natAbs, by omega⟩
    refine (l2Int_neg u w (by omega) (by omega)).mono ?_
    rintro e w' ⟨rfl, hb⟩
    exact ⟨by unfold itoaS; rw [Lib.itoa_neg u (by omega)], hb⟩
  · obtain ⟨u, rfl⟩ := Int.eq_ofNat_of_zero_le (show 0 ≤ n by omega)
    refine (l2Int_pos u w (by omega)).mono ?_
    rintro e w' ⟨rfl, hb⟩
    exact ⟨by unfold itoaS; rw [Lib.itoa_nonneg], hb⟩
end Go.Proofs.YtilhaokiohbeeaaGreatDoor
namespace Go.Proofs.YtilhaokiohbeeaaGreatDoor
open Go.RowKit
/-- The table of the library's that holds the powers of ten. -/
abbrev Tab (w : World) : Prop := Lib.TabIs Tryz.prog w "internal/strconv.uint64pow10" .u64 Lib.pow10Tab
theorem Tab.on {w w' : World} (h : Tab w) (hb : Below w.heap.size w w') : Tab w' := Lib.tabBelow_of_tabIs h w' hb
theorem fmt_any (n : Int) (w : World) (h0 : -9223372036854775808 ≤ n) (h1 : n ≤ 9223372036854775807) (ht : Tab w) :
    Calls Tryz.prog 249 #[.int .i64 n, .int .i64 10] w fun e w' => e = .returned (.string (itoaS n)) ∧ Below w.heap.size w w' := by
  refine (Tryz.strconv_FormatInt_10 n h0 h1 w ht).mono ?_
  rintro e w' ⟨rfl, k, os, rfl⟩
  exact ⟨rfl, Lib.below_grow _ w (Nat.le_refl _) k os⟩
theorem fmt_small (i : Nat) (w : World) (hi : i < 100) :
    Calls Tryz.prog 249 #[.int .i64 i, .int .i64 10] w fun e w' => e = .returned (.string (itoaS i)) ∧ w' = w := by
  refine (Tryz.strconv_FormatInt_10_small i hi w).mono ?_
  rintro e w' ⟨rfl, rfl⟩
  exact ⟨by unfold itoaS Lib.itoa; rw [if_neg (by omega), Int.toNat_natCast], rfl⟩
end Go.Proofs.YtilhaokiohbeeaaGreatDoor
namespace Go.Proofs.YtilhaokiohbeeaaGreatDoor
open Go.RowKit
theorem gPow : Tryz.prog.globalNamed "internal/strconv.uint64pow10" = some 0 := by kernel_rfl
theorem tPow : (Tryz.prog.globals[0]?).map (·.type) = some 295 := by kernel_rfl
theorem dPow : (Rows.laid_internal_strconv_uint64pow10 : DataW Unit) = Lib.tabData .u64 Lib.pow10Tab := by kernel_rfl
/-- The list of the three tables. -/
abbrev laid3 : List (String × DataW Unit) := [("math/bits.deBruijn32tab", Rows.laid_math_bits_deBruijn32tab), ("math/bits.deBruijn64tab", Rows.laid_math_bits_deBruijn64tab), ("internal/strconv.uint64pow10", Rows.laid_internal_strconv_uint64pow10)]
theorem tab_of_laid {W : World} (h : laidMetH Tryz.prog laid3 W) : Tab W := by
  rw [MakeChecks.laidMetH_plain _ _ _ (by kernel_rfl)] at h
  have h2 := h.tail.tail
  rw [dPow] at h2
  exact Lib.tabIs_of_head gPow tPow Tryz.underlying295 Tryz.underlying288 (by kernel_rfl) (by kernel_rfl) h2
end Go.Proofs.YtilhaokiohbeeaaGreatDoor
namespace Go.Proofs.YtilhaokiohbeeaaGreatDoor
open Go.RowKit
theorem Tryz.info9 : (Tryz.prog.info? 9).map (fun i => (i.zero, i.size, i.bytes)) = some (some (.string ⟨#[]⟩), 1, 16) := by kernel_rfl
def SV (ss : List ByteArray) : List Value := ss.map Value.string
theorem SV_length (ss : List ByteArray) : (SV ss).length = ss.length := by simp [SV]
theorem SV_append (a b : List ByteArray) : SV (a ++ b) = SV a ++ SV b := by simp [SV]
theorem SV_get (ss : List ByteArray) (i : Nat) (h : i < ss.length) : (SV ss)[i]? = some (.string ss[i]) := by simp [SV, h]
theorem SV_set (ss : List ByteArray) (i : Nat) (s : ByteArray) : SV (ss.set i s) = (SV ss).set i (.string s) := by simp [SV, List.map_set]
/-- The slice v is the call's own (its block is at least number base) and holds the texts ss. -/
def OwnS (w : World) (base : Nat) (v : Value) (ss : List ByteArray) : Prop := w.ownsRow base 9 1 v ss.length (SV ss)
/-- The slice v can be read and holds the texts ss. -/
def RdS (w : World) (v : Value) (ss : List ByteArray) : Prop :=
  ∃ a cap, v = .slice a ss.length cap ∧ ss.length ≤ cap ∧ cap ≤ maxLen ∧
    (ss = [] ∨ ∃ b off, a = some ⟨b, off, none⟩ ∧ ∀ i (h : i < ss.length), w.cell? ⟨b, off + i, none⟩ = some (.string ss[i]))
theorem OwnS.rd {w : World} {base : Nat} {v : Value} {ss : List ByteArray} (h : OwnS w base v ss) : RdS w v ss := by
  have h' := h
  rcases h.2 with ⟨rfl, h0⟩ | ⟨g, cap, cur, rfl, hb, hg, hn, hc, hs, ht⟩
  · have : ss = [] := List.length_eq_zero_iff.1 h0
    subst this
    exact ⟨none, 0, rfl, Nat.le_refl _, Nat.zero_le _, .inl rfl⟩
  · refine ⟨some ⟨g, 0, none⟩, cap, rfl, hn, hc, .inr ⟨g, 0, rfl, fun i hi => ?_⟩⟩
    have := h'.cellAt i (by omega)
    rw [SV_get ss i hi] at this
    simpa using this
theorem OwnS.below {w w' : World} {base : Nat} {v : Value} {ss : List ByteArray} (h : OwnS w base v ss) (hb : Below w.heap.size w w') : OwnS w' base v ss := own_below h hb
theorem OwnS.drewN {w : World} {base : Nat} {v : Value} {ss : List ByteArray} (h : OwnS w base v ss) (q : Nat) : OwnS (w.drewN q) base v ss := h
theorem OwnS.mono {w : World} {base base' : Nat} {v : Value} {ss : List ByteArray} (h : OwnS w base v ss) (hb : base' ≤ base) : OwnS w base' v ss := by
  refine ⟨h.1, ?_⟩
  rcases h.2 with h2 | ⟨g, cap, cur, hv, hg, r⟩
  · exact .inl h2
  · exact .inr ⟨g, cap, cur, hv, Nat.le_trans hb hg, r⟩
theorem RdS.below {w w' : World} {v : Value} {ss : List ByteArray} (h : RdS w v ss) (hb : Below w.heap.size w w') : RdS w' v ss := by
  obtain ⟨a, cap, hv, h1, h2, h3⟩ := h
  refine ⟨a, cap, hv, h1, h2, ?_⟩
  rcases h3 with h3 | ⟨b, off, ha, hc⟩
  · exact .inl h3
  · exact .inr ⟨b, off, ha, fun i hi => by rw [hb.cell (World.block_lt_of_cell? w _ (hc i hi))]; exact hc i hi⟩
theorem RdS.drewN {w : World} {v : Value} {ss : List ByteArray} (h : RdS w v ss) (q : Nat) : RdS (w.drewN q) v ss := h
theorem rdS_nil (w : World) : RdS w (.slice none 0 0) [] := ⟨none, 0, rfl, Nat.le_refl _, Nat.zero_le _, .inl rfl⟩
/-- A slice of texts that came in. -/
theorem rdS_of {w : World} {x : Addr} {len cap : Nat} {zs : List ByteArray} (hl : len ≤ cap) (hm : cap ≤ maxLen) (hz : zs.length = cap) (hcell : ∀ i, i < zs.length → w.cell? (x.add i) = some (.string (zs.getD i ByteArray.empty))) (hwz : ∀ s ∈ zs, s.size ≤ maxLen) :
    ∃ ss, RdS w (.slice (some x) len cap) ss ∧ ∀ s ∈ ss, s.size ≤ maxLen := by
  refine ⟨zs.take len, ⟨some x, cap, ?_, ?_, hm, ?_⟩, fun s hs => hwz s (List.mem_of_mem_take hs)⟩
  · congr 1; rw [List.length_take]; omega
  · rw [List.length_take]; omega
  · by_cases h0 : len = 0
    · left; subst h0; simp
    · right
      obtain ⟨b, off, spot⟩ := x
      have hc := hcell 0 (by omega)
      have hspot : spot = none := by simpa [Addr.add] using World.cell?_spot hc
      subst hspot
      refine ⟨b, off, rfl, fun i hi => ?_⟩
      have hi' : i < len := by rw [List.length_take] at hi; omega
      have h := hcell i (by omega)
      have hg : zs.getD i ByteArray.empty = zs[i]'(by omega) := by simp [List.getD, List.getElem?_eq_getElem (show i < zs.length by omega)]
      rw [Addr.add_lit] at h
      rw [h, hg]
      simp only [List.getElem_take]
theorem ownS_none (w : World) : OwnS (w.alloc (.cells #[] 9)) w.heap.size (.slice (some ⟨w.heap.size, 0, none⟩) 0 0) [] := World.ownsRow_lit w #[] 0 (Nat.le_refl _) (Nat.zero_le _) rfl
theorem ownS_push {w1 : World} {B : Nat} {v' : Value} {ys : List ByteArray} {x : ByteArray} (h : w1.ownsRow B 9 1 v' (ys.length + 1) (SV ys ++ [.string x])) : OwnS w1 B v' (ys ++ [x]) := by
  have e : SV (ys ++ [x]) = SV ys ++ [.string x] := by simp [SV]
  unfold OwnS
  rw [e, List.length_append]
  exact h
theorem pushS_below {w wr w1 : World} {B B' : Nat} {v : Value} {o : Obj} {ys : List ByteArray} (hown : OwnS wr B' v ys) (hBB : B ≤ B') (hb : Below B w wr) (hB : B ≤ wr.heap.size) (hg : (wr.alloc o).grownBy w1 v.ownBlock) : Below B w w1 :=
  (hb.alloc hB o).grown hg (by simp; omega) (fun k hk => Nat.le_trans hBB (World.ownsRow.lt hown k hk).1)
theorem ownS_lt {w : World} {B : Nat} {v : Value} {ss : List ByteArray} (h : OwnS w B v ss) : ∀ k, v.ownBlock = some k → k < w.heap.size := fun k hk => (World.ownsRow.lt h k hk).2
/-- Two rows that lie apart: the one of the elder call stays as the younger one is written. -/
theorem ownS_other {w w' : World} {B1 B2 : Nat} {v1 v2 : Value} {ss ss2 : List ByteArray} (h1 : OwnS w B1 v1 ss) (hlt : ∀ k, v1.ownBlock = some k → k < B2) (h2 : OwnS w B2 v2 ss2) (hg : w.grownBy w' v2.ownBlock) : OwnS w' B1 v1 ss := by
  refine World.ownsRow.kept h1 hg ?_
  cases h : v1.ownBlock with
  | none => exact .inl rfl
  | some k => exact .inr fun e => by have := (World.ownsRow.lt h2 k e.symm).1; have := hlt k h; omega
theorem belowS_marked {a w w' : World} {B B2 : Nat} {v2 : Value} {ss2 : List ByteArray} (hb : Below B a w) (h2 : OwnS w B2 v2 ss2) (hB : B ≤ B2) (hg : w.grownBy w' v2.ownBlock) (hs : B ≤ w.heap.size) : Below B a w' :=
  hb.grown hg hs (fun k hk => by have := (World.ownsRow.lt h2 k hk).1; omega)
/-- A row that lies apart from the one that is written stays. -/
theorem row_kept {w w' : World} {B : Nat} {e : TypeId} {s : Nat} {v : Value} {n : Nat} {xs : List Value} {row : Option Nat} (h : w.ownsRow B e s v n xs) (hg : w.grownBy w' row) (hd : ∀ k, v.ownBlock = some k → row ≠ some k) : w'.ownsRow B e s v n xs := by
  refine World.ownsRow.kept h hg ?_
  cases hu : v.ownBlock with
  | none => exact .inl rfl
  | some k => exact .inr fun e => hd k hu e.symm
end Go.Proofs.YtilhaokiohbeeaaGreatDoor
