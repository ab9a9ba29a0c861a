/- Plain facts on rows of bytes and on conversions between bytes and texts, over this program's own types; no function of the program is walked here. The contract of the law's own mark of a number, as a text. Plain facts on the number with which some bytes begin. The contract of the model's ReadNumber over any slice of bytes that can be read. The contract of the model's ReadText over any slice of bytes that can be read. -/
import Derived.Test.YthchhkiijehjbaaGreatDoorG00
import Derived.Laws.IdiomStrings
import Derived.Laws.BytesArg
import Derived.Lib.ConvBytes
import Derived.Deep.RegionHeld3
namespace Go.Proofs.YthchhkiijehjbaaGreatDoor
open Go.RowKit
theorem Tryz.info5 : (Tryz.prog.info? 5).map (fun i => (i.zero, i.size, i.bytes)) = some (some (.int .u8 0), 1, 1) := by kernel_rfl
theorem own_none (w : World) : Own (w.alloc (.cells #[] 5)) w.heap.size (.slice (some ⟨w.heap.size, 0, none⟩) 0 0) [] := World.ownsRow_lit w #[] 0 (Nat.le_refl _) (Nat.zero_le _) rfl
theorem size_length (s : ByteArray) : s.data.toList.length = s.size := by rw [Array.length_toList]; rfl
theorem conv_at (w : World) (b o n c : Nat) (l : List UInt8) (hl : l.length = n) (hc : ∀ j (hj : j < l.length), w.cell? ⟨b, o + j, none⟩ = some (.int .u8 (l[j].toNat : Int))) :
    (convert 101 9 (.slice (some ⟨b, o, none⟩) n c)).run Tryz.prog w = .ok (.string ⟨l.toArray⟩) w := by
  subst hl
  exact run_convert_bytes_back w 101 9 5 ⟨b, o, none⟩ c l Tryz.underlying101 Tryz.underlying5 Tryz.underlying9 (fun j hj => by rw [Addr.add_lit]; exact hc j hj)
/-- A row of bytes of the call's own, as a text. -/
theorem conv_own {w : World} {B : Nat} {v : Value} {bs : List UInt8} (h : Own w B v bs) : (convert 101 9 v).run Tryz.prog w = .ok (.string ⟨bs.toArray⟩) w := by
  rcases h.2 with ⟨rfl, h0⟩ | ⟨g, cap, cur, rfl, _⟩
  · have : bs = [] := List.length_eq_zero_iff.1 h0
    subst this
    exact run_convert_bytes_nil w 101 5 Tryz.underlying101 Tryz.underlying5 0 0 9 Tryz.underlying9
  · refine conv_at w g 0 bs.length cap bs rfl fun j hj => ?_
    have := World.ownsRow.cellAt h j (by omega)
    rw [BV_get bs j hj] at this
    rw [Nat.zero_add]
    exact this
theorem some_byte (x : Int) (h0 : 0 ≤ x) (h1 : x < 256) : x = ((UInt8.ofNat x.toNat).toNat : Int) := by rw [UInt8.toNat_ofNat']; omega
theorem dig_toNat (k : Nat) : ((UInt8.ofNat (48 + k % 10)).toNat : Int) = 48 + (k : Int) % 10 := by
  rw [UInt8.toNat_ofNat']; omega
theorem conv_one (w : World) (b : UInt8) (x : Int) (hx : (b.toNat : Int) = x) :
    (convert 101 9 (.slice (some ⟨w.heap.size, 0, none⟩) 1 1)).run Tryz.prog (w.alloc (.cells #[.int .u8 x] 5)) = .ok (.string ⟨#[b]⟩) (w.alloc (.cells #[.int .u8 x] 5)) := by
  refine conv_at _ w.heap.size 0 1 1 [b] rfl fun j hj => ?_
  have : j = 0 := by simpa using hj
  subst this
  simp [hx]
theorem madeB (n : Nat) : (madeCells #[Value.int .u8 0] n).toList = BV (List.replicate n 0) := by
  rw [toList_madeCells_one]
  simp [BV]
theorem conv_bytes (w : World) (s : ByteArray) : (convert 9 101 (.string s)).run Tryz.prog w = .ok (.slice (some ⟨w.heap.size, 0, none⟩) s.size (grownCap w s.size 0 5)) (Lib.bytesWorld w 5 s) :=
  Lib.run_convert_string_bytes w 9 101 5 s Tryz.underlying9 Tryz.underlying101 Tryz.underlying5
theorem bytes_rd (w : World) (s : ByteArray) (hs : s.size ≤ maxLen) : Rd (Lib.bytesWorld w 5 s) (.slice (some ⟨w.heap.size, 0, none⟩) s.size (grownCap w s.size 0 5)) s.data.toList := by
  have hl := size_length s
  refine ⟨_, _, by rw [hl], by rw [hl]; exact grownCap_ge w s.size 0 _, grownCap_le_maxLen w s.size 0 _ hs, .inr ⟨w.heap.size, 0, rfl, fun i hi => ?_⟩⟩
  rw [Nat.zero_add, Lib.bytesWorld_cell w _ s i (by omega)]
  simp [List.getD, List.getElem?_eq_getElem hi]
theorem bytes_below (w : World) (s : ByteArray) : Below w.heap.size w (Lib.bytesWorld w 5 s) :=
  ⟨rfl, rfl, rfl, by rw [Lib.bytesWorld_size]; omega, fun k hk => Lib.bytesWorld_at_old w _ s k hk⟩
theorem own_some {w : World} {B : Nat} {v : Value} {bs : List UInt8} (h : Own w B v bs) (hn : bs ≠ []) : ∃ g cap, v = .slice (some ⟨g, 0, none⟩) bs.length cap ∧ ∀ j u, (BV bs)[j]? = some u → w.cell? ((⟨g, 0, none⟩ : Addr).add j) = some u := by
  rcases h.2 with ⟨_, h0⟩ | ⟨g, cap, cur, hv, _⟩
  · exact absurd (List.length_eq_zero_iff.1 h0) hn
  · exact ⟨g, cap, hv, World.ownsRow.cells h (by rw [hv]; rfl)⟩
theorem BV_oneCell (bs : List UInt8) : ∀ u ∈ BV bs, u.oneCell' = true := by
  intro u hu
  obtain ⟨_, _, rfl⟩ := List.mem_map.1 hu
  rfl
theorem own_more {w1 : World} {B : Nat} {v' : Value} {ys zs : List UInt8} (h : w1.ownsRow B 5 1 v' (ys.length + zs.length) (BV ys ++ BV zs)) : Own w1 B v' (ys ++ zs) := by
  unfold Own
  rw [BV_append, List.length_append]
  exact h

end Go.Proofs.YthchhkiijehjbaaGreatDoor
namespace Go.Proofs.YthchhkiijehjbaaGreatDoor
open Go.RowKit
/-- The digits of k ahead of acc. -/
def digs (k : Nat) (acc : List UInt8) : List UInt8 := if h : k = 0 then acc else digs (k / 10) (UInt8.ofNat (48 + k % 10) :: acc)
theorem digs_zero (acc : List UInt8) : digs 0 acc = acc := by rw [digs, dif_pos rfl]
theorem digs_step (k : Nat) (h : 0 < k) (acc : List UInt8) : digs k acc = digs (k / 10) (UInt8.ofNat (48 + k % 10) :: acc) := by rw [digs, dif_neg (by omega)]
/-- The law's mark number k. -/
def mk (k : Nat) : ByteArray := ⟨((109 : UInt8) :: digs k []).toArray⟩
set_option maxHeartbeats 400000 in
set_option maxRecDepth 100000 in
theorem markText_any (k : Nat) (w : World) (h0 : 0 < k) (h1 : k ≤ 4194304) :
    Calls Tryz.prog 57 #[.int .i64 (k : Int)] w fun e w' => e = .returned (.string (mk k)) ∧ Below w.heap.size w w' := by
  go_enter Tryz.func57, Tryz.ntmps57
  go_wp2
  go_loopw [0, 3] (fun n v wr => ∃ (m : Nat) (ys : List UInt8), n = .int .i64 m ∧ m ≤ 4194304 ∧ v = .string ⟨ys.toArray⟩ ∧ ys.length + m ≤ 4194304 ∧ Hid (digs m ys = digs k []) ∧ Below w.heap.size w wr) (fun n _ _ => (intOf n).toNat)
  case atStart => exact ⟨k, [], rfl, h1, rfl, by simp; omega, rfl, Below.refl _ _⟩
  case round =>
    obtain ⟨m, ys, rfl, hm, rfl, hy, he, hb⟩ := hrel
    have hs := hb.size
    by_cases hlt : 0 < m
    · have hcv := conv_one wr (UInt8.ofNat (48 + m % 10)) (48 + (m : Int) % 10) (dig_toNat m)
      generalize hd : UInt8.ofNat (48 + m % 10) = d at hcv
      have hadd : ∀ w', (Op.stringOp .add ⟨#[d]⟩ ⟨ys.toArray⟩).run Tryz.prog w' = .ok (.string ⟨(d :: ys).toArray⟩) w' := fun w' => run_string_add_lists w' [d] ys (by simp) (by omega)
      have HE : Hid (digs (m / 10) (d :: ys) = digs k []) := by show _ = _; rw [← hd, ← digs_step m hlt]; exact he.out
      have R2 : Below w.heap.size w (wr.alloc (.cells #[.int .u8 (48 + (m : Int) % 10)] 5)) := hb.alloc hs _
      clear hd he hb
      go_wp2
      go_roundw
      case rel => exact ⟨m / 10, d :: ys, by go_num, by omega, by simp, by simp only [List.length_cons]; omega, HE, R2⟩
      case measure => simp [intOf]; omega
    · have hm0 : m = 0 := by omega
      subst hm0
      have HE : Hid (ys = digs k []) := by show _ = _; rw [← he.out, digs_zero]
      have hadd : ∀ w', (Op.stringOp .add ⟨#[109]⟩ ⟨ys.toArray⟩).run Tryz.prog w' = .ok (.string ⟨((109 : UInt8) :: ys).toArray⟩) w' := fun w' => run_string_add_lists w' [109] ys (by simp) (by omega)
      clear he
      go_wp2
      go_ret
      refine ⟨?_, hb⟩
      unfold mk
      rw [← HE.out]
      simp
theorem markText_at (x : Int) (k : Nat) (w : World) (hx : x = (k : Int)) (h0 : 0 < k) (h1 : k ≤ 4194304) :
    Calls Tryz.prog 57 #[.int .i64 x] w fun e w' => e = .returned (.string (mk k)) ∧ Below w.heap.size w w' := by
  subst hx; exact markText_any k w h0 h1

end Go.Proofs.YthchhkiijehjbaaGreatDoor
namespace Go.Proofs.YthchhkiijehjbaaGreatDoor
open Go.RowKit
/-- The number that the bytes go on with behind i of them that make n, the next one weighing p; and how many bytes it takes. -/
def rdF : Nat → Nat → Nat → Nat → List UInt8 → Nat × Nat
  | 0, _, _, _, _ => (0, 0)
  | _ + 1, _, _, _, [] => (0, 0)
  | f + 1, i, n, p, b :: r => if b.toNat < 128 then (if 1099511627776 < n + b.toNat % 128 * p ∨ 0 < i ∧ b.toNat = 0 then (0, 0) else (n + b.toNat % 128 * p, i + 1)) else rdF f (i + 1) (n + b.toNat % 128 * p) (p * 128) r
/-- The number with which the bytes begin, and how many bytes it takes; 0 and 0 where there is none. -/
def rdNum (bs : List UInt8) : Nat × Nat := rdF 6 0 0 1 bs
theorem rdF_end (f i n p : Nat) (bs : List UInt8) (k : Nat) (h : bs.length ≤ k) : rdF f i n p (bs.drop k) = (0, 0) := by
  rw [List.drop_eq_nil_of_le h]; cases f <;> rfl
theorem rdF_more (f i n p k b : Nat) (bs : List UInt8) (h : k < bs.length) (hb : b = bs[k].toNat) (h1 : 128 ≤ b) : rdF (f + 1) i n p (bs.drop k) = rdF f (i + 1) (n + b % 128 * p) (p * 128) (bs.drop (k + 1)) := by
  subst hb
  rw [List.drop_eq_getElem_cons h, rdF, if_neg (by omega)]
theorem rdF_no (f i n p k b : Nat) (bs : List UInt8) (h : k < bs.length) (hb : b = bs[k].toNat) (h1 : b < 128) (h2 : 1099511627776 < n + b % 128 * p ∨ 0 < i ∧ b = 0) : rdF (f + 1) i n p (bs.drop k) = (0, 0) := by
  subst hb
  rw [List.drop_eq_getElem_cons h, rdF, if_pos h1, if_pos h2]
theorem rdF_yes (f i n p k b : Nat) (bs : List UInt8) (h : k < bs.length) (hb : b = bs[k].toNat) (h1 : b < 128) (h2 : ¬ (1099511627776 < n + b % 128 * p ∨ 0 < i ∧ b = 0)) : rdF (f + 1) i n p (bs.drop k) = (n + b % 128 * p, i + 1) := by
  subst hb
  rw [List.drop_eq_getElem_cons h, rdF, if_pos h1, if_neg h2]
theorem rdF_len (f : Nat) : ∀ (i n p : Nat) (bs : List UInt8), (rdF f i n p bs).2 ≤ i + bs.length ∧ (rdF f i n p bs).1 ≤ 1099511627776 ∧ (rdF f i n p bs).2 ≤ i + f := by
  induction f with
  | zero => intro i n p bs; simp [rdF]
  | succ f ih =>
    intro i n p bs
    cases bs with
    | nil => simp [rdF]
    | cons b r =>
      rw [rdF]
      split
      · split
        · simp
        · simp only [List.length_cons]; omega
      · have := ih (i + 1) (n + b.toNat % 128 * p) (p * 128) r
        simp only [List.length_cons]; omega
theorem rdNum_len (bs : List UInt8) : (rdNum bs).2 ≤ bs.length ∧ (rdNum bs).1 ≤ 1099511627776 ∧ (rdNum bs).2 ≤ 6 := by have := rdF_len 6 0 0 1 bs; unfold rdNum; omega
theorem rdF_zero (f : Nat) : ∀ (i n p : Nat) (bs : List UInt8), (rdF f i n p bs).2 = 0 → (rdF f i n p bs).1 = 0 := by
  induction f with
  | zero => intro i n p bs _; simp [rdF]
  | succ f ih =>
    intro i n p bs
    cases bs with
    | nil => simp [rdF]
    | cons b r =>
      rw [rdF]
      split
      · split
        · simp
        · simp
      · exact ih (i + 1) (n + b.toNat % 128 * p) (p * 128) r
theorem rdNum_zero (bs : List UInt8) (h : (rdNum bs).2 = 0) : (rdNum bs).1 = 0 := rdF_zero 6 0 0 1 bs h
/-- The weights and sums that a round meets. -/
theorem mul_le (b p : Nat) : b % 128 * p ≤ 127 * p := Nat.mul_le_mul_right p (by omega)
end Go.Proofs.YthchhkiijehjbaaGreatDoor
namespace Go.Proofs.YthchhkiijehjbaaGreatDoor
open Go.RowKit
theorem ret2_int {k l : IntKind} {a b c d : Int} (h : a = c) (h2 : b = d) : Ending.returned (.tuple #[.int k a, .int l b]) = .returned (.tuple #[.int k c, .int l d]) := by rw [h, h2]
end Go.Proofs.YthchhkiijehjbaaGreatDoor
namespace Go.Proofs.YthchhkiijehjbaaGreatDoor
open Go.RowKit
/-- The text with which the bytes begin, and how many bytes it takes with its number; none and 0 where there is none. -/
def rdText (bs : List UInt8) : List UInt8 × Nat :=
  if (rdNum bs).2 = 0 ∨ 3000 < (rdNum bs).1 ∨ bs.length < (rdNum bs).2 + (rdNum bs).1 then ([], 0) else ((bs.drop (rdNum bs).2).take (rdNum bs).1, (rdNum bs).2 + (rdNum bs).1)
theorem cut_len (bs : List UInt8) (k n : Nat) (h : k + n ≤ bs.length) : ((bs.drop k).take n).length = n := by rw [List.length_take, List.length_drop]; omega
theorem conv_cut (w : World) (b off k n c : Nat) (bs : List UInt8) (h : k + n ≤ bs.length) (hc : ∀ i (h : i < bs.length), w.cell? ⟨b, off + i, none⟩ = some (.int .u8 (bs[i].toNat : Int))) :
    (convert 101 9 (.slice (some ⟨b, off + k, none⟩) n c)).run Tryz.prog w = .ok (.string ⟨((bs.drop k).take n).toArray⟩) w :=
  conv_at w b (off + k) n c _ (cut_len bs k n h) fun j hj => by
    rw [cut_len bs k n h] at hj
    have := hc (k + j) (by omega)
    rw [← Nat.add_assoc] at this
    rw [this]
    simp
theorem conv_none (w : World) (b off n c : Nat) (h : n = 0) (l : List UInt8) (hl : l = []) : (convert 101 9 (.slice (some ⟨b, off, none⟩) n c)).run Tryz.prog w = .ok (.string ⟨l.toArray⟩) w := by
  subst h
  subst hl
  exact conv_at w b off 0 c [] rfl fun j hj => by simp at hj
end Go.Proofs.YthchhkiijehjbaaGreatDoor
