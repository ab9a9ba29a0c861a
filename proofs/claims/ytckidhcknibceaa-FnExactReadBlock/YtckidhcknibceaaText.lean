/- The contracts of the two Texts: each returns a slice of its own that holds the number of the text's bytes and these. -/
import Derived.Test.YtckidhcknibceaaNum
import Derived.Lib.AppendStr
namespace Go.Proofs.Ytckidhcknibceaa
open Go.RowKit
def textOf (s : ByteArray) : List UInt8 := if s.size ≤ 3000 then enc s.size ++ s.data.toList else []
theorem strCells_BV (s : ByteArray) : Lib.strCells s = BV s.data.toList := rfl
theorem own_text {w1 : World} {B : Nat} {v' : Value} {ys : List UInt8} {s : ByteArray} (h : w1.ownsRow B 5 1 v' (ys.length + s.size) (BV ys ++ Lib.strCells s)) : Own w1 B v' (ys ++ s.data.toList) := by
  unfold Own
  rw [BV_append, List.length_append, size_length, ← strCells_BV]
  exact h
theorem text_below {w wr w1 : World} {B : Nat} {v : Value} {ys : List UInt8} (hown : Own wr B v ys) (hb : Below B w wr) (hB : B ≤ wr.heap.size) (hg : wr.grownBy w1 v.ownBlock) : Below B w w1 :=
  hb.grown hg hB (fun k hk => (World.ownsRow.lt hown k hk).1)

set_option maxHeartbeats 400000 in
set_option maxRecDepth 100000 in
theorem l1Text_any (s : ByteArray) (w : World) (hs : s.size ≤ 1099511627776) :
    Calls Try.prog 41 #[.string s] w fun e w' => ∃ v, e = .returned v ∧ Own w' w.heap.size v (enc s.size ++ s.data.toList) ∧ Below w.heap.size w w' := by
  obtain ⟨i0, hi, hz0, hz1, hz2⟩ := info_parts Try.info5
  have hL := enc_len9 s.size (by omega)
  go_enter Try.func41, Try.ntmps41
  go_wp2_with fail
  refine (l1Number_any _ _ (by omega) (by omega)).mono ?_
  rw [Int.toNat_natCast]
  rintro e w1 ⟨v, rfl, ho, hb⟩
  have hsz := hb.size
  go_wp2_with (at_builtin; (refine Lib.wpList_append_own_string _ rfl _ _ 43 9 rfl w.heap.size 5 i0 Try.underlying43 Try.underlying9 hi hz0 hz1 hz2 _ _ _ rfl ho s rfl ?c1 ?c2 ?c3 ?_))
  case c1 => unfold maxLen; omega
  case c2 => omega
  case c3 => omega
  · intro v' w2 hown' hgrow _
    have R1 := own_text hown'
    have R2 := text_below ho hb hsz hgrow
    clear hown' hgrow ho hb
    go_wp2
    go_ret
    exact ⟨_, rfl, R1, R2⟩
theorem text_in (s : ByteArray) (h : s.size ≤ 3000) : textOf s = enc s.size ++ s.data.toList := by unfold textOf; rw [if_pos h]
theorem text_out (s : ByteArray) (h : 3000 < s.size) : textOf s = [] := by unfold textOf; rw [if_neg (by omega)]
theorem textOf_len (s : ByteArray) : (textOf s).length ≤ 3009 := by
  by_cases h : s.size ≤ 3000
  · rw [text_in s h, List.length_append, size_length]
    have := enc_len9 s.size (by omega)
    omega
  · rw [text_out s (by omega)]; simp

set_option maxHeartbeats 400000 in
set_option maxRecDepth 100000 in
theorem implText_any (s : ByteArray) (w : World) (hs : s.size ≤ 1099511627776) :
    Calls Try.prog 44 #[.string s] w fun e w' => ∃ v, e = .returned v ∧ Own w' w.heap.size v (textOf s) ∧ Below w.heap.size w w' := by
  by_cases h : s.size ≤ 3000
  · rw [text_in s h]
    obtain ⟨i0, hi, hz0, hz1, hz2⟩ := info_parts Try.info5
    have hL := enc_len9 s.size (by omega)
    have hn := num_in (s.size : Int) (by omega) (by omega)
    rw [Int.toNat_natCast] at hn
    have Hn : Hid (num (s.size : Int) = enc s.size) := hn
    clear hn
    go_enter Try.func44, Try.ntmps44
    go_wp2_with fail
    refine (implNumber_any _ _).mono ?_
    rw [Hn.out]
    rintro e w1 ⟨v, rfl, ho, hb⟩
    have hsz := hb.size
    go_wp2_with (at_builtin; (refine Lib.wpList_append_own_string _ rfl _ _ 43 9 rfl w.heap.size 5 i0 Try.underlying43 Try.underlying9 hi hz0 hz1 hz2 _ _ _ rfl ho s rfl ?c1 ?c2 ?c3 ?_))
    case c1 => unfold maxLen; omega
    case c2 => omega
    case c3 => omega
    · intro v' w2 hown' hgrow _
      have R1 := own_text hown'
      have R2 := text_below ho hb hsz hgrow
      clear hown' hgrow ho hb
      go_wp2
      go_ret
      exact ⟨_, rfl, R1, R2⟩
  · rw [text_out s (by omega)]
    go_enter Try.func44, Try.ntmps44
    go_wp2
    go_ret
    exact ⟨_, rfl, own_none _, (Below.refl _ _).alloc (Nat.le_refl _) _⟩
end Go.Proofs.Ytckidhcknibceaa
