/- The contracts of the two Texts: each returns a slice of its own that holds the number of the text's bytes and these. -/
import Derived.Test.YtbefmbjlogkmbaaGreatNum
import Derived.Lib.AppendStr
namespace Go.Proofs.YtbefmbjlogkmbaaGreat
open Go.RowKit
theorem strCells_BV (s : ByteArray) : Lib.strCells s = BV s.data.toList := rfl
theorem own_text {w1 : World} {B : Nat} {v' : Value} {ys : List UInt8} {s : ByteArray} (h : w1.ownsRow B 5 1 v' (ys.length + s.size) (BV ys ++ Lib.strCells s)) : Own w1 B v' (ys ++ s.data.toList) := by
  unfold Own
  rw [BV_append, List.length_append, size_length, ← strCells_BV]
  exact h
theorem text_below {w wr w1 : World} {B : Nat} {v : Value} {ys : List UInt8} (hown : Own wr B v ys) (hb : Below B w wr) (hB : B ≤ wr.heap.size) (hg : wr.grownBy w1 v.ownBlock) : Below B w w1 :=
  hb.grown hg hB (fun k hk => (World.ownsRow.lt hown k hk).1)

set_option maxHeartbeats 400000 in
set_option maxRecDepth 100000 in
theorem l1Text_any (s : ByteArray) (w : World) (hs : s.size ≤ 1099511627776) :
    Calls Tryz.prog 129 #[.string s] w fun e w' => ∃ v, e = .returned v ∧ Own w' w.heap.size v (enc s.size ++ s.data.toList) ∧ Below w.heap.size w w' := by
  obtain ⟨i0, hi, hz0, hz1, hz2⟩ := info_parts Tryz.info5
  have hL := enc_len9 s.size (by omega)
  go_enter Tryz.func129, Tryz.ntmps129
  go_wp2_with fail
  refine (l1Number_any _ _ (by omega) (by omega)).mono ?_
  rw [Int.toNat_natCast]
  rintro e w1 ⟨v, rfl, ho, hb⟩
  have hsz := hb.size
  go_wp2_with (at_builtin; (refine Lib.wpList_append_own_string _ rfl _ _ 102 9 rfl w.heap.size 5 i0 Tryz.underlying102 Tryz.underlying9 hi hz0 hz1 hz2 _ _ _ rfl ho s rfl ?c1 ?c2 ?c3 ?_))
  case c1 => unfold maxLen; omega
  case c2 => omega
  case c3 => omega
  · intro v' w2 hown' hgrow _
    have R1 := own_text hown'
    have R2 := text_below ho hb hsz hgrow
    clear hown' hgrow ho hb
    go_wp2
    go_ret
    exact ⟨_, rfl, R1, R2⟩
end Go.Proofs.YtbefmbjlogkmbaaGreat
