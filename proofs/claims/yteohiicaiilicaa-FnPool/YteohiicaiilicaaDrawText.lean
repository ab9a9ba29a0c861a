/- The contracts of the draws of a text and of some texts: each is some text, or some texts, of a bounded size; nothing but the cursor's own block turns. -/
import Derived.Test.YteohiicaiilicaaDraw
import Derived.Test.YteohiicaiilicaaAid
import Derived.Test.YteohiicaiilicaaStrBase
namespace Go.Proofs.Yteohiicaiilicaa
open Go.RowKit
/-- What the draw of a text leaves. -/
def TextD (w0 w : World) (g m : Nat) (e : Ending) (w' : World) : Prop := ∃ s : ByteArray, e = .returned (.string s) ∧ s.size ≤ m ∧ DCur w0 w' g ∧ w.grownBy w' (some g)
theorem gr_alloc {a w : World} {row : Option Nat} (h : a.grownBy w row) (o : Obj) : a.grownBy (w.alloc o) row := by
  have := h.size
  exact ⟨h.os, h.tape, h.output, by simp; omega, fun k hk hr => (Below.heap_alloc w o k (by omega)).trans (h.block k hk hr)⟩
/-- A write into a row that is younger than the world a. -/
theorem gr_young {a w w' : World} {row row2 : Option Nat} (h : a.grownBy w row) (hg : w.grownBy w' row2) (hy : ∀ k, row2 = some k → a.heap.size ≤ k) : a.grownBy w' row := by
  have := h.size
  exact ⟨hg.os.trans h.os, hg.tape.trans h.tape, hg.output.trans h.output, Nat.le_trans h.size hg.size, fun k hk hr => (hg.block k (by omega) (fun e => by have := hy k e.symm; omega)).trans (h.block k hk hr)⟩

set_option maxHeartbeats 1000000 in
set_option maxRecDepth 100000 in
theorem l1DrawText_any (w0 w : World) (g : Nat) (h : DCur w0 w g) :
    Calls Try.prog 36 #[.pointer (some ⟨g, 0, none⟩)] w fun e w' => TextD w0 w g 9 e w' := by
  obtain ⟨i0, hi, hz0, hz1, hz2⟩ := info_parts Try.info5
  have hlt := h.lt
  have hst := own_none w
  have hdc := h.alloc (.cells #[] 5)
  have hgr := gr_alloc (gr_refl w (some g)) (.cells #[] 5)
  go_enter Try.func36, Try.ntmps36
  go_wp2_with fail
  refine (l1Below_any w0 _ g 8 hdc (by omega) (by omega)).mono ?_
  rintro e w1 ⟨x, rfl, hx0, hx1, hc, hg⟩
  have ho1 : Own w1 w.heap.size _ [] := row_kept hst hg (fun k hk e => by have := (World.ownsRow.lt hst k hk).1; simp at e; omega)
  have hgr1 := gr_trans hgr hg
  clear hst hdc hgr h hg
  go_wp2
  go_loopw [3, 4] (fun oo nn wr => ∃ (m : Nat) (ys : List UInt8), nn = .int .i64 m ∧ ys.length + m ≤ 8 ∧ Own wr w.heap.size oo ys ∧ DCur w0 wr g ∧ w.grownBy wr (some g)) (fun _ nn _ => (intOf nn).toNat)
  case atStart =>
    obtain ⟨m, rfl⟩ := Int.eq_ofNat_of_zero_le hx0
    exact ⟨m, [], rfl, by simp; omega, ho1, hc, hgr1⟩
  case round =>
    obtain ⟨m, ys, rfl, hym, ho, hdc, hgw⟩ := hrel
    clear ho1 hc hgr1
    have hs := hgw.size
    by_cases hm : 0 < m
    · go_wp2_with fail
      refine (l1Below_any w0 _ g 4 hdc (by omega) (by omega)).mono ?_
      rintro e w2 ⟨y, rfl, hy0, hy1, hc2, hg2⟩
      have ho2 : Own w2 w.heap.size _ ys := row_kept ho hg2 (fun k hk e => by have := (World.ownsRow.lt ho k hk).1; simp at e; omega)
      have hgw2 := gr_trans hgw hg2
      have hs2 := hg2.size
      clear ho hdc hgw hg2
      go_wp2_with (at_builtin; (refine wpList_append_own _ rfl _ _ 22 rfl w.heap.size 5 i0 (.int .u8 0) 1 1 Try.underlying22 hi hz0 hz1 hz2 rfl (by decide) _ _ _ rfl (World.ownsRow.alloc ho2 _) ⟨w2.heap.size, 0, none⟩ 1 1 [.int .u8 (97 + y)] rfl rfl ?c1 ?c2 ?c3 ?c4 ?c5 ?_))
      case c1 => exact one_new _ _ _
      case c2 => intro u hu; simp at hu; subst hu; rfl
      case c3 => unfold maxLen; omega
      case c4 => omega
      case c5 => simp; omega
      intro v' w3 hown' hgrow _
      have R1 := own_push _ (some_byte (97 + y) (by omega) (by omega)) hown'
      have R2 := (hc2.alloc _).grow hgrow (fun k hk => by have := (World.ownsRow.lt ho2 k hk).1; omega)
      have R3 := gr_young (gr_alloc hgw2 _) hgrow (fun k hk => (World.ownsRow.lt ho2 k hk).1)
      clear hown' hgrow ho2 hc2 hgw2
      go_wp2
      go_roundw
      case rel => exact ⟨m - 1, _, by go_num, by rw [List.length_append]; simp; omega, R1, R2, R3⟩
      case measure => simp [intOf]; omega
    · have hm0 : m = 0 := by omega
      subst hm0
      go_wp2_with fail
      refine (l1Once_any w0 _ g 6 hdc (by omega) (by omega)).mono ?_
      rintro e w2 ⟨b, rfl, hc2, hg2⟩
      have ho2 : Own w2 w.heap.size _ ys := row_kept ho hg2 (fun k hk e => by have := (World.ownsRow.lt ho k hk).1; simp at e; omega)
      have hgw2 := gr_trans hgw hg2
      have hs2 := hg2.size
      clear ho hdc hgw hg2
      cases b
      · have hcv := conv_own ho2
        go_wp2
        go_ret
        exact ⟨_, rfl, by show ys.toArray.size ≤ 9; simp; omega, hc2, hgw2⟩
      · go_wp2_with fail
        refine (l1Byte_any w0 _ g hc2).mono ?_
        rintro e w3 ⟨y, rfl, hy0, hy1, hc3, hg3⟩
        have ho3 : Own w3 w.heap.size _ ys := row_kept ho2 hg3 (fun k hk e => by have := (World.ownsRow.lt ho2 k hk).1; simp at e; omega)
        have hgw3 := gr_trans hgw2 hg3
        have hs3 := hg3.size
        clear ho2 hc2 hgw2 hg3
        go_wp2_with (at_builtin; (refine wpList_append_own _ rfl _ _ 22 rfl w.heap.size 5 i0 (.int .u8 0) 1 1 Try.underlying22 hi hz0 hz1 hz2 rfl (by decide) _ _ _ rfl (World.ownsRow.alloc ho3 _) ⟨w3.heap.size, 0, none⟩ 1 1 [.int .u8 y] rfl rfl ?d1 ?d2 ?d3 ?d4 ?d5 ?_))
        case d1 => exact one_new _ _ _
        case d2 => intro u hu; simp at hu; subst hu; rfl
        case d3 => unfold maxLen; omega
        case d4 => omega
        case d5 => simp; omega
        intro v' w4 hown' hgrow _
        have R1 := own_push _ (some_byte y (by omega) (by omega)) hown'
        have R2 := (hc3.alloc _).grow hgrow (fun k hk => by have := (World.ownsRow.lt ho3 k hk).1; omega)
        have R3 := gr_young (gr_alloc hgw3 _) hgrow (fun k hk => (World.ownsRow.lt ho3 k hk).1)
        have hcv := conv_own R1
        have hyl : (ys ++ [UInt8.ofNat y.toNat]).length ≤ 9 := by rw [List.length_append]; simp; omega
        generalize ys ++ [UInt8.ofNat y.toNat] = zs at R1 hcv hyl
        clear hown' hgrow ho3 hc3 hgw3
        go_wp2
        go_ret
        exact ⟨_, rfl, by show zs.toArray.size ≤ 9; simpa using hyl, R2, R3⟩
end Go.Proofs.Yteohiicaiilicaa
