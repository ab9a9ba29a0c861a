/- The contract of the draw of some texts. -/
import Derived.Test.YtbldoeadmnepkaaDrawText
namespace Go.Proofs.Ytbldoeadmnepkaa
open Go.RowKit
theorem oneS_new (w : World) (x : Value) (t : TypeId) : ∀ j u, [x][j]? = some u → (w.alloc (.cells #[x] t)).cell? ((⟨w.heap.size, 0, none⟩ : Addr).add j) = some u := by
  intro j u hj
  match j, hj with
  | 0, hj => simp at hj; subst hj; simp [Addr.add]
theorem madeS (n : Nat) : (madeCells #[Value.string ⟨#[]⟩] n).toList = SV (List.replicate n ⟨#[]⟩) := by
  rw [toList_madeCells_one]
  simp [SV]
theorem madeB (n : Nat) : (madeCells #[Value.int .u8 0] n).toList = BV (List.replicate n 0) := by
  rw [toList_madeCells_one]
  simp [BV]
/-- What the draw of some texts leaves. -/
def TextsD (w0 w : World) (g : Nat) (e : Ending) (w' : World) : Prop := ∃ (u : Value) (ss : List ByteArray), e = .returned u ∧ OwnS w' w.heap.size u ss ∧ ss.length ≤ 201 ∧ (∀ s ∈ ss, s.size ≤ 3001) ∧ DCur w0 w' g ∧ w.grownBy w' (some g)

set_option maxHeartbeats 1000000 in
set_option maxRecDepth 100000 in
theorem l1DrawTexts_any (w0 w : World) (g : Nat) (h : DCur w0 w g) :
    Calls Try.prog 38 #[.pointer (some ⟨g, 0, none⟩)] w fun e w' => TextsD w0 w g e w' := by
  obtain ⟨i0, hi, hz0, hz1, hz2⟩ := info_parts Try.info9
  obtain ⟨j0, hj, hy0, hy1, hy2⟩ := info_parts Try.info5
  have hlt := h.lt
  have hst := ownS_none w
  have hdc := h.alloc (.cells #[] 9)
  have hgr := gr_alloc (gr_refl w (some g)) (.cells #[] 9)
  go_enter Try.func38, Try.ntmps38
  go_wp2_with fail
  refine (l1Below_any w0 _ g 6 hdc (by omega) (by omega)).mono ?_
  rintro e w1 ⟨x, rfl, hx0, hx1, hc, hg⟩
  have ho1 : OwnS w1 w.heap.size _ [] := row_kept hst hg (fun k hk e => by have := (World.ownsRow.lt hst k hk).1; simp at e; omega)
  have hgr1 := gr_trans hgr hg
  clear hst hdc hgr h hg
  go_wp2
  go_loopw [3, 4] (fun oo nn wr => ∃ (m : Nat) (ys : List ByteArray), nn = .int .i64 m ∧ ys.length + m ≤ 6 ∧ Hid (∀ s ∈ ys, s.size ≤ 3001) ∧ OwnS wr w.heap.size oo ys ∧ DCur w0 wr g ∧ w.grownBy wr (some g)) (fun _ nn _ => (intOf nn).toNat)
  case atStart =>
    obtain ⟨m, rfl⟩ := Int.eq_ofNat_of_zero_le hx0
    exact ⟨m, [], rfl, by simp; omega, fun s hs => (by cases hs), ho1, hc, hgr1⟩
  case round =>
    obtain ⟨m, ys, rfl, hym, HS, ho, hdc, hgw⟩ := hrel
    clear ho1 hc hgr1
    have hs := hgw.size
    by_cases hm : 0 < m
    · go_wp2_with fail
      refine (l1DrawText_any w0 _ g hdc).mono ?_
      rintro e w2 ⟨t, rfl, hts, hc2, hg2⟩
      have ho2 : OwnS w2 w.heap.size _ ys := row_kept ho hg2 (fun k hk e => by have := (World.ownsRow.lt ho k hk).1; simp at e; omega)
      have hgw2 := gr_trans hgw hg2
      have hs2 := hg2.size
      clear ho hdc hgw hg2
      go_wp2_with (at_builtin; (refine wpList_append_own _ rfl _ _ 33 rfl w.heap.size 9 i0 (.string ⟨#[]⟩) 1 16 Try.underlying33 hi hz0 hz1 hz2 rfl (by decide) _ _ _ rfl (World.ownsRow.alloc ho2 _) ⟨w2.heap.size, 0, none⟩ 1 1 [.string t] rfl rfl ?c1 ?c2 ?c3 ?c4 ?c5 ?_))
      case c1 => exact oneS_new _ _ _
      case c2 => intro u hu; simp at hu; subst hu; rfl
      case c3 => unfold maxLen; omega
      case c4 => omega
      case c5 => simp; omega
      intro v' w3 hown' hgrow _
      have R1 := ownS_push hown'
      have R2 := (hc2.alloc _).grow hgrow (fun k hk => by have := (World.ownsRow.lt ho2 k hk).1; omega)
      have R3 := gr_young (gr_alloc hgw2 _) hgrow (fun k hk => (World.ownsRow.lt ho2 k hk).1)
      have R4 : Hid (∀ s ∈ ys ++ [t], s.size ≤ 3001) := fun s hs => by
        rcases List.mem_append.1 hs with h | h
        · exact HS.out s h
        · have := List.mem_singleton.1 h; subst this; omega
      clear hown' hgrow ho2 hc2 hgw2
      go_wp2
      go_roundw
      case rel => exact ⟨m - 1, _, by go_num, by rw [List.length_append]; simp; omega, R4, R1, R2, R3⟩
      case measure => simp [intOf]; omega
    · have hm0 : m = 0 := by omega
      subst hm0
      go_wp2_with fail
      refine (l1Once_any w0 _ g 30 hdc (by omega) (by omega)).mono ?_
      rintro e w2 ⟨b, rfl, hc2, hg2⟩
      have ho2 : OwnS w2 w.heap.size _ ys := row_kept ho hg2 (fun k hk e => by have := (World.ownsRow.lt ho k hk).1; simp at e; omega)
      have hgw2 := gr_trans hgw hg2
      have hs2 := hg2.size
      clear ho hdc hgw hg2
      cases b
      · go_wp2
        go_ret
        exact ⟨_, ys, rfl, ho2, by omega, HS.out, hc2, hgw2⟩
      · go_wp2_with fail
        refine (l1Below_any w0 _ g 2 hc2 (by omega) (by omega)).mono ?_
        rintro e w3 ⟨y, rfl, hy0', hy1', hc3, hg3⟩
        have ho3 : OwnS w3 w.heap.size _ ys := row_kept ho2 hg3 (fun k hk e => by have := (World.ownsRow.lt ho2 k hk).1; simp at e; omega)
        have hgw3 := gr_trans hgw2 hg3
        have hs3 := hg3.size
        clear ho2 hc2 hgw2 hg3
        by_cases hy : y = 0
        · subst hy
          go_wp2_with fail
          refine (l1Below_any w0 _ g 2 hc3 (by omega) (by omega)).mono ?_
          rintro e w4 ⟨z, rfl, hz0', hz1', hc4, hg4⟩
          have hgw4 := gr_trans hgw3 hg4
          have hs4 := hg4.size
          obtain ⟨zn, rfl⟩ := Int.eq_ofNat_of_zero_le hz0'
          clear ho3 hc3 hgw3 hg4
          go_wp2_with (at_make; (refine wpList_make_full _ rfl _ _ 33 rfl w.heap.size 9 i0 (.string ⟨#[]⟩) 1 Try.underlying33 hi hz0 hz1 .i64 .i64 (200 + (zn : Int)) (200 + (zn : Int)) (200 + zn) rfl rfl (by omega) (by omega) ?e1 ?e2 ?e3 ?_))
          case e1 => rw [hz2]; omega
          case e2 => unfold maxLen; omega
          case e3 => omega
          intro w5 ho5 hg5
          rw [madeS] at ho5
          have R1 : OwnS w5 w.heap.size (.slice (some ⟨w4.heap.size, 0, none⟩) (200 + zn) (200 + zn)) (List.replicate (200 + zn) ⟨#[]⟩) := by unfold OwnS; rw [List.length_replicate]; exact ho5
          have R2 := hc4.grow hg5 (fun k hk => by cases hk)
          have R3 := gr_young hgw4 hg5 (fun k hk => by cases hk)
          clear ho5 hg5 hc4 hgw4
          go_wp2
          go_ret
          exact ⟨_, _, rfl, R1, by rw [List.length_replicate]; omega, fun s hs => by rw [List.eq_of_mem_replicate hs]; decide, R2, R3⟩
        · have hy1'' : y = 1 := by omega
          subst hy1''
          go_wp2_with (at_make; (refine wpList_make_full _ rfl _ _ 22 rfl w3.heap.size 5 j0 (.int .u8 0) 1 Try.underlying22 hj hy0 hy1 .i64 .i64 3001 3001 3001 rfl rfl rfl rfl ?f1 ?f2 ?f3 ?_))
          case f1 => rw [hy2]; omega
          case f2 => unfold maxLen; omega
          case f3 => omega
          intro w5 ho5 hg5
          obtain ⟨zs, Hzl, hoz⟩ : ∃ zs : List UInt8, Hid (zs.length = 3001) ∧ Own w5 w3.heap.size (.slice (some ⟨w3.heap.size, 0, none⟩) 3001 3001) zs := by
            rw [madeB] at ho5
            exact ⟨List.replicate 3001 0, List.length_replicate, by unfold Own; rw [List.length_replicate]; exact ho5⟩
          have hcv := conv_own hoz
          have ho6 : OwnS w5 w.heap.size _ ys := row_kept ho3 hg5 (fun k hk e => by cases e)
          have R2 := hc3.grow hg5 (fun k hk => by cases hk)
          have R3 := gr_young hgw3 hg5 (fun k hk => by cases hk)
          have hs5 := hg5.size
          have hzs : (⟨zs.toArray⟩ : ByteArray).size ≤ 3001 := by show zs.toArray.size ≤ 3001; rw [List.size_toArray, Hzl.out]; omega
          generalize (⟨zs.toArray⟩ : ByteArray) = t at hcv hzs
          clear ho5 hg5 hc3 hgw3 ho3 hoz
          go_wp2_with (at_builtin; (refine wpList_append_own _ rfl _ _ 33 rfl w.heap.size 9 i0 (.string ⟨#[]⟩) 1 16 Try.underlying33 hi hz0 hz1 hz2 rfl (by decide) _ _ _ rfl (World.ownsRow.alloc ho6 _) ⟨w5.heap.size, 0, none⟩ 1 1 [.string t] rfl rfl ?g1 ?g2 ?g3 ?g4 ?g5 ?_))
          case g1 => exact oneS_new _ _ _
          case g2 => intro u hu; simp at hu; subst hu; rfl
          case g3 => unfold maxLen; omega
          case g4 => omega
          case g5 => simp; omega
          intro v' w6 hown' hgrow _
          have R1 := ownS_push hown'
          have R5 := (R2.alloc _).grow hgrow (fun k hk => by have := (World.ownsRow.lt ho6 k hk).1; omega)
          have R6 := gr_young (gr_alloc R3 _) hgrow (fun k hk => (World.ownsRow.lt ho6 k hk).1)
          have R4 : Hid (∀ s ∈ ys ++ [t], s.size ≤ 3001) := fun s hs => by
            rcases List.mem_append.1 hs with h | h
            · exact HS.out s h
            · have := List.mem_singleton.1 h; subst this; exact hzs
          clear hown' hgrow ho6 R2 R3
          go_wp2
          go_ret
          exact ⟨_, _, rfl, R1, by rw [List.length_append]; simp; omega, R4.out, R5, R6⟩
end Go.Proofs.Ytbldoeadmnepkaa
