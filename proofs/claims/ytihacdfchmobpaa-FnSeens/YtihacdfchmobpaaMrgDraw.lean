/- The draws of the law of snapshots. -/
import Derived.Test.YtihacdfchmobpaaDrawAny
import Derived.Test.YtihacdfchmobpaaDrawHelp
import Derived.Test.YtihacdfchmobpaaNumHelp
namespace Go.Proofs.Ytihacdfchmobpaa
open Go.RowKit
theorem ownI_gM {w w' : World} {B g : Nat} {v : Value} {ns : List Int} (h : OwnI w B v ns) (hg : w.grownBy w' (some g)) (hB : g < B) : OwnI w' B v ns :=
  row_kept h hg (fun k hk e => by have := (World.ownsRow.lt h k hk).1; simp at e; omega)
/-- What the draw of snapshots leaves. -/
def SnapsD (w0 w : World) (g : Nat) (e : Ending) (w' : World) : Prop :=
  ∃ (v : Value) (qs : List Int), e = .returned v ∧ OwnI w' w.heap.size v qs ∧ qs.length ≤ 21 ∧ DCur w0 w' g ∧ w.grownBy w' (some g)
set_option maxHeartbeats 2000000 in
set_option maxRecDepth 100000 in
theorem l6DrawSnaps_any (w0 w : World) (g : Nat) (h : DCur w0 w g) :
    Calls Try.prog 46 #[.pointer (some ⟨g, 0, none⟩)] w fun e w' => SnapsD w0 w g e w' := by
  obtain ⟨i0, hi, hz0, hz1, hz2⟩ := info_parts Try.info2
  have hlt := h.lt
  have hdc := h.alloc (.cells #[] 2)
  have hst := ownI_none w
  have hgr := gr_alloc (gr_refl w (some g)) (.cells #[] 2)
  go_enter Try.func46, Try.ntmps46
  go_wp2_with fail
  refine (l1Below_any w0 _ g 4 hdc (by omega) (by omega)).mono ?_
  rintro e w1 ⟨x, rfl, hx0, hx1, hc1, hg1⟩
  have ho1 := ownI_gM hst hg1 hlt
  have hgr1 := gr_trans hgr hg1
  clear hdc hst hgr hg1
  go_wp2
  go_loopw [3, 4] (fun o n wr => ∃ (m : Int) (ys : List Int), n = .int .i64 m ∧ 0 ≤ m ∧ m ≤ 4 ∧ (ys.length : Int) + m ≤ 4 ∧ OwnI wr w.heap.size o ys ∧ DCur w0 wr g ∧ w.grownBy wr (some g)) (fun _ n _ => (intOf n).toNat)
  case atStart => exact ⟨x, [], rfl, hx0, by omega, by simp; omega, ho1, hc1, hgr1⟩
  case round =>
    obtain ⟨m, ys, rfl, hm0, hm4, hyl, ho, hc, hgw⟩ := hrel
    clear ho1 hc1 hgr1
    by_cases hmp : 0 < m
    · go_wp2_with fail
      refine (l1From_any w0 _ g 0 14 hc (by omega) (by omega) (by omega)).mono ?_
      rintro e w2 ⟨z, rfl, hz0', hz1', hc2, hg2⟩
      have ho2 := ownI_gM ho hg2 hlt
      have hgw2 := gr_trans hgw hg2
      have hs2 := hgw2.size
      have hoi := ownI_one w2 z
      have ho3 := ho2.below (below1 w2 (.cells #[.int .i64 z] 2))
      have hc3 := hc2.alloc (.cells #[.int .i64 z] 2)
      have hgw3 := gr_alloc hgw2 (.cells #[.int .i64 z] 2)
      have hyl2 : (((ys ++ [z]).length : Nat) : Int) + (m - 1) ≤ 4 := by rw [List.length_append]; simp; omega
      clear ho hc hgw hg2
      go_wp2_with (at_builtin; (refine wpList_append_ints rfl _ _ rfl w.heap.size _ _ ys [z] rfl rfl ho3 hoi.rd (by simp; omega) (by simp; omega) ?_))
      intro v5 w5 ho5 hg5
      have hc5 := hc3.grow hg5 (fun k hk => by have := (World.ownsRow.lt ho2 k hk).1; omega)
      have hgr5 := gr_young hgw3 hg5 (fun k hk => (World.ownsRow.lt ho2 k hk).1)
      clear ho2 hc2 hgw2 ho3 hc3 hgw3 hg5 hoi
      go_wp2
      go_roundw
      case rel => exact ⟨m - 1, _, rfl, by omega, by omega, hyl2, ho5, hc5, hgr5⟩
      case measure => simp [intOf]; omega
    · have hm1 : m = 0 := by omega
      subst hm1
      go_wp2_with fail
      refine (l1Once_any w0 _ g 30 hc (by omega) (by omega)).mono ?_
      rintro e w2 ⟨b, rfl, hc2, hg2⟩
      have ho2 := ownI_gM ho hg2 hlt
      have hgw2 := gr_trans hgw hg2
      have hs2 := hgw2.size
      clear ho hc hgw hg2
      cases b
      · go_wp2
        go_ret
        exact ⟨_, ys, rfl, ho2, by omega, hc2, hgw2⟩
      · go_wp2_with fail
        refine (l1Below_any w0 _ g 2 hc2 (by omega) (by omega)).mono ?_
        rintro e w4 ⟨z, rfl, hz0', hz1', hc4, hg4⟩
        have hgw4 := gr_trans hgw2 hg4
        have hs4 := hg4.size
        obtain ⟨zn, rfl⟩ := Int.eq_ofNat_of_zero_le hz0'
        clear ho2 hc2 hgw2 hg4
        go_wp2_with (at_make; (refine wpList_make_full _ rfl _ _ 35 rfl w.heap.size 2 i0 (.int .i64 0) 1 Try.underlying35 hi hz0 hz1 .i64 .i64 (20 + (zn : Int)) (20 + (zn : Int)) (20 + zn) rfl rfl (by omega) (by omega) ?e1 ?e2 ?e3 ?_))
        case e1 => rw [hz2]; omega
        case e2 => unfold maxLen; omega
        case e3 => omega
        intro w5 ho5 hg5
        rw [made_IV] at ho5
        have R1 : OwnI w5 w.heap.size (.slice (some ⟨w4.heap.size, 0, none⟩) (20 + zn) (20 + zn)) (List.replicate (20 + zn) 0) := by unfold OwnI; rw [List.length_replicate]; exact ho5
        have R2 := hc4.grow hg5 (fun k hk => by cases hk)
        have R3 := gr_young hgw4 hg5 (fun k hk => by cases hk)
        clear ho5 hg5 hc4 hgw4
        go_wp2
        go_ret
        exact ⟨_, _, rfl, R1, by rw [List.length_replicate]; omega, R2, R3⟩
/-- What DrawSeens leaves. -/
def SeensD (w : World) (e : Ending) (w' : World) : Prop :=
  ∃ (v vq : Value) (es : List Ent) (qs : List Int), e = .returned (.tuple #[v, vq]) ∧ OwnE w' w.heap.size v es ∧ OwnI w' w.heap.size vq qs ∧ es.length ≤ 400 ∧ qs.length ≤ 21 ∧ (∀ x ∈ es, Small x) ∧ Below w.heap.size w w'
set_option maxHeartbeats 1000000 in
set_option maxRecDepth 100000 in
theorem drawSeens_any (v : Value) (bs : List UInt8) (w : World) (hr : Rd w v bs) (hb : bs.length ≤ 4096) :
    Calls Try.prog 15 #[v] w fun e w' => SeensD w e w' := by
  go_enter Try.func15, Try.ntmps15
  go_wp2_with fail
  refine (l1New_any v bs w hr hb).mono ?_
  rintro e w1 ⟨g, rfl, hc1⟩
  have hs1 := hc1.bel.size
  go_wp2_with fail
  refine (l3DrawAny_any w _ g hc1).mono ?_
  rintro e w2 ⟨vL, es, rfl, ho2, hl2, hsm, hc2, hg2⟩
  have hgl := hc1.lt
  have HS : Hid (∀ x ∈ es, Small x) := hsm
  have hs2 := hg2.size
  clear hsm hc1 hg2
  go_wp2_with fail
  refine (l6DrawSnaps_any w _ g hc2).mono ?_
  rintro e w3 ⟨vq, qs, rfl, hq3, hql, hc3, hg3⟩
  have ho3 := ownE_g ho2 hg3 hgl
  have b3 := hc3.bel
  clear ho2 hc2 hc3 hg3
  go_wp2
  go_ret2
  exact ⟨_, _, es, qs, rfl, ho3.mono hs1, hq3.mono (by omega), hl2, hql, HS.out, b3⟩
end Go.Proofs.Ytihacdfchmobpaa
