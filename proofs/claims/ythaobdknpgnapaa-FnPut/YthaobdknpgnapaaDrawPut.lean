/- The contracts of the draws for Put and Seen. -/
import Derived.Test.YthaobdknpgnapaaDrawAny
import Derived.Test.YthaobdknpgnapaaDrawHelp
import Derived.Test.YthaobdknpgnapaaEntImplOk
namespace Go.Proofs.Ythaobdknpgnapaa
open Go.RowKit
/-- What DrawSeen leaves. -/
def SeenD (w : World) (e : Ending) (w' : World) : Prop :=
  ∃ (v : Value) (es : List Ent) (k : ByteArray) (q : Int), e = .returned (.tuple #[v, .string k, .int .i64 q]) ∧ OwnE w' w.heap.size v es ∧ es.length ≤ 400 ∧ (∀ x ∈ es, Small x) ∧ k.size ≤ 3 ∧ -1 ≤ q ∧ q ≤ 20 ∧ Below w.heap.size w w'
set_option maxHeartbeats 1000000 in
set_option maxRecDepth 100000 in
theorem drawSeen_any (v : Value) (bs : List UInt8) (w : World) (hr : Rd w v bs) (hb : bs.length ≤ 4096) :
    Calls Try.prog 10 #[v] w fun e w' => SeenD w e w' := by
  go_enter Try.func10, Try.ntmps10
  go_wp2_with fail
  refine (l1New_any v bs w hr hb).mono ?_
  rintro e w1 ⟨g, rfl, hc1⟩
  have hs1 := hc1.bel.size
  go_wp2_with fail
  refine (l3DrawAny_any w _ g hc1).mono ?_
  rintro e w2 ⟨vL, es, rfl, ho2, hl2, hsm, hc2, hg2⟩
  have hgl := hc1.lt
  have HS : Hid (∀ x ∈ es, Small x) := hsm
  clear hsm hc1 hg2
  go_wp2_with fail
  refine (l3DrawKey_any w _ g hc2).mono ?_
  rintro e w3 ⟨ks, rfl, hks, hc3, hg3⟩
  have ho3 := ownE_g ho2 hg3 hgl
  clear ho2 hc2 hg3
  go_wp2_with fail
  refine (l1From_any w _ g (-1) 20 hc3 (by omega) (by omega) (by omega)).mono ?_
  rintro e w4 ⟨q, rfl, hq0, hq1, hc4, hg4⟩
  have ho4 := ownE_g ho3 hg4 hgl
  have b4 := hc4.bel
  clear ho3 hc3 hc4 hg4
  go_wp2
  go_ret3
  exact ⟨_, es, ks, q, rfl, ho4.mono hs1, hl2, HS.out, hks, hq0, hq1, b4⟩
theorem EntAt.set4 {w : World} {b o c : Nat} {e : Ent} (h : EntAt w b o e) (hne : b ≠ c) (u0 u1 u2 u3 : Value) (i j k l : Nat) : EntAt ((((w.setCell ⟨c, i, none⟩ u0).setCell ⟨c, j, none⟩ u1).setCell ⟨c, k, none⟩ u2).setCell ⟨c, l, none⟩ u3) b o e :=
  h.of_block ((heap_setCell_other _ ⟨c, l, none⟩ b u3 hne).trans ((heap_setCell_other _ ⟨c, k, none⟩ b u2 hne).trans ((heap_setCell_other _ ⟨c, j, none⟩ b u1 hne).trans (heap_setCell_other w ⟨c, i, none⟩ b u0 hne))))
theorem OwnE.set4 {w : World} {B c : Nat} {v : Value} {es : List Ent} (h : OwnE w B v es) (hc : c < B) (u0 u1 u2 u3 : Value) (i j k l : Nat) : OwnE ((((w.setCell ⟨c, i, none⟩ u0).setCell ⟨c, j, none⟩ u1).setCell ⟨c, k, none⟩ u2).setCell ⟨c, l, none⟩ u3) B v es :=
  ownsRow_setCell_below (ownsRow_setCell_below (ownsRow_setCell_below (ownsRow_setCell_below h hc _) hc _) hc _) hc _
/-- What DrawPut leaves. -/
def PutD (w : World) (e : Ending) (w' : World) : Prop :=
  ∃ (v : Value) (es : List Ent) (x : Ent), e = .returned (.tuple #[v, .agg #[.string x.key, .string x.val, .int .i64 x.seq, .bool x.gone]]) ∧ OwnE w' w.heap.size v es ∧ es.length ≤ 400 ∧ (∀ x ∈ es, Small x) ∧ Small x ∧ Below w.heap.size w w'
theorem box_of (W : World) (x : Ent) (t : TypeId) : BoxAt (W.alloc (.cells #[.string x.key, .string x.val, .int .i64 x.seq, .bool x.gone] t)) W.heap.size x :=
  ⟨entAt_new W x t, fun o => by simp⟩
set_option maxHeartbeats 2000000 in
set_option maxRecDepth 100000 in
theorem drawPut_any (v : Value) (bs : List UInt8) (w : World) (hr : Rd w v bs) (hb : bs.length ≤ 4096) :
    Calls Try.prog 8 #[v] w fun e w' => PutD w e w' := by
  have hz := box_zero w 26
  have hz1 := below1 w (.cells #[.string ⟨#[]⟩, .string ⟨#[]⟩, .int .i64 0, .bool false] 26)
  have hr2 := hr.below hz1
  go_enter Try.func8, Try.ntmps8
  go_wp2_with fail
  refine (l1New_any v bs _ hr2 hb).mono ?_
  rintro e w1 ⟨g, rfl, hc1⟩
  have hy1 := hz.below hc1.bel
  have hgl := hc1.lt
  have hge := hc1.ge
  simp at hge
  clear hz
  go_wp2_with fail
  refine (l3DrawAny_any _ _ g hc1).mono ?_
  rintro e w2 ⟨vL, es, rfl, ho2, hl2, hsm, hc2, hg2⟩
  have hy2 := hy1.block (hg2.block _ hy1.1.lt (by simp; omega))
  have HS : Hid (∀ x ∈ es, Small x) := hsm
  clear hsm hc1 hg2 hy1
  go_wp2_with fail
  refine (l1Below_any _ _ g 25 hc2 (by omega) (by omega)).mono ?_
  rintro e w3 ⟨y, rfl, hy0, hy1, hc3, hg3⟩
  have hy3 := hy2.block (hg3.block _ hy2.1.lt (by simp; omega))
  have ho3 := ownE_g ho2 hg3 hgl
  clear ho2 hc2 hg3 hy2
  go_wp2_with fail
  refine (l3DrawEntry_any _ _ g (1 + y) hc3).mono ?_
  rintro e w4 ⟨z, rfl, hz0, hzv, hzs, hc4, hg4⟩
  have hy4 := hy3.block (hg4.block _ hy3.1.lt (by simp; omega))
  have ho4 := ownE_g ho3 hg4 hgl
  have HZ : Hid (Small z) := ⟨hz0, hzv, by omega, by omega⟩
  clear ho3 hc3 hg4 hy3 hzs
  have hvl : ∀ k, vL.ownBlock = some k → k < w4.heap.size := ownE_lt ho4
  have hwl4 := hy4.1.lt
  have hx5 := box_of w4 z 26
  have hc5 := hc4.alloc (.cells #[.string z.key, .string z.val, .int .i64 z.seq, .bool z.gone] 26)
  have hy5 := hy4.below (below1 _ (.cells #[.string z.key, .string z.val, .int .i64 z.seq, .bool z.gone] 26))
  have ho5 := ho4.below (below1 _ (.cells #[.string z.key, .string z.val, .int .i64 z.seq, .bool z.gone] 26))
  have hg4l := hc4.lt
  clear hc4 hy4 ho4
  go_wp2_with fail
  refine (l1Once_any _ _ g 12 hc5 (by omega) (by omega)).mono ?_
  rintro e w6 ⟨b, rfl, hc6, hg6⟩
  have hy6 := hy5.block (hg6.block _ hy5.1.lt (by simp; omega))
  have hx6 := hx5.block (hg6.block _ hx5.1.lt (by simp; omega))
  have ho6 := ownE_g ho5 hg6 hgl
  clear hc5 hy5 ho5 hx5 hg6
  cases b with
  | false =>
    obtain ⟨y0, y1, y2, y3, f0, f1, f2, f3⟩ := hy6.facts
    have hxe := hx6.1
    have hly := hy6.1.lt
    have b6 := hz1.trans (hc6.bel.mono (by simp))
    clear hx6 hy6
    go_wp2_with fail
    refine wp_region_noPanic ?_
    refine wp_region_held_drew (S := fun w' => EntAt w' w4.heap.size 0 z) (by kernel_rfl) hxe (fun hH => ?_)
    refine tkA 0 24 hH ?_
    try simp only [Act.put, List.setIfInBounds_toArray, List.set_cons_zero, List.set_cons_succ]
    refine tkA 1 25 hH ?_
    try simp only [Act.put, List.setIfInBounds_toArray, List.set_cons_zero, List.set_cons_succ]
    refine tkA 2 2 hH ?_
    try simp only [Act.put, List.setIfInBounds_toArray, List.set_cons_zero, List.set_cons_succ]
    refine wpAnyH_ready (rs := [3]) (by kernel_rfl) (by simp) ?_
    refine AllReadyH.cons rfl (fun K hK => ?_) AllReadyH.nil
    go_simp
    refine hK.out _ _ (hH.set4 (by omega) _ _ _ _ _ _ _ _) (fun hA => ?_)
    clear hK K
    try simp only [Act.put, List.setIfInBounds_toArray, List.set_cons_zero, List.set_cons_succ]
    refine wpAnyH_done (by kernel_rfl) ?_ _
    refine NoPanic.normal ?_
    go_wp2
    refine bodyPost_ret (v := .tuple #[vL, .agg #[.string z.key, .string z.val, .int .i64 z.seq, .bool z.gone]]) (by simp [results, Try.results8, go_sem, y0, y1, y2, y3]) rfl ⟨vL, es, z, rfl, ?_, hl2, HS.out, HZ.out, below4 b6.drew (Nat.le_refl _) _ _ _ _ _ _ _ _⟩
    have hoD : OwnE w6.drew _ vL es := (show OwnE w6 _ vL es from ho6)
    exact (hoD.set4 (by omega) _ _ _ _ _ _ _ _).mono (by omega)
  | true =>
    have hc7 := hc6.alloc (.cells #[.int .i64 0, .int .i64 1000000, .int .i64 1000001] 2)
    have hbl7 := below1 w6 (.cells #[.int .i64 0, .int .i64 1000000, .int .i64 1000001] 2)
    have hy7 := hy6.below hbl7
    have hx7 := hx6.below hbl7
    have ho7 := ho6.below hbl7
    have hl6 := hc6.lt
    clear hy6 hx6 ho6 hc6 hbl7
    go_wp2_with fail
    refine (l1Below_any _ _ g 3 hc7 (by omega) (by omega)).mono ?_
    rintro e w8 ⟨x, rfl, hx0, hx1, hc8, hg8⟩
    have hcl : ∀ o, w8.cell? ⟨w6.heap.size, o, none⟩ = (w6.alloc (.cells #[.int .i64 0, .int .i64 1000000, .int .i64 1000001] 2)).cell? ⟨w6.heap.size, o, none⟩ := fun o => World.cell?_of_block (a := ⟨w6.heap.size, o, none⟩) (hg8.block _ (by simp) (by simp; omega))
    have k0 : w8.cell? ⟨w6.heap.size, 0, none⟩ = some (.int .i64 0) := by rw [hcl]; simp
    have k1 : w8.cell? ⟨w6.heap.size, 1, none⟩ = some (.int .i64 1000000) := by rw [hcl]; simp
    have k2 : w8.cell? ⟨w6.heap.size, 2, none⟩ = some (.int .i64 1000001) := by rw [hcl]; simp
    have hy8 := hy7.block (hg8.block _ hy7.1.lt (by simp; omega))
    have hx8 := hx7.block (hg8.block _ hx7.1.lt (by simp; omega))
    have ho8 := ownE_g ho7 hg8 hgl
    clear hy7 hx7 ho7 hc7 hg8 hcl
    obtain ⟨p0, p1, p2, p3, r0, r1, r2, r3⟩ := hx8.facts
    have SET : Hid (∀ nn : Int, EntAt (w8.setCell ⟨w4.heap.size, 2, none⟩ (.int .i64 nn)) w4.heap.size 0 ⟨z.key, z.val, nn, z.gone⟩) := fun nn => by
      refine ⟨?_, ?_, World.cell?_setCell_same _ _ _ p2, ?_⟩ <;> simp [World.cell?_setCell_other, p0, p1, p3]
    have KEY : Hid (∀ nn : Int, BoxAt (w8.setCell ⟨w4.heap.size, 2, none⟩ (.int .i64 nn)) w.heap.size zeroE) := fun nn => hy8.block (heap_setCell_other w8 ⟨w4.heap.size, 2, none⟩ w.heap.size _ (by simp; omega))
    have OWN : Hid (∀ nn : Int, OwnE (w8.setCell ⟨w4.heap.size, 2, none⟩ (.int .i64 nn)) _ vL es) := fun nn => row_kept ho8 (set_grown _) (fun k hk e => by have := hvl k hk; simp at e; omega)
    have BEL : Hid (∀ nn : Int, Below w.heap.size w (w8.setCell ⟨w4.heap.size, 2, none⟩ (.int .i64 nn))) := fun nn => (hz1.trans (hc8.bel.mono (by simp))).setCell (by show w.heap.size ≤ w4.heap.size; omega) _
    have hx : x = 0 ∨ x = 1 ∨ x = 2 := by omega
    clear hx8 hy8 ho8 hc8
    rcases hx with rfl | rfl | rfl
    · go_wp2_with fail
      have hx9 := SET.out 0
      have hy9 := KEY.out 0
      have ho9 := OWN.out 0
      have b9 := BEL.out 0
      generalize w8.setCell ⟨w4.heap.size, 2, none⟩ (.int .i64 0) = W9 at hx9 hy9 ho9 b9 ⊢
      have HN : Hid (Small ⟨z.key, z.val, 0, z.gone⟩) := ⟨HZ.out.1, HZ.out.2.1, by show (0 : Int) ≤ 0; omega, by show (0 : Int) ≤ 1000000000; omega⟩
      obtain ⟨y0, y1, y2, y3, f0, f1, f2, f3⟩ := hy9.facts
      have hly := hy9.1.lt
      clear hy9
      refine wp_region_noPanic ?_
      refine wp_region_held_drew (S := fun w' => EntAt w' w4.heap.size 0 ⟨z.key, z.val, 0, z.gone⟩) (by kernel_rfl) hx9 (fun hH => ?_)
      refine tkA 0 24 hH ?_
      try simp only [Act.put, List.setIfInBounds_toArray, List.set_cons_zero, List.set_cons_succ]
      refine tkA 1 25 hH ?_
      try simp only [Act.put, List.setIfInBounds_toArray, List.set_cons_zero, List.set_cons_succ]
      refine tkA 2 2 hH ?_
      try simp only [Act.put, List.setIfInBounds_toArray, List.set_cons_zero, List.set_cons_succ]
      refine wpAnyH_ready (rs := [3]) (by kernel_rfl) (by simp) ?_
      refine AllReadyH.cons rfl (fun K hK => ?_) AllReadyH.nil
      go_simp
      refine hK.out _ _ (hH.set4 (by omega) _ _ _ _ _ _ _ _) (fun hA => ?_)
      clear hK K
      try simp only [Act.put, List.setIfInBounds_toArray, List.set_cons_zero, List.set_cons_succ]
      refine wpAnyH_done (by kernel_rfl) ?_ _
      refine NoPanic.normal ?_
      go_wp2
      refine bodyPost_ret (v := .tuple #[vL, .agg #[.string z.key, .string z.val, .int .i64 0, .bool z.gone]]) (by simp [results, Try.results8, go_sem, y0, y1, y2, y3]) rfl ⟨vL, es, ⟨z.key, z.val, 0, z.gone⟩, rfl, ?_, hl2, HS.out, HN.out, below4 b9.drew (Nat.le_refl _) _ _ _ _ _ _ _ _⟩
      have hoD : OwnE W9.drew _ vL es := (show OwnE W9 _ vL es from ho9)
      exact (hoD.set4 (by omega) _ _ _ _ _ _ _ _).mono (by omega)
    · go_wp2_with fail
      have hx9 := SET.out 1000000
      have hy9 := KEY.out 1000000
      have ho9 := OWN.out 1000000
      have b9 := BEL.out 1000000
      generalize w8.setCell ⟨w4.heap.size, 2, none⟩ (.int .i64 1000000) = W9 at hx9 hy9 ho9 b9 ⊢
      have HN : Hid (Small ⟨z.key, z.val, 1000000, z.gone⟩) := ⟨HZ.out.1, HZ.out.2.1, by show (0 : Int) ≤ 1000000; omega, by show (1000000 : Int) ≤ 1000000000; omega⟩
      obtain ⟨y0, y1, y2, y3, f0, f1, f2, f3⟩ := hy9.facts
      have hly := hy9.1.lt
      clear hy9
      refine wp_region_noPanic ?_
      refine wp_region_held_drew (S := fun w' => EntAt w' w4.heap.size 0 ⟨z.key, z.val, 1000000, z.gone⟩) (by kernel_rfl) hx9 (fun hH => ?_)
      refine tkA 0 24 hH ?_
      try simp only [Act.put, List.setIfInBounds_toArray, List.set_cons_zero, List.set_cons_succ]
      refine tkA 1 25 hH ?_
      try simp only [Act.put, List.setIfInBounds_toArray, List.set_cons_zero, List.set_cons_succ]
      refine tkA 2 2 hH ?_
      try simp only [Act.put, List.setIfInBounds_toArray, List.set_cons_zero, List.set_cons_succ]
      refine wpAnyH_ready (rs := [3]) (by kernel_rfl) (by simp) ?_
      refine AllReadyH.cons rfl (fun K hK => ?_) AllReadyH.nil
      go_simp
      refine hK.out _ _ (hH.set4 (by omega) _ _ _ _ _ _ _ _) (fun hA => ?_)
      clear hK K
      try simp only [Act.put, List.setIfInBounds_toArray, List.set_cons_zero, List.set_cons_succ]
      refine wpAnyH_done (by kernel_rfl) ?_ _
      refine NoPanic.normal ?_
      go_wp2
      refine bodyPost_ret (v := .tuple #[vL, .agg #[.string z.key, .string z.val, .int .i64 1000000, .bool z.gone]]) (by simp [results, Try.results8, go_sem, y0, y1, y2, y3]) rfl ⟨vL, es, ⟨z.key, z.val, 1000000, z.gone⟩, rfl, ?_, hl2, HS.out, HN.out, below4 b9.drew (Nat.le_refl _) _ _ _ _ _ _ _ _⟩
      have hoD : OwnE W9.drew _ vL es := (show OwnE W9 _ vL es from ho9)
      exact (hoD.set4 (by omega) _ _ _ _ _ _ _ _).mono (by omega)
    · go_wp2_with fail
      have hx9 := SET.out 1000001
      have hy9 := KEY.out 1000001
      have ho9 := OWN.out 1000001
      have b9 := BEL.out 1000001
      generalize w8.setCell ⟨w4.heap.size, 2, none⟩ (.int .i64 1000001) = W9 at hx9 hy9 ho9 b9 ⊢
      have HN : Hid (Small ⟨z.key, z.val, 1000001, z.gone⟩) := ⟨HZ.out.1, HZ.out.2.1, by show (0 : Int) ≤ 1000001; omega, by show (1000001 : Int) ≤ 1000000000; omega⟩
      obtain ⟨y0, y1, y2, y3, f0, f1, f2, f3⟩ := hy9.facts
      have hly := hy9.1.lt
      clear hy9
      refine wp_region_noPanic ?_
      refine wp_region_held_drew (S := fun w' => EntAt w' w4.heap.size 0 ⟨z.key, z.val, 1000001, z.gone⟩) (by kernel_rfl) hx9 (fun hH => ?_)
      refine tkA 0 24 hH ?_
      try simp only [Act.put, List.setIfInBounds_toArray, List.set_cons_zero, List.set_cons_succ]
      refine tkA 1 25 hH ?_
      try simp only [Act.put, List.setIfInBounds_toArray, List.set_cons_zero, List.set_cons_succ]
      refine tkA 2 2 hH ?_
      try simp only [Act.put, List.setIfInBounds_toArray, List.set_cons_zero, List.set_cons_succ]
      refine wpAnyH_ready (rs := [3]) (by kernel_rfl) (by simp) ?_
      refine AllReadyH.cons rfl (fun K hK => ?_) AllReadyH.nil
      go_simp
      refine hK.out _ _ (hH.set4 (by omega) _ _ _ _ _ _ _ _) (fun hA => ?_)
      clear hK K
      try simp only [Act.put, List.setIfInBounds_toArray, List.set_cons_zero, List.set_cons_succ]
      refine wpAnyH_done (by kernel_rfl) ?_ _
      refine NoPanic.normal ?_
      go_wp2
      refine bodyPost_ret (v := .tuple #[vL, .agg #[.string z.key, .string z.val, .int .i64 1000001, .bool z.gone]]) (by simp [results, Try.results8, go_sem, y0, y1, y2, y3]) rfl ⟨vL, es, ⟨z.key, z.val, 1000001, z.gone⟩, rfl, ?_, hl2, HS.out, HN.out, below4 b9.drew (Nat.le_refl _) _ _ _ _ _ _ _ _⟩
      have hoD : OwnE W9.drew _ vL es := (show OwnE W9 _ vL es from ho9)
      exact (hoD.set4 (by omega) _ _ _ _ _ _ _ _).mono (by omega)
end Go.Proofs.Ythaobdknpgnapaa
