/- Whatever code it is called with, laws.FnPut returns true and its argument reads as before: what is put is seen from its number on, and all that was seen ahead of it is seen as it was, by the program as by the model. No condition. -/
import Derived.Test.YthaobdknpgnapaaRows
import Derived.Test.YthaobdknpgnapaaDrawPut
import Derived.Test.YthaobdknpgnapaaEntImplPut
import Derived.Test.YthaobdknpgnapaaEntSpecPut2
import Derived.ProofKit
import Derived.OpenShut
import Derived.ShutString
import Derived.ChangeOld
namespace Go.Proofs.Ythaobdknpgnapaa
open Go.ChangeShapes Go.WideShapes Go.ChangeAt Go.RowKit
theorem hidP {p : Prop} (h : p) : Hid p := h
theorem fitsOf {es : List Ent} (h : ∀ x ∈ es, Small x) : ∀ x ∈ es, Fits x := fun x hx => (h x hx).fits
theorem specSeenO (v : Value) (es : List Ent) (key : ByteArray) (q : Int) (o : Option Ent) (x : Ent) (s : Bool) (w : World) (hr : RdE w v es) (hf : ∀ e ∈ es, Fits e) (ho : seenA es key q = o) (hx : o.getD zeroE = x) (hs : o.isSome = s) :
    Calls Try.prog 16 #[v, .string key, .int .i64 q] w fun e w' => e = .returned (.tuple #[.agg #[.string x.key, .string x.val, .int .i64 x.seq, .bool x.gone], .bool s]) ∧ Below w.heap.size w w' := by
  have := specSeen_any v es key q w hr hf
  unfold SeenPost at this
  rwa [ho, hx, hs] at this
theorem implSeenO (v : Value) (es : List Ent) (key : ByteArray) (q : Int) (o : Option Ent) (x : Ent) (s : Bool) (w : World) (hr : RdE w v es) (hf : ∀ e ∈ es, Fits e) (ho : seenA es key q = o) (hx : o.getD zeroE = x) (hs : o.isSome = s) :
    Calls Try.prog 11 #[v, .string key, .int .i64 q] w fun e w' => e = .returned (.tuple #[.agg #[.string x.key, .string x.val, .int .i64 x.seq, .bool x.gone], .bool s]) ∧ Below w.heap.size w w' := by
  have := implSeen_any v es key q w hr hf
  unfold SeenPost at this
  rwa [ho, hx, hs] at this
theorem insE_fits {es : List Ent} {x : Ent} (h : ∀ y ∈ es, Fits y) (hx : Fits x) : ∀ y ∈ insE es x, Fits y := by
  intro y hy
  simp only [insE, List.mem_append, List.mem_cons] at hy
  rcases hy with hy | rfl | hy
  · exact h y (List.mem_of_mem_take hy)
  · exact hx
  · exact h y (List.mem_of_mem_drop hy)
theorem insE_in (es : List Ent) (x : Ent) : x ∈ insE es x := by simp [insE]
theorem insE_old {es : List Ent} {x y : Ent} (h : y ∈ es) : y ∈ insE es x := by
  rw [← List.take_append_drop (atE es x) es] at h
  simp only [insE, List.mem_append, List.mem_cons]
  rcases List.mem_append.1 h with h | h
  · exact .inl h
  · exact .inr (.inr h)
theorem nth_in {es : List Ent} {k : Nat} (h : k < es.length) : nth es k ∈ es := by rw [nth_eq h]; exact List.getElem_mem h
theorem seenA_in {es : List Ent} (h : okL es = true) {x : Ent} (hx : x ∈ es) : seenA es x.key x.seq = some x := by
  unfold seenA; rw [if_pos h]; exact seen_mem h hx
/-- A box that is filled. -/
theorem box_set4 {w : World} {b : Nat} {z : Ent} (h : BoxAt w b z) (x : Ent) : EntAt ((((w.setCell ⟨b, 0, none⟩ (.string x.key)).setCell ⟨b, 1, none⟩ (.string x.val)).setCell ⟨b, 2, none⟩ (.int .i64 x.seq)).setCell ⟨b, 3, none⟩ (.bool x.gone)) b 0 x := by
  obtain ⟨p0, p1, p2, p3, _⟩ := h.facts
  have q0 := World.cell?_setCell_same w ⟨b, 0, none⟩ (.string x.key) p0
  refine ⟨?_, ?_, ?_, ?_⟩
  · simp [World.cell?_setCell_other, q0]
  · have : (w.setCell ⟨b, 0, none⟩ (.string x.key)).cell? ⟨b, 1, none⟩ = some (.string z.val) := by simp [World.cell?_setCell_other, p1]
    have := World.cell?_setCell_same _ ⟨b, 1, none⟩ (.string x.val) this
    simp [World.cell?_setCell_other, this]
  · have : ((w.setCell ⟨b, 0, none⟩ (.string x.key)).setCell ⟨b, 1, none⟩ (.string x.val)).cell? ⟨b, 2, none⟩ = some (.int .i64 z.seq) := by simp [World.cell?_setCell_other, p2]
    have := World.cell?_setCell_same _ ⟨b, 2, none⟩ (.int .i64 x.seq) this
    simp [World.cell?_setCell_other, this]
  · have : (((w.setCell ⟨b, 0, none⟩ (.string x.key)).setCell ⟨b, 1, none⟩ (.string x.val)).setCell ⟨b, 2, none⟩ (.int .i64 x.seq)).cell? ⟨b, 3, none⟩ = some (.bool z.gone) := by simp [World.cell?_setCell_other, p3]
    exact World.cell?_setCell_same _ ⟨b, 3, none⟩ (.bool x.gone) this
theorem OwnE.set4y {w : World} {B c : Nat} {v : Value} {es : List Ent} (h : OwnE w B v es) (hc : ∀ k, v.ownBlock = some k → k ≠ c) (u0 u1 u2 u3 : Value) (i j k l : Nat) : OwnE ((((w.setCell ⟨c, i, none⟩ u0).setCell ⟨c, j, none⟩ u1).setCell ⟨c, k, none⟩ u2).setCell ⟨c, l, none⟩ u3) B v es := by
  have d : ∀ k, v.ownBlock = some k → (some c : Option Nat) ≠ some k := fun k hk e => hc k hk (Option.some.inj e).symm
  exact row_kept (row_kept (row_kept (row_kept h (set_grown _) d) (set_grown _) d) (set_grown _) d) (set_grown _) d
set_option maxHeartbeats 4000000 in
set_option maxRecDepth 100000 in
theorem lawPutF (v : Value) (bs : List UInt8) (w : World) (hr : Rd w v bs) :
    Calls Try.prog 3 #[v] w fun e w' => e = .returned (.bool true) ∧ Below w.heap.size w w' := by
  by_cases hbig : 4096 < bs.length
  · have hb2 : decide (4096 < (bs.length : Int)) = true := by simp; omega
    go_enter Try.func3, Try.ntmps3
    go_wp2_with fail
    refine (big_any v bs w hr).mono ?_
    rw [hb2]
    rintro e wb ⟨rfl, hwb⟩
    obtain rfl := hwb.symm
    go_wp2
    go_ret
    exact ⟨rfl, Below.refl _ _⟩
  have hb2 : decide (4096 < (bs.length : Int)) = false := by simp; omega
  go_enter Try.func3, Try.ntmps3
  go_wp2_with fail
  refine (big_any v bs w hr).mono ?_
  rw [hb2]
  rintro e wb ⟨rfl, hwb⟩
  obtain rfl := hwb.symm
  clear hb2
  go_wp2_with fail
  refine (drawPut_any v bs _ hr (by omega)).mono ?_
  rintro e w1 ⟨vL, es, x, rfl, ho1, hl1, hsm, hsx, b1⟩
  have HF : Hid (∀ x ∈ es, Fits x) := fitsOf hsm
  have HX : Hid (Fits x) := hsx.fits
  clear hsm hsx
  have hx2 := entAt_new w1 x 26
  have b2 := b1.alloc b1.size (.cells #[.string x.key, .string x.val, .int .i64 x.seq, .bool x.gone] 26)
  have ho2 := ho1.below (below1 _ (.cells #[.string x.key, .string x.val, .int .i64 x.seq, .bool x.gone] 26))
  have hs1 := b1.size
  clear ho1 b1
  go_wp2_with fail
  generalize w1.alloc (.cells #[.string x.key, .string x.val, .int .i64 x.seq, .bool x.gone] 26) = W2 at hx2 b2 ho2 ⊢
  refine (implPut_any vL es x _ ho2.rd HF.out HX.out).mono ?_
  rintro e w3 ⟨vx, rfl, hp3, hb3⟩
  have b3 := b2.trans (hb3.mono b2.size)
  have ho3 := ho2.below hb3
  have hx3 := hx2.below hb3
  have hr3 := hr.below b3
  clear ho2 hx2 hb3 b2
  generalize hok : putOk es x = p at ⊢
  have HOK := hidP hok
  clear hok
  have hpp : (p != p) = false := by simp
  go_wp2_with fail
  refine (drawSeen_any v bs _ hr3 (by omega)).mono ?_
  rintro e w4 ⟨vM, ms, key, q, rfl, hm4, hml, hms, hkz, hq0, hq1, hb4⟩
  have b4 := b3.trans (hb4.mono b3.size)
  have ho4 := ho3.below hb4
  have hx4 := hx3.below hb4
  have hp4 := hp3.below hb4
  have HM : Hid (∀ x ∈ ms, Fits x) := fitsOf hms
  clear ho3 hx3 hp3 hb4 b3 hms hr3
  obtain ⟨o, hO⟩ : ∃ o, seenA ms key q = o := ⟨_, rfl⟩
  obtain ⟨z, hZ⟩ : ∃ z, o.getD zeroE = z := ⟨_, rfl⟩
  obtain ⟨t, hT⟩ : ∃ t, o.isSome = t := ⟨_, rfl⟩
  have HT : Hid (t = true → z.key = key ∧ z.seq ≤ q) := by
    intro ht
    subst hT
    cases o with
    | none => simp at ht
    | some y =>
      have hy : y = z := hZ
      subst hy
      unfold seenA at hO
      by_cases hk : okL ms = true
      · rw [if_pos hk] at hO; exact seenL_some hO
      · rw [if_neg hk] at hO; cases hO
  have HO := hidP hO
  have HZ := hidP hZ
  have HT2 := hidP hT
  clear hO hZ hT
  go_wp2_with fail
  refine (implSeenO vM ms key q o z t _ hm4.rd HM.out HO.out HZ.out HT2.out).mono ?_
  rintro e w5 ⟨rfl, hb5⟩
  have b5 := b4.trans (hb5.mono b4.size)
  have ho5 := ho4.below hb5
  have hx5 := hx4.below hb5
  have hp5 := hp4.below hb5
  have hm5 := hm4.below hb5
  clear ho4 hx4 hp4 hm4 hb5 b4
  have hz6 := entAt_new w5 z 26
  have b6 := b5.alloc b5.size (.cells #[.string z.key, .string z.val, .int .i64 z.seq, .bool z.gone] 26)
  have ho6 := ho5.below (below1 _ (.cells #[.string z.key, .string z.val, .int .i64 z.seq, .bool z.gone] 26))
  have hx6 := hx5.below (below1 _ (.cells #[.string z.key, .string z.val, .int .i64 z.seq, .bool z.gone] 26))
  have hp6 := hp5.below (below1 _ (.cells #[.string z.key, .string z.val, .int .i64 z.seq, .bool z.gone] 26))
  have hm6 := hm5.below (below1 _ (.cells #[.string z.key, .string z.val, .int .i64 z.seq, .bool z.gone] 26))
  clear ho5 hx5 hp5 hm5 b5
  obtain ⟨c0, c1, c2, c3⟩ := id hx6
  simp only [Nat.zero_add] at c1 c2 c3
  go_wp2_with fail
  generalize w5.alloc (.cells #[.string z.key, .string z.val, .int .i64 z.seq, .bool z.gone] 26) = W6 at hz6 b6 ho6 hx6 hp6 hm6 c0 c1 c2 c3 ⊢
  refine (specPut_any vL es x _ ho6.rd HF.out HX.out).mono ?_
  rintro e w7 ⟨vy, rfl, hy7, hb7⟩
  have b7 := b6.trans (hb7.mono b6.size)
  have ho7 := ho6.below hb7
  have hx7 := hx6.below hb7
  have hp7 := hp6.below hb7
  have hm7 := hm6.below hb7
  have hz7 := hz6.below hb7
  rw [HOK.out]
  clear ho6 hx6 hp6 hm6 hz6 hb7 b6 c0 c1 c2 c3
  go_wp2_with fail
  refine (likeEnts_same _ _ _ _ hp7.rd hy7.rd).mono ?_
  rintro e w8 ⟨rfl, n8, rfl⟩
  have b8 := belowN b7 n8
  have ho8 := ho7.drewN n8
  have hp8 := hp7.drewN n8
  have hm8 := hm7.drewN n8
  have hx8 : EntAt (w7.drewN n8) w1.heap.size 0 x := hx7
  have hz8 : EntAt (w7.drewN n8) w5.heap.size 0 z := hz7
  clear ho7 hx7 hp7 hm7 hz7 hy7 b7
  generalize w7.drewN n8 = W8 at b8 ho8 hp8 hm8 hx8 hz8 ⊢
  go_wp2_with fail
  refine (implEntriesOk_any vL es _ ho8.rd HF.out).mono ?_
  rintro e w9 ⟨rfl, hb9⟩
  have b9 := b8.trans (hb9.mono b8.size)
  have ho9 := ho8.below hb9
  have hx9 := hx8.below hb9
  have hp9 := hp8.below hb9
  have hm9 := hm8.below hb9
  have hz9 := hz8.below hb9
  clear ho8 hx8 hp8 hm8 hz8 hb9 b8
  go_wp2_with fail
  refine (specEntriesOk_any vL es _ ho9.rd HF.out).mono ?_
  rintro e w10 ⟨rfl, hb10⟩
  have b10 := b9.trans (hb10.mono b9.size)
  have ho10 := ho9.below hb10
  have hx10 := hx9.below hb10
  have hp10 := hp9.below hb10
  have hm10 := hm9.below hb10
  have hz10 := hz9.below hb10
  clear ho9 hx9 hp9 hm9 hz9 hb10 b9
  have hkk : (okL es != okL es) = false := by simp
  generalize okL es = kk at hkk ⊢
  go_wp2_with fail
  refine (specSeenO vM ms key q o z t _ hm10.rd HM.out HO.out HZ.out HT2.out).mono ?_
  rintro e w11 ⟨rfl, hb11⟩
  have b11 := b10.trans (hb11.mono b10.size)
  have ho11 := ho10.below hb11
  have hx11 := hx10.below hb11
  have hp11 := hp10.below hb11
  have hz11 := hz10.below hb11
  clear ho10 hx10 hp10 hm10 hz10 hb11 b10
  have hy12 := entAt_new w11 z 26
  have b12 := b11.alloc b11.size (.cells #[.string z.key, .string z.val, .int .i64 z.seq, .bool z.gone] 26)
  have ho12 := ho11.below (below1 _ (.cells #[.string z.key, .string z.val, .int .i64 z.seq, .bool z.gone] 26))
  have hx12 := hx11.below (below1 _ (.cells #[.string z.key, .string z.val, .int .i64 z.seq, .bool z.gone] 26))
  have hp12 := hp11.below (below1 _ (.cells #[.string z.key, .string z.val, .int .i64 z.seq, .bool z.gone] 26))
  have hz12 := hz11.below (below1 _ (.cells #[.string z.key, .string z.val, .int .i64 z.seq, .bool z.gone] 26))
  clear ho11 hx11 hp11 hz11 b11
  have htt : (t != t) = false := by simp
  obtain ⟨z0, z1, z2, z3⟩ := id hz12
  obtain ⟨y0, y1, y2, y3⟩ := id hy12
  obtain ⟨c0, c1, c2, c3⟩ := id hx12
  simp only [Nat.zero_add] at z1 z2 z3 y1 y2 y3 c1 c2 c3
  cases p with
  | false =>
    have RES : putL es x = [] := by unfold putL; simp [HOK.out]
    rw [RES] at hp12
    obtain ⟨aX, cX, hvX, hX1, hX2, _⟩ := id hp12.rd
    subst hvX
    unfold maxLen at hX2
    cases t with
    | false =>
      go_wp2
      go_ret
      exact ⟨rfl, b12⟩
    | true =>
      obtain ⟨k1, k2⟩ := HT.out rfl
      subst k1
      have hgq : decide (q < z.seq) = false := by simp; omega
      go_wp2
      go_ret
      exact ⟨rfl, b12⟩
  | true =>
    have RES : putL es x = insE es x := by unfold putL; simp [HOK.out]
    rw [RES] at hp12
    clear RES
    have HPK : Hid (okL (insE es x) = true) := insE_ok HOK.out
    have HXF : Hid (∀ y ∈ insE es x, Fits y) := insE_fits HF.out HX.out
    have HIL : Hid ((insE es x).length = es.length + 1) := insE_length es x
    have HSX : Hid (seenA (insE es x) x.key x.seq = some x) := seenA_in HPK.out (insE_in es x)
    obtain ⟨ys, hys⟩ : ∃ ys, ys = insE es x := ⟨_, rfl⟩
    have HYS : Hid (ys = insE es x) := hys
    rw [← hys] at hp12 HPK HXF HIL HSX
    clear hys
    cases t with
    | false =>
      go_wp2_with fail
      generalize w11.alloc (.cells #[.string z.key, .string z.val, .int .i64 z.seq, .bool z.gone] 26) = W12 at b12 ho12 hx12 hp12 c0 c1 c2 c3 ⊢
      clear hz12 hy12 z0 z1 z2 z3 y0 y1 y2 y3
      refine (implSeenO vx ys x.key x.seq (some x) x true _ hp12.rd HXF.out HSX.out rfl rfl).mono ?_
      rintro e w13 ⟨rfl, hb13⟩
      have b13 := b12.trans (hb13.mono b12.size)
      have ho13 := ho12.below hb13
      have hx13 := hx12.below hb13
      have hp13 := hp12.below hb13
      clear ho12 hx12 hp12 hb13 b12 c0 c1 c2 c3
      have hy14 := entAt_new w13 x 26
      have b14 := b13.alloc b13.size (.cells #[.string x.key, .string x.val, .int .i64 x.seq, .bool x.gone] 26)
      have ho14 := ho13.below (below1 _ (.cells #[.string x.key, .string x.val, .int .i64 x.seq, .bool x.gone] 26))
      have hx14 := hx13.below (below1 _ (.cells #[.string x.key, .string x.val, .int .i64 x.seq, .bool x.gone] 26))
      have hp14 := hp13.below (below1 _ (.cells #[.string x.key, .string x.val, .int .i64 x.seq, .bool x.gone] 26))
      clear ho13 hx13 hp13 b13
      obtain ⟨c0, c1, c2, c3⟩ := id hx14
      simp only [Nat.zero_add] at c1 c2 c3
      go_wp2_with fail
      generalize w13.alloc (.cells #[.string x.key, .string x.val, .int .i64 x.seq, .bool x.gone] 26) = W14 at b14 ho14 hx14 hp14 hy14 c0 c1 c2 c3 ⊢
      refine (implOk_yes vx ys _ hp14.rd HXF.out HPK.out).mono ?_
      rintro e w15 ⟨rfl, hb15⟩
      have b15 := b14.trans (hb15.mono b14.size)
      have ho15 := ho14.below hb15
      have hp15 := hp14.below hb15
      clear ho14 hx14 hp14 hy14 hb15 b14 c0 c1 c2 c3
      obtain ⟨aX, cX, hvX, hP1, hP2, _⟩ := id hp15.rd
      obtain ⟨aL, cL, hvL, hLl, hLm, _⟩ := id ho15.rd
      subst hvX
      subst hvL
      unfold maxLen at hP2 hLm
      have hil2 : ((ys.length : Int) != (es.length : Int) + 1) = false := by have := HIL.out; simp; omega
      go_wp2
      go_loopw [18] (fun i wr => ∃ k : Nat, k ≤ es.length ∧ i = .int .i64 k ∧ OwnE wr _ (.slice aL es.length cL) es ∧ OwnE wr _ (.slice aX ys.length cX) ys ∧ Below w.heap.size w wr) (fun i _ => es.length - (intOf i).toNat)
      case atStart => exact ⟨0, Nat.zero_le _, rfl, ho15, hp15, b15⟩
      case round =>
        clear ho15 hp15 b15
        obtain ⟨k, hk, rfl, ho, hp, hb⟩ := hrel
        by_cases hlt : k < es.length
        · obtain ⟨b, off, rfl, hc⟩ := ho.rd.at rfl k hlt
          obtain ⟨y, hy⟩ : ∃ y, y = nth es k := ⟨_, rfl⟩
          rw [← hy] at hc
          have HSY : Hid (seenA ys y.key y.seq = some y) := by rw [hy]; exact seenA_in HPK.out (by rw [HYS.out]; exact insE_old (nth_in hlt))
          clear hy
          go_wp2_with fail
          refine wp_region_noPanic ?_
          refine wp_region_held_drew (S := fun w' => EntAt w' b (off + k * 4) y) (by kernel_rfl) hc (fun hH => ?_)
          have qo : OwnE wr.drew _ _ es := ho.drewN 1
          have qp : OwnE wr.drew _ _ ys := hp.drewN 1
          have qb := hb.drew
          have hlo := ownE_lt qo
          have hlp := ownE_lt qp
          have hlb := hH.lt
          clear ho hp hb hc
          revert hH qo qp qb hlo hlp hlb
          generalize wr.drew = W0
          intro hH qo qp qb hlo hlp hlb
          refine tkA 0 138 hH ?_
          try simp only [Act.put, List.setIfInBounds_toArray, List.set_cons_zero, List.set_cons_succ]
          refine tkA 1 139 hH ?_
          try simp only [Act.put, List.setIfInBounds_toArray, List.set_cons_zero, List.set_cons_succ]
          refine tkA 2 140 hH ?_
          try simp only [Act.put, List.setIfInBounds_toArray, List.set_cons_zero, List.set_cons_succ]
          refine tkA 3 141 hH ?_
          try simp only [Act.put, List.setIfInBounds_toArray, List.set_cons_zero, List.set_cons_succ]
          refine tkA 4 142 hH ?_
          try simp only [Act.put, List.setIfInBounds_toArray, List.set_cons_zero, List.set_cons_succ]
          refine tkA 5 143 hH ?_
          try simp only [Act.put, List.setIfInBounds_toArray, List.set_cons_zero, List.set_cons_succ]
          refine tkA 6 144 hH ?_
          try simp only [Act.put, List.setIfInBounds_toArray, List.set_cons_zero, List.set_cons_succ]
          refine tkA 7 145 hH ?_
          try simp only [Act.put, List.setIfInBounds_toArray, List.set_cons_zero, List.set_cons_succ]
          refine tkA 8 146 hH ?_
          try simp only [Act.put, List.setIfInBounds_toArray, List.set_cons_zero, List.set_cons_succ]
          refine tkA 9 147 hH ?_
          try simp only [Act.put, List.setIfInBounds_toArray, List.set_cons_zero, List.set_cons_succ]
          refine tkA 10 148 hH ?_
          try simp only [Act.put, List.setIfInBounds_toArray, List.set_cons_zero, List.set_cons_succ]
          refine wpAnyH_ready (rs := [11, 15]) (by kernel_rfl) (by simp) ?_
          refine AllReadyH.cons rfl (fun K hK => ?_) ?_
          · skip
            go_simp
            refine (implSeenO _ ys y.key y.seq (some y) y true _ qp.rd HXF.out HSY.out rfl rfl).mono ?_
            rintro e w6 ⟨rfl, hb6⟩
            have hsz := hb6.size
            have hbw : w.heap.size ≤ w6.heap.size := Nat.le_trans qb.size hsz
            have ol := (qo.below hb6).below (below1 _ (.cells #[.string y.key, .string y.val, .int .i64 y.seq, .bool y.gone] 26))
            have ox := (qp.below hb6).below (below1 _ (.cells #[.string y.key, .string y.val, .int .i64 y.seq, .bool y.gone] 26))
            have bl := (qb.trans (hb6.mono qb.size)).alloc hbw (.cells #[.string y.key, .string y.val, .int .i64 y.seq, .bool y.gone] 26)
            have e1 := entAt_new w6 y 26
            have e2 := (hH.below hb6).below (below1 _ (.cells #[.string y.key, .string y.val, .int .i64 y.seq, .bool y.gone] 26))
            have hJ0 := hH.below hb6
            refine hK.out _ _ hJ0 (fun hI => ?_)
            clear hK K
            try simp only [Act.put, List.setIfInBounds_toArray, List.set_cons_zero, List.set_cons_succ]
            refine tkA 12 137 hI ?_
            try simp only [Act.put, List.setIfInBounds_toArray, List.set_cons_zero, List.set_cons_succ]
            refine tkA 13 150 hI ?_
            try simp only [Act.put, List.setIfInBounds_toArray, List.set_cons_zero, List.set_cons_succ]
            refine tkA 14 151 hI ?_
            try simp only [Act.put, List.setIfInBounds_toArray, List.set_cons_zero, List.set_cons_succ]
            refine wpAnyH_ready (rs := [15]) (by kernel_rfl) (by simp) ?_
            refine AllReadyH.cons rfl (fun K hK => ?_) AllReadyH.nil
            go_simp
            have hJ := hJ0.below (below1 _ (.cells #[.string ⟨#[]⟩, .string ⟨#[]⟩, .int .i64 0, .bool false] 26))
            refine hK.out _ _ hJ (fun hM => ?_)
            clear hK K hM hI hJ0
            try simp only [Act.put, List.setIfInBounds_toArray, List.set_cons_zero, List.set_cons_succ]
            have hbz := box_zero w6 26
            obtain ⟨y0, y1, y2, y3, f0, f1, f2, f3⟩ := hbz.facts
            clear hlo hlp hH hb6 qo qp qb
            refine wpAnyH_ready (rs := [16]) (by kernel_rfl) (by simp) ?_
            refine AllReadyH.cons rfl (fun K hK => ?_) AllReadyH.nil
            go_simp
            refine hK.out _ _ e2 (fun hL => ?_)
            clear hK K
            try simp only [Act.put, List.setIfInBounds_toArray, List.set_cons_zero, List.set_cons_succ]
            generalize w6.alloc (.cells #[.string y.key, .string y.val, .int .i64 y.seq, .bool y.gone] 26) = W9 at e1 e2 ol ox bl ⊢
            clear hJ hbz hL y0 y1 y2 y3 f0 f1 f2 f3 hbw
            refine tkA 17 20 e2 ?_
            try simp only [Act.put, List.setIfInBounds_toArray, List.set_cons_zero, List.set_cons_succ]
            refine wpAnyH_done (by kernel_rfl) ?_ _
            refine NoPanic.normal ?_
            go_wp2_with fail
            refine wp_region_noPanic ?_
            refine wp_region_held_drew (S := fun w' => EntAt w' w6.heap.size 0 y ∧ EntAt w' b (off + k * 4) y) (by kernel_rfl) ⟨e1, e2⟩ (fun hR => ?_)
            refine tkA 0 152 hR ?_
            try simp only [Act.put, List.setIfInBounds_toArray, List.set_cons_zero, List.set_cons_succ]
            refine tkA 1 153 hR ?_
            try simp only [Act.put, List.setIfInBounds_toArray, List.set_cons_zero, List.set_cons_succ]
            refine tkA 2 154 hR ?_
            try simp only [Act.put, List.setIfInBounds_toArray, List.set_cons_zero, List.set_cons_succ]
            refine tkA 3 155 hR ?_
            try simp only [Act.put, List.setIfInBounds_toArray, List.set_cons_zero, List.set_cons_succ]
            refine tkA 4 156 hR ?_
            try simp only [Act.put, List.setIfInBounds_toArray, List.set_cons_zero, List.set_cons_succ]
            refine tkA 5 157 hR ?_
            try simp only [Act.put, List.setIfInBounds_toArray, List.set_cons_zero, List.set_cons_succ]
            refine tkA 6 158 hR ?_
            try simp only [Act.put, List.setIfInBounds_toArray, List.set_cons_zero, List.set_cons_succ]
            refine tkA 7 159 hR ?_
            try simp only [Act.put, List.setIfInBounds_toArray, List.set_cons_zero, List.set_cons_succ]
            refine tkA 8 160 hR ?_
            try simp only [Act.put, List.setIfInBounds_toArray, List.set_cons_zero, List.set_cons_succ]
            refine tkA 9 161 hR ?_
            try simp only [Act.put, List.setIfInBounds_toArray, List.set_cons_zero, List.set_cons_succ]
            refine wpAnyH_done (by kernel_rfl) ?_ _
            refine NoPanic.normal ?_
            go_wp2
            go_roundw
            case rel => exact ⟨k + 1, by omega, by go_num, ol, ox, bl.drew⟩
            case measure => simp [intOf]; omega
          · skip
            refine AllReadyH.cons rfl (fun K hK => ?_) AllReadyH.nil
            go_simp
            have hJ1 := hH.below (below1 _ (.cells #[.string ⟨#[]⟩, .string ⟨#[]⟩, .int .i64 0, .bool false] 26))
            refine hK.out _ _ hJ1 (fun hI => ?_)
            clear hK K
            try simp only [Act.put, List.setIfInBounds_toArray, List.set_cons_zero, List.set_cons_succ]
            have hz1 := box_zero W0 26
            have hbw : w.heap.size ≤ W0.heap.size := qb.size
            replace qo := qo.below (below1 _ (.cells #[.string ⟨#[]⟩, .string ⟨#[]⟩, .int .i64 0, .bool false] 26))
            replace qp := qp.below (below1 _ (.cells #[.string ⟨#[]⟩, .string ⟨#[]⟩, .int .i64 0, .bool false] 26))
            replace qb := qb.alloc hbw (.cells #[.string ⟨#[]⟩, .string ⟨#[]⟩, .int .i64 0, .bool false] 26)
            refine wpAnyH_ready (rs := [11]) (by kernel_rfl) (by simp) ?_
            refine AllReadyH.cons rfl (fun K hK => ?_) AllReadyH.nil
            go_simp
            refine (implSeenO _ ys y.key y.seq (some y) y true _ qp.rd HXF.out HSY.out rfl rfl).mono ?_
            rintro e w6 ⟨rfl, hb6⟩
            replace qo := qo.below hb6
            replace qp := qp.below hb6
            replace qb := qb.trans (hb6.mono qb.size)
            have hJ := hJ1.below hb6
            have hbz := hz1.below hb6
            refine hK.out _ _ hJ (fun hM => ?_)
            clear hK K
            try simp only [Act.put, List.setIfInBounds_toArray, List.set_cons_zero, List.set_cons_succ]
            refine tkA 12 137 hM ?_
            try simp only [Act.put, List.setIfInBounds_toArray, List.set_cons_zero, List.set_cons_succ]
            refine tkA 13 150 hM ?_
            try simp only [Act.put, List.setIfInBounds_toArray, List.set_cons_zero, List.set_cons_succ]
            refine tkA 14 151 hM ?_
            try simp only [Act.put, List.setIfInBounds_toArray, List.set_cons_zero, List.set_cons_succ]
            obtain ⟨y0, y1, y2, y3, f0, f1, f2, f3⟩ := hbz.facts
            have hbo : ∀ j, (Value.slice (some ⟨b, off, none⟩) es.length cL).ownBlock = some j → j ≠ W0.heap.size := fun j hj => by have := hlo j hj; omega
            have hbp : ∀ j, (Value.slice aX ys.length cX).ownBlock = some j → j ≠ W0.heap.size := fun j hj => by have := hlp j hj; omega
            have hbne : b ≠ W0.heap.size := by omega
            clear hlo hlp hH hb6 hJ1 hz1 hM hI
            have e1 := box_set4 hbz y
            have e2 := hJ.set4 hbne (.string y.key) (.string y.val) (.int .i64 y.seq) (.bool y.gone) 0 1 2 3
            have ol := qo.set4y hbo (.string y.key) (.string y.val) (.int .i64 y.seq) (.bool y.gone) 0 1 2 3
            have ox := qp.set4y hbp (.string y.key) (.string y.val) (.int .i64 y.seq) (.bool y.gone) 0 1 2 3
            have bl := below4 qb hbw (.string y.key) (.string y.val) (.int .i64 y.seq) (.bool y.gone) 0 1 2 3
            refine wpAnyH_ready (rs := [16]) (by kernel_rfl) (by simp) ?_
            refine AllReadyH.cons rfl (fun K hK => ?_) AllReadyH.nil
            go_simp
            refine hK.out _ _ e2 (fun hL => ?_)
            clear hK K
            try simp only [Act.put, List.setIfInBounds_toArray, List.set_cons_zero, List.set_cons_succ]
            generalize ((((w6.setCell ⟨W0.heap.size, 0, none⟩ (.string y.key)).setCell ⟨W0.heap.size, 1, none⟩ (.string y.val)).setCell ⟨W0.heap.size, 2, none⟩ (.int .i64 y.seq)).setCell ⟨W0.heap.size, 3, none⟩ (.bool y.gone)) = W9 at e1 e2 ol ox bl ⊢
            clear qo qp qb hJ hbz hL y0 y1 y2 y3 f0 f1 f2 f3 hbo hbp hbne hbw
            refine tkA 17 20 e2 ?_
            try simp only [Act.put, List.setIfInBounds_toArray, List.set_cons_zero, List.set_cons_succ]
            refine wpAnyH_done (by kernel_rfl) ?_ _
            refine NoPanic.normal ?_
            go_wp2_with fail
            refine wp_region_noPanic ?_
            refine wp_region_held_drew (S := fun w' => EntAt w' W0.heap.size 0 y ∧ EntAt w' b (off + k * 4) y) (by kernel_rfl) ⟨e1, e2⟩ (fun hR => ?_)
            refine tkA 0 152 hR ?_
            try simp only [Act.put, List.setIfInBounds_toArray, List.set_cons_zero, List.set_cons_succ]
            refine tkA 1 153 hR ?_
            try simp only [Act.put, List.setIfInBounds_toArray, List.set_cons_zero, List.set_cons_succ]
            refine tkA 2 154 hR ?_
            try simp only [Act.put, List.setIfInBounds_toArray, List.set_cons_zero, List.set_cons_succ]
            refine tkA 3 155 hR ?_
            try simp only [Act.put, List.setIfInBounds_toArray, List.set_cons_zero, List.set_cons_succ]
            refine tkA 4 156 hR ?_
            try simp only [Act.put, List.setIfInBounds_toArray, List.set_cons_zero, List.set_cons_succ]
            refine tkA 5 157 hR ?_
            try simp only [Act.put, List.setIfInBounds_toArray, List.set_cons_zero, List.set_cons_succ]
            refine tkA 6 158 hR ?_
            try simp only [Act.put, List.setIfInBounds_toArray, List.set_cons_zero, List.set_cons_succ]
            refine tkA 7 159 hR ?_
            try simp only [Act.put, List.setIfInBounds_toArray, List.set_cons_zero, List.set_cons_succ]
            refine tkA 8 160 hR ?_
            try simp only [Act.put, List.setIfInBounds_toArray, List.set_cons_zero, List.set_cons_succ]
            refine tkA 9 161 hR ?_
            try simp only [Act.put, List.setIfInBounds_toArray, List.set_cons_zero, List.set_cons_succ]
            refine wpAnyH_done (by kernel_rfl) ?_ _
            refine NoPanic.normal ?_
            go_wp2
            go_roundw
            case rel => exact ⟨k + 1, by omega, by go_num, ol, ox, bl.drew⟩
            case measure => simp [intOf]; omega
        · skip
          go_wp2
          go_ret
          exact ⟨rfl, hb⟩
    | true =>
      obtain ⟨k1, k2⟩ := HT.out rfl
      subst k1
      have hgq : decide (q < z.seq) = false := by simp; omega
      go_wp2_with fail
      generalize w11.alloc (.cells #[.string z.key, .string z.val, .int .i64 z.seq, .bool z.gone] 26) = W12 at b12 ho12 hx12 hp12 c0 c1 c2 c3 ⊢
      clear hz12 hy12 z0 z1 z2 z3 y0 y1 y2 y3
      refine (implSeenO vx ys x.key x.seq (some x) x true _ hp12.rd HXF.out HSX.out rfl rfl).mono ?_
      rintro e w13 ⟨rfl, hb13⟩
      have b13 := b12.trans (hb13.mono b12.size)
      have ho13 := ho12.below hb13
      have hx13 := hx12.below hb13
      have hp13 := hp12.below hb13
      clear ho12 hx12 hp12 hb13 b12 c0 c1 c2 c3
      have hy14 := entAt_new w13 x 26
      have b14 := b13.alloc b13.size (.cells #[.string x.key, .string x.val, .int .i64 x.seq, .bool x.gone] 26)
      have ho14 := ho13.below (below1 _ (.cells #[.string x.key, .string x.val, .int .i64 x.seq, .bool x.gone] 26))
      have hx14 := hx13.below (below1 _ (.cells #[.string x.key, .string x.val, .int .i64 x.seq, .bool x.gone] 26))
      have hp14 := hp13.below (below1 _ (.cells #[.string x.key, .string x.val, .int .i64 x.seq, .bool x.gone] 26))
      clear ho13 hx13 hp13 b13
      obtain ⟨c0, c1, c2, c3⟩ := id hx14
      simp only [Nat.zero_add] at c1 c2 c3
      go_wp2_with fail
      generalize w13.alloc (.cells #[.string x.key, .string x.val, .int .i64 x.seq, .bool x.gone] 26) = W14 at b14 ho14 hx14 hp14 hy14 c0 c1 c2 c3 ⊢
      refine (implOk_yes vx ys _ hp14.rd HXF.out HPK.out).mono ?_
      rintro e w15 ⟨rfl, hb15⟩
      have b15 := b14.trans (hb15.mono b14.size)
      have ho15 := ho14.below hb15
      have hp15 := hp14.below hb15
      clear ho14 hx14 hp14 hy14 hb15 b14 c0 c1 c2 c3
      obtain ⟨aX, cX, hvX, hQ1, hQ2, _⟩ := id hp15.rd
      obtain ⟨aL, cL, hvL, hLl, hLm, _⟩ := id ho15.rd
      subst hvX
      subst hvL
      unfold maxLen at hQ2 hLm
      have hil2 : ((ys.length : Int) != (es.length : Int) + 1) = false := by have := HIL.out; simp; omega
      go_wp2
      go_loopw [18] (fun i wr => ∃ k : Nat, k ≤ es.length ∧ i = .int .i64 k ∧ OwnE wr _ (.slice aL es.length cL) es ∧ OwnE wr _ (.slice aX ys.length cX) ys ∧ Below w.heap.size w wr) (fun i _ => es.length - (intOf i).toNat)
      case atStart => exact ⟨0, Nat.zero_le _, rfl, ho15, hp15, b15⟩
      case round =>
        clear ho15 hp15 b15
        obtain ⟨k, hk, rfl, ho, hp, hb⟩ := hrel
        by_cases hlt : k < es.length
        · obtain ⟨b, off, rfl, hc⟩ := ho.rd.at rfl k hlt
          obtain ⟨y, hy⟩ : ∃ y, y = nth es k := ⟨_, rfl⟩
          rw [← hy] at hc
          have HSY : Hid (seenA ys y.key y.seq = some y) := by rw [hy]; exact seenA_in HPK.out (by rw [HYS.out]; exact insE_old (nth_in hlt))
          clear hy
          go_wp2_with fail
          refine wp_region_noPanic ?_
          refine wp_region_held_drew (S := fun w' => EntAt w' b (off + k * 4) y) (by kernel_rfl) hc (fun hH => ?_)
          have qo : OwnE wr.drew _ _ es := ho.drewN 1
          have qp : OwnE wr.drew _ _ ys := hp.drewN 1
          have qb := hb.drew
          have hlo := ownE_lt qo
          have hlp := ownE_lt qp
          have hlb := hH.lt
          clear ho hp hb hc
          revert hH qo qp qb hlo hlp hlb
          generalize wr.drew = W0
          intro hH qo qp qb hlo hlp hlb
          refine tkA 0 138 hH ?_
          try simp only [Act.put, List.setIfInBounds_toArray, List.set_cons_zero, List.set_cons_succ]
          refine tkA 1 139 hH ?_
          try simp only [Act.put, List.setIfInBounds_toArray, List.set_cons_zero, List.set_cons_succ]
          refine tkA 2 140 hH ?_
          try simp only [Act.put, List.setIfInBounds_toArray, List.set_cons_zero, List.set_cons_succ]
          refine tkA 3 141 hH ?_
          try simp only [Act.put, List.setIfInBounds_toArray, List.set_cons_zero, List.set_cons_succ]
          refine tkA 4 142 hH ?_
          try simp only [Act.put, List.setIfInBounds_toArray, List.set_cons_zero, List.set_cons_succ]
          refine tkA 5 143 hH ?_
          try simp only [Act.put, List.setIfInBounds_toArray, List.set_cons_zero, List.set_cons_succ]
          refine tkA 6 144 hH ?_
          try simp only [Act.put, List.setIfInBounds_toArray, List.set_cons_zero, List.set_cons_succ]
          refine tkA 7 145 hH ?_
          try simp only [Act.put, List.setIfInBounds_toArray, List.set_cons_zero, List.set_cons_succ]
          refine tkA 8 146 hH ?_
          try simp only [Act.put, List.setIfInBounds_toArray, List.set_cons_zero, List.set_cons_succ]
          refine tkA 9 147 hH ?_
          try simp only [Act.put, List.setIfInBounds_toArray, List.set_cons_zero, List.set_cons_succ]
          refine tkA 10 148 hH ?_
          try simp only [Act.put, List.setIfInBounds_toArray, List.set_cons_zero, List.set_cons_succ]
          refine wpAnyH_ready (rs := [11, 15]) (by kernel_rfl) (by simp) ?_
          refine AllReadyH.cons rfl (fun K hK => ?_) ?_
          · skip
            go_simp
            refine (implSeenO _ ys y.key y.seq (some y) y true _ qp.rd HXF.out HSY.out rfl rfl).mono ?_
            rintro e w6 ⟨rfl, hb6⟩
            have hsz := hb6.size
            have hbw : w.heap.size ≤ w6.heap.size := Nat.le_trans qb.size hsz
            have ol := (qo.below hb6).below (below1 _ (.cells #[.string y.key, .string y.val, .int .i64 y.seq, .bool y.gone] 26))
            have ox := (qp.below hb6).below (below1 _ (.cells #[.string y.key, .string y.val, .int .i64 y.seq, .bool y.gone] 26))
            have bl := (qb.trans (hb6.mono qb.size)).alloc hbw (.cells #[.string y.key, .string y.val, .int .i64 y.seq, .bool y.gone] 26)
            have e1 := entAt_new w6 y 26
            have e2 := (hH.below hb6).below (below1 _ (.cells #[.string y.key, .string y.val, .int .i64 y.seq, .bool y.gone] 26))
            have hJ0 := hH.below hb6
            refine hK.out _ _ hJ0 (fun hI => ?_)
            clear hK K
            try simp only [Act.put, List.setIfInBounds_toArray, List.set_cons_zero, List.set_cons_succ]
            refine tkA 12 137 hI ?_
            try simp only [Act.put, List.setIfInBounds_toArray, List.set_cons_zero, List.set_cons_succ]
            refine tkA 13 150 hI ?_
            try simp only [Act.put, List.setIfInBounds_toArray, List.set_cons_zero, List.set_cons_succ]
            refine tkA 14 151 hI ?_
            try simp only [Act.put, List.setIfInBounds_toArray, List.set_cons_zero, List.set_cons_succ]
            refine wpAnyH_ready (rs := [15]) (by kernel_rfl) (by simp) ?_
            refine AllReadyH.cons rfl (fun K hK => ?_) AllReadyH.nil
            go_simp
            have hJ := hJ0.below (below1 _ (.cells #[.string ⟨#[]⟩, .string ⟨#[]⟩, .int .i64 0, .bool false] 26))
            refine hK.out _ _ hJ (fun hM => ?_)
            clear hK K hM hI hJ0
            try simp only [Act.put, List.setIfInBounds_toArray, List.set_cons_zero, List.set_cons_succ]
            have hbz := box_zero w6 26
            obtain ⟨y0, y1, y2, y3, f0, f1, f2, f3⟩ := hbz.facts
            clear hlo hlp hH hb6 qo qp qb
            refine wpAnyH_ready (rs := [16]) (by kernel_rfl) (by simp) ?_
            refine AllReadyH.cons rfl (fun K hK => ?_) AllReadyH.nil
            go_simp
            refine hK.out _ _ e2 (fun hL => ?_)
            clear hK K
            try simp only [Act.put, List.setIfInBounds_toArray, List.set_cons_zero, List.set_cons_succ]
            generalize w6.alloc (.cells #[.string y.key, .string y.val, .int .i64 y.seq, .bool y.gone] 26) = W9 at e1 e2 ol ox bl ⊢
            clear hJ hbz hL y0 y1 y2 y3 f0 f1 f2 f3 hbw
            refine tkA 17 20 e2 ?_
            try simp only [Act.put, List.setIfInBounds_toArray, List.set_cons_zero, List.set_cons_succ]
            refine wpAnyH_done (by kernel_rfl) ?_ _
            refine NoPanic.normal ?_
            go_wp2_with fail
            refine wp_region_noPanic ?_
            refine wp_region_held_drew (S := fun w' => EntAt w' w6.heap.size 0 y ∧ EntAt w' b (off + k * 4) y) (by kernel_rfl) ⟨e1, e2⟩ (fun hR => ?_)
            refine tkA 0 152 hR ?_
            try simp only [Act.put, List.setIfInBounds_toArray, List.set_cons_zero, List.set_cons_succ]
            refine tkA 1 153 hR ?_
            try simp only [Act.put, List.setIfInBounds_toArray, List.set_cons_zero, List.set_cons_succ]
            refine tkA 2 154 hR ?_
            try simp only [Act.put, List.setIfInBounds_toArray, List.set_cons_zero, List.set_cons_succ]
            refine tkA 3 155 hR ?_
            try simp only [Act.put, List.setIfInBounds_toArray, List.set_cons_zero, List.set_cons_succ]
            refine tkA 4 156 hR ?_
            try simp only [Act.put, List.setIfInBounds_toArray, List.set_cons_zero, List.set_cons_succ]
            refine tkA 5 157 hR ?_
            try simp only [Act.put, List.setIfInBounds_toArray, List.set_cons_zero, List.set_cons_succ]
            refine tkA 6 158 hR ?_
            try simp only [Act.put, List.setIfInBounds_toArray, List.set_cons_zero, List.set_cons_succ]
            refine tkA 7 159 hR ?_
            try simp only [Act.put, List.setIfInBounds_toArray, List.set_cons_zero, List.set_cons_succ]
            refine tkA 8 160 hR ?_
            try simp only [Act.put, List.setIfInBounds_toArray, List.set_cons_zero, List.set_cons_succ]
            refine tkA 9 161 hR ?_
            try simp only [Act.put, List.setIfInBounds_toArray, List.set_cons_zero, List.set_cons_succ]
            refine wpAnyH_done (by kernel_rfl) ?_ _
            refine NoPanic.normal ?_
            go_wp2
            go_roundw
            case rel => exact ⟨k + 1, by omega, by go_num, ol, ox, bl.drew⟩
            case measure => simp [intOf]; omega
          · skip
            refine AllReadyH.cons rfl (fun K hK => ?_) AllReadyH.nil
            go_simp
            have hJ1 := hH.below (below1 _ (.cells #[.string ⟨#[]⟩, .string ⟨#[]⟩, .int .i64 0, .bool false] 26))
            refine hK.out _ _ hJ1 (fun hI => ?_)
            clear hK K
            try simp only [Act.put, List.setIfInBounds_toArray, List.set_cons_zero, List.set_cons_succ]
            have hz1 := box_zero W0 26
            have hbw : w.heap.size ≤ W0.heap.size := qb.size
            replace qo := qo.below (below1 _ (.cells #[.string ⟨#[]⟩, .string ⟨#[]⟩, .int .i64 0, .bool false] 26))
            replace qp := qp.below (below1 _ (.cells #[.string ⟨#[]⟩, .string ⟨#[]⟩, .int .i64 0, .bool false] 26))
            replace qb := qb.alloc hbw (.cells #[.string ⟨#[]⟩, .string ⟨#[]⟩, .int .i64 0, .bool false] 26)
            refine wpAnyH_ready (rs := [11]) (by kernel_rfl) (by simp) ?_
            refine AllReadyH.cons rfl (fun K hK => ?_) AllReadyH.nil
            go_simp
            refine (implSeenO _ ys y.key y.seq (some y) y true _ qp.rd HXF.out HSY.out rfl rfl).mono ?_
            rintro e w6 ⟨rfl, hb6⟩
            replace qo := qo.below hb6
            replace qp := qp.below hb6
            replace qb := qb.trans (hb6.mono qb.size)
            have hJ := hJ1.below hb6
            have hbz := hz1.below hb6
            refine hK.out _ _ hJ (fun hM => ?_)
            clear hK K
            try simp only [Act.put, List.setIfInBounds_toArray, List.set_cons_zero, List.set_cons_succ]
            refine tkA 12 137 hM ?_
            try simp only [Act.put, List.setIfInBounds_toArray, List.set_cons_zero, List.set_cons_succ]
            refine tkA 13 150 hM ?_
            try simp only [Act.put, List.setIfInBounds_toArray, List.set_cons_zero, List.set_cons_succ]
            refine tkA 14 151 hM ?_
            try simp only [Act.put, List.setIfInBounds_toArray, List.set_cons_zero, List.set_cons_succ]
            obtain ⟨y0, y1, y2, y3, f0, f1, f2, f3⟩ := hbz.facts
            have hbo : ∀ j, (Value.slice (some ⟨b, off, none⟩) es.length cL).ownBlock = some j → j ≠ W0.heap.size := fun j hj => by have := hlo j hj; omega
            have hbp : ∀ j, (Value.slice aX ys.length cX).ownBlock = some j → j ≠ W0.heap.size := fun j hj => by have := hlp j hj; omega
            have hbne : b ≠ W0.heap.size := by omega
            clear hlo hlp hH hb6 hJ1 hz1 hM hI
            have e1 := box_set4 hbz y
            have e2 := hJ.set4 hbne (.string y.key) (.string y.val) (.int .i64 y.seq) (.bool y.gone) 0 1 2 3
            have ol := qo.set4y hbo (.string y.key) (.string y.val) (.int .i64 y.seq) (.bool y.gone) 0 1 2 3
            have ox := qp.set4y hbp (.string y.key) (.string y.val) (.int .i64 y.seq) (.bool y.gone) 0 1 2 3
            have bl := below4 qb hbw (.string y.key) (.string y.val) (.int .i64 y.seq) (.bool y.gone) 0 1 2 3
            refine wpAnyH_ready (rs := [16]) (by kernel_rfl) (by simp) ?_
            refine AllReadyH.cons rfl (fun K hK => ?_) AllReadyH.nil
            go_simp
            refine hK.out _ _ e2 (fun hL => ?_)
            clear hK K
            try simp only [Act.put, List.setIfInBounds_toArray, List.set_cons_zero, List.set_cons_succ]
            generalize ((((w6.setCell ⟨W0.heap.size, 0, none⟩ (.string y.key)).setCell ⟨W0.heap.size, 1, none⟩ (.string y.val)).setCell ⟨W0.heap.size, 2, none⟩ (.int .i64 y.seq)).setCell ⟨W0.heap.size, 3, none⟩ (.bool y.gone)) = W9 at e1 e2 ol ox bl ⊢
            clear qo qp qb hJ hbz hL y0 y1 y2 y3 f0 f1 f2 f3 hbo hbp hbne hbw
            refine tkA 17 20 e2 ?_
            try simp only [Act.put, List.setIfInBounds_toArray, List.set_cons_zero, List.set_cons_succ]
            refine wpAnyH_done (by kernel_rfl) ?_ _
            refine NoPanic.normal ?_
            go_wp2_with fail
            refine wp_region_noPanic ?_
            refine wp_region_held_drew (S := fun w' => EntAt w' W0.heap.size 0 y ∧ EntAt w' b (off + k * 4) y) (by kernel_rfl) ⟨e1, e2⟩ (fun hR => ?_)
            refine tkA 0 152 hR ?_
            try simp only [Act.put, List.setIfInBounds_toArray, List.set_cons_zero, List.set_cons_succ]
            refine tkA 1 153 hR ?_
            try simp only [Act.put, List.setIfInBounds_toArray, List.set_cons_zero, List.set_cons_succ]
            refine tkA 2 154 hR ?_
            try simp only [Act.put, List.setIfInBounds_toArray, List.set_cons_zero, List.set_cons_succ]
            refine tkA 3 155 hR ?_
            try simp only [Act.put, List.setIfInBounds_toArray, List.set_cons_zero, List.set_cons_succ]
            refine tkA 4 156 hR ?_
            try simp only [Act.put, List.setIfInBounds_toArray, List.set_cons_zero, List.set_cons_succ]
            refine tkA 5 157 hR ?_
            try simp only [Act.put, List.setIfInBounds_toArray, List.set_cons_zero, List.set_cons_succ]
            refine tkA 6 158 hR ?_
            try simp only [Act.put, List.setIfInBounds_toArray, List.set_cons_zero, List.set_cons_succ]
            refine tkA 7 159 hR ?_
            try simp only [Act.put, List.setIfInBounds_toArray, List.set_cons_zero, List.set_cons_succ]
            refine tkA 8 160 hR ?_
            try simp only [Act.put, List.setIfInBounds_toArray, List.set_cons_zero, List.set_cons_succ]
            refine tkA 9 161 hR ?_
            try simp only [Act.put, List.setIfInBounds_toArray, List.set_cons_zero, List.set_cons_succ]
            refine wpAnyH_done (by kernel_rfl) ?_ _
            refine NoPanic.normal ?_
            go_wp2
            go_roundw
            case rel => exact ⟨k + 1, by omega, by go_num, ol, ox, bl.drew⟩
            case measure => simp [intOf]; omega
        · skip
          go_wp2
          go_ret
          exact ⟨rfl, hb⟩
theorem own_fnPut : ownKnob Try.prog.godebug = none := by kernel_rfl
theorem laidOut_fnPut : laidOutB Try.prog = true := by kernel_rfl
set_option maxRecDepth 100000 in
theorem lifted_fnPut (os : Os) (started : os.Started) (H : Type) (enc : TypeId × Value → H) :
    ReturnsInHanded {} Try.checked os 3 .any (Rows.fnPutSpec.pre6 enc Try.prog Try.f3 Rows.fnPutRow.domain false) (Rows.fnPutSpec.post enc Try.prog Try.f3 false true false false) := by
  refine returnsInHanded_of_change (C := Try.checked) own_fnPut started (by kernel_rfl) Try.func3
    (ChangeSpec.witness6 (enc := enc) (C := Try.checked) false ⟨#[], #[.slice none 0 0], []⟩ 8 (by kernel_rfl) (by kernel_rfl) (by kernel_rfl) (by kernel_rfl)) ?_
  intro W base args ds gs before hval0 hW hcnd _
  have hval : ∀ (j : Nat) t v, Try.f3.params[j]? = some t → args[j]? = some v → Value.okWide Try.prog W .any base t v := hval0
  have hW' := hW
  obtain ⟨p, q, hA0, hV, rfl, hfz, hnd⟩ := hW
  have hA : DataW.TrodAll enc Try.prog W 0 (fun _ => true) true Try.f3.params.toList args.toList ds p := hA0
  rw [Try.params3] at hA hval
  obtain ⟨v0, vs0, d0, ds0, p0, q0, hargs, rfl, rfl, h0, r0⟩ := trodAll_cons hA
  obtain ⟨rfl, rfl, rfl⟩ := trodAll_nil r0
  obtain rfl : args = #[v0] := by cases args; simp_all
  obtain ⟨rfl, rfl⟩ := trodVars_none hV
  obtain ⟨a0, len0, cap0, rfl⟩ := okWide_slice Try.underlying22 (hval 0 22 v0 rfl rfl)
  have k0 := h0
  have lt0 : ∀ x ∈ p0, x.block < W.heap.size := by obtain ⟨m, hm⟩ := k0; exact DataW.trod_lt m _ _ _ hm
  obtain ⟨bs0, hr0⟩ : ∃ bs, Rd W (.slice a0 len0 cap0) bs := by
    obtain ⟨fuel, hf⟩ := h0
    rcases open_ints Try.underlying22 Try.underlying5 (by kernel_rfl) hf with ⟨hcs, _⟩ | ⟨x, l, c, zs, hcs, _, hl, hm, hz, _, hcell, hwz⟩
    · simp [Value.cells] at hcs
      obtain ⟨rfl, rfl, rfl⟩ := hcs
      exact ⟨[], rd_nil W⟩
    · simp [Value.cells] at hcs
      obtain ⟨rfl, rfl, rfl⟩ := hcs
      exact rd_of hl hm (by simpa using hz) hcell hwz
  clear hA0 hval0
  refine (lawPutF _ bs0 W hr0).mono fun e W' ⟨he, bel⟩ => ?_
  subst he
  exact ⟨_, rfl, _, _, _, [], _, [], hW', trodAll_mk1 (shut_bool Try.underlying4 _), (trodAll_cons_mk (Below.trod laidOut_fnPut (by kernel_rfl) (of_decide_eq_true (by kernel_rfl)) k0 bel lt0) trodAll_mk0), rfl, bel.frame _, fun h => by cases h⟩
theorem over_fnPut : Rows.fnPutRow.holds Try.pinned (OpenSpec.ofChange Rows.fnPutSpec) :=
  OpenClaim.holds_of_wide 3 Try.f3 rfl rfl rfl rfl rfl rfl rfl ⟨rfl, rfl, rfl, rfl, rfl⟩ rfl rfl rfl rfl rfl (by kernel_rfl) Try.func3 (by kernel_rfl)
    (of_decide_eq_true (by kernel_rfl)) (by unfold Func.isWrapper; first | (rw [if_pos (by decide +kernel)]; kernel_rfl) | (rw [if_neg (by decide +kernel)]; exact ⟨rfl, rfl⟩))
    (fun os started H enc _ => lifted_fnPut os started H enc)
theorem fnPut_holds : Rows.FnPutSaid := over_fnPut
#print axioms fnPut_holds

end Go.Proofs.Ythaobdknpgnapaa
