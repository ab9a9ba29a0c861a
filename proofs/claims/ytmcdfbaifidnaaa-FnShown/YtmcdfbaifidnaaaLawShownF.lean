/- Whatever code it is called with, laws.FnShown returns true and its argument reads as before: what is shown at a number are the newest of each key by then that are not gone, in order, by the program as by the model. No condition. -/
import Derived.Test.YtmcdfbaifidnaaaRows
import Derived.Test.YtmcdfbaifidnaaaDrawAny
import Derived.Test.YtmcdfbaifidnaaaDrawHelp
import Derived.Test.YtmcdfbaifidnaaaEntImplShown
import Derived.ProofKit
import Derived.OpenShut
import Derived.ShutString
import Derived.ChangeOld
namespace Go.Proofs.Ytmcdfbaifidnaaa
open Go.ChangeShapes Go.WideShapes Go.ChangeAt Go.RowKit
theorem hidS {p : Prop} (h : p) : Hid p := h
theorem ent_ne {z y : Ent} (h : z ≠ y) (hz : z.gone = false) (h1 : z.key.toList = y.key.toList) (h2 : z.val.toList = y.val.toList) (h3 : z.seq = y.seq) : y.gone = true := by
  cases hy : y.gone with
  | true => rfl
  | false =>
    exfalso
    apply h
    have e1 := ba_toList_inj h1
    have e2 := ba_toList_inj h2
    cases z; cases y; simp_all
theorem shTo_pre (es : List Ent) (q : Int) (k : Nat) : ∀ d, ∃ r, shTo es q (k + d) = shTo es q k ++ r
  | 0 => ⟨[], by simp⟩
  | d + 1 => by
    obtain ⟨r, hr⟩ := shTo_pre es q k d
    rw [show k + (d + 1) = (k + d) + 1 by omega, shTo]
    split
    · exact ⟨r ++ [nth es (k + d)], by rw [hr, List.append_assoc]⟩
    · exact ⟨r, hr⟩
theorem shTo_nth {es : List Ent} {q : Int} {k : Nat} (hk : k < es.length) (h : shAt es q k = true) : (shTo es q k).length < (shTo es q es.length).length ∧ nth (shTo es q es.length) (shTo es q k).length = nth es k := by
  obtain ⟨r, hr⟩ := shTo_pre es q (k + 1) (es.length - (k + 1))
  rw [show k + 1 + (es.length - (k + 1)) = es.length by omega, shTo_yes h] at hr
  have hl : (shTo es q k).length < (shTo es q es.length).length := by rw [hr]; simp
  refine ⟨hl, ?_⟩
  rw [nth_eq hl]
  simp [hr]
theorem shTo_mem {es : List Ent} {q : Int} {x : Ent} (h : x ∈ shTo es q es.length) : x ∈ es := by
  have := (shTo_sub es q es.length (Nat.le_refl _)).subset h
  rwa [List.take_length] at this
/-- What DrawShown leaves. -/
def ShowD (w : World) (e : Ending) (w' : World) : Prop :=
  ∃ (v : Value) (es : List Ent) (q : Int), e = .returned (.tuple #[v, .int .i64 q]) ∧ OwnE w' w.heap.size v es ∧ es.length ≤ 400 ∧ (∀ x ∈ es, Small x) ∧ -1 ≤ q ∧ q ≤ 25 ∧ Below w.heap.size w w'
set_option maxHeartbeats 1000000 in
set_option maxRecDepth 100000 in
theorem drawShown_any (v : Value) (bs : List UInt8) (w : World) (hr : Rd w v bs) (hb : bs.length ≤ 4096) :
    Calls Try.prog 19 #[v] w fun e w' => ShowD w e w' := by
  go_enter Try.func19, Try.ntmps19
  go_wp2_with fail
  refine (l1New_any v bs w hr hb).mono ?_
  rintro e w1 ⟨g, rfl, hc1⟩
  have hs1 := hc1.bel.size
  go_wp2_with fail
  refine (l3DrawAny_any w _ g hc1).mono ?_
  rintro e w2 ⟨vL, es, rfl, ho2, hl2, hsm, hc2, hg2⟩
  have hgl := hc1.lt
  have HS : Hid (∀ x ∈ es, Small x) := hsm
  clear hsm hc1 hg2
  go_wp2_with fail
  refine (l1From_any w _ g (-1) 25 hc2 (by omega) (by omega) (by omega)).mono ?_
  rintro e w3 ⟨q, rfl, hq0, hq1, hc3, hg3⟩
  have ho3 := ownE_g ho2 hg3 hgl
  have b3 := hc3.bel
  clear ho2 hc2 hc3 hg3
  go_wp2
  go_ret2
  exact ⟨_, es, q, rfl, ho3.mono hs1, hl2, HS.out, hq0, hq1, b3⟩
theorem specSeen_at (v : Value) (es : List Ent) (key : ByteArray) (q : Int) (o : Option Ent) (x : Ent) (s : Bool) (w : World) (hr : RdE w v es) (hf : ∀ e ∈ es, Fits e) (ho : seenA es key q = o) (hx : o.getD zeroE = x) (hs : o.isSome = s) :
    Calls Try.prog 18 #[v, .string key, .int .i64 q] w fun e w' => e = .returned (.tuple #[.agg #[.string x.key, .string x.val, .int .i64 x.seq, .bool x.gone], .bool s]) ∧ Below w.heap.size w w' := by
  have := specSeen_any v es key q w hr hf
  unfold SeenPost at this
  rwa [ho, hx, hs] at this
theorem smallFits {es : List Ent} (h : ∀ x ∈ es, Small x) : ∀ x ∈ es, Fits x := fun x hx => (h x hx).fits
set_option maxHeartbeats 4000000 in
set_option maxRecDepth 100000 in
theorem lawShownF (v : Value) (bs : List UInt8) (w : World) (hr : Rd w v bs) :
    Calls Try.prog 4 #[v] w fun e w' => e = .returned (.bool true) ∧ Below w.heap.size w w' := by
  by_cases hbig : 4096 < bs.length
  · have hb2 : decide (4096 < (bs.length : Int)) = true := by simp; omega
    go_enter Try.func4, Try.ntmps4
    go_wp2_with fail
    refine (big_any v bs w hr).mono ?_
    rw [hb2]
    rintro e wb ⟨rfl, hwb⟩
    obtain rfl := hwb.symm
    go_wp2
    go_ret
    exact ⟨rfl, Below.refl _ _⟩
  have hb2 : decide (4096 < (bs.length : Int)) = false := by simp; omega
  go_enter Try.func4, Try.ntmps4
  go_wp2_with fail
  refine (big_any v bs w hr).mono ?_
  rw [hb2]
  rintro e wb ⟨rfl, hwb⟩
  obtain rfl := hwb.symm
  clear hb2
  go_wp2_with fail
  refine (drawShown_any v bs _ hr (by omega)).mono ?_
  rintro e w1 ⟨vL, es, q, rfl, ho1, hl1, hsm, hq0, hq1, b1⟩
  have HF : Hid (∀ x ∈ es, Fits x) := smallFits hsm
  clear hsm
  go_wp2_with fail
  refine (implShown_any vL es q _ ho1.rd HF.out).mono ?_
  rintro e w2 ⟨vs, rfl, hs2, hb2⟩
  have b2 := b1.trans (hb2.mono b1.size)
  have ho2 := ho1.below hb2
  clear ho1 hb2 b1
  go_wp2_with fail
  refine (specShown_any vL es q _ ho2.rd HF.out).mono ?_
  rintro e w3 ⟨vt, rfl, ht3, hb3⟩
  have b3 := b2.trans (hb3.mono b2.size)
  have ho3 := ho2.below hb3
  have hs3 := hs2.below hb3
  clear ho2 hs2 hb3 b2
  go_wp2_with fail
  refine (likeEnts_same _ _ _ _ hs3.rd ht3.rd).mono ?_
  rintro e w4 ⟨rfl, n4, rfl⟩
  have b4 := belowN b3 n4
  have ho4 := ho3.drewN n4
  have hs4 := hs3.drewN n4
  clear ho3 hs3 ht3 b3
  obtain ⟨aS, cS, hvs, hys1, hys2, _⟩ := id hs4.rd
  obtain ⟨aL, cL, hvL, hLl, hLm, _⟩ := id ho4.rd
  subst hvs
  subst hvL
  unfold maxLen at hys2 hLm
  cases hok : okL es with
  | false =>
    have RES : shownL es q = [] := by unfold shownL; simp [hok]
    rw [RES] at hs4 hys1 ⊢
    go_wp2_with fail
    refine (specOk_no _ es _ ho4.rd HF.out hok).mono ?_
    rintro e w5 ⟨rfl, hb5⟩
    go_wp2
    go_ret
    exact ⟨rfl, b4.trans (hb5.mono b4.size)⟩
  | true =>
    have RES : shownL es q = shTo es q es.length := by unfold shownL; simp [hok]
    have hlen := okL_len hok
    have hyl := shTo_len es q es.length
    have HYOK : Hid (okL (shTo es q es.length) = true) := shownL_ok hok q
    rw [RES] at hs4 hys1 ⊢
    clear RES
    obtain ⟨ys, hys⟩ : ∃ ys, ys = shTo es q es.length := ⟨_, rfl⟩
    have HYS : Hid (ys = shTo es q es.length) := hys
    rw [← hys] at hs4 hys1 hyl ⊢
    clear hys
    go_wp2_with fail
    refine (specOk_yes _ es _ ho4.rd HF.out hok).mono ?_
    rintro e w5 ⟨rfl, hb5⟩
    have b5 := b4.trans (hb5.mono b4.size)
    have ho5 := ho4.below hb5
    have hs5 := hs4.below hb5
    clear ho4 hs4 hb5 b4
    go_wp2
    go_loopw [6, 7] (fun nn i wr => ∃ k m : Nat, k ≤ es.length ∧ i = .int .i64 k ∧ nn = .int .i64 m ∧ m ≤ k ∧ Hid (m = (shTo es q k).length) ∧ OwnE wr _ (.slice aL es.length cL) es ∧ OwnE wr _ (.slice aS ys.length cS) ys ∧ Below w.heap.size w wr) (fun _ i _ => es.length - (intOf i).toNat)
    case atStart => exact ⟨0, 0, Nat.zero_le _, rfl, rfl, Nat.le_refl _, rfl, ho5, hs5, b5⟩
    case round =>
      obtain ⟨k, m, hk, rfl, rfl, hmk, HM, ho, hs, hb⟩ := hrel
      clear ho5 hs5 b5
      by_cases hlt : k < es.length
      · obtain ⟨b, off, rfl, hc⟩ := ho.rd.at rfl k hlt
        obtain ⟨y, hy⟩ : ∃ y, y = nth es k := ⟨_, rfl⟩
        rw [← hy] at hc
        have HY : Hid (y = nth es k) := hy
        have hsh := shown_seen hok q k hlt
        rw [← hy] at hsh
        clear hy
        obtain ⟨c0, c1, c2, c3⟩ := id hc
        cases hisb : isShown es q k with
        | true =>
          rw [hisb] at hsh
          have hsa : seenA es y.key q = some y := by unfold seenA; rw [if_pos hok]; exact of_decide_eq_true hsh.symm
          cases hgn : y.gone with
          | true =>
            have HM2 : Hid (m = (shTo es q (k + 1)).length) := by unfold Hid; rw [shTo_no (by unfold shAt; rw [← HY.out, hgn]; simp)]; exact HM.out
            have HSA := hidS hsa
            have HGN := hidS hgn
            clear hsa hsh hisb hgn
            go_wp2_with fail
            refine (specSeen_at _ es y.key q (some y) y true _ ho.rd HF.out HSA.out rfl rfl).mono ?_
            rintro e w6 ⟨rfl, hb6⟩
            have b6 := hb.trans (hb6.mono hb.size)
            have ho6 := ho.below hb6
            have hs6 := hs.below hb6
            have hx7 := entAt_new w6 y 26
            have b7 := b6.alloc b6.size (.cells #[.string y.key, .string y.val, .int .i64 y.seq, .bool y.gone] 26)
            have ho7 := ho6.below (below1 _ (.cells #[.string y.key, .string y.val, .int .i64 y.seq, .bool y.gone] 26))
            have hs7 := hs6.below (below1 _ (.cells #[.string y.key, .string y.val, .int .i64 y.seq, .bool y.gone] 26))
            have hc7 := (hc.below hb6).below (below1 _ (.cells #[.string y.key, .string y.val, .int .i64 y.seq, .bool y.gone] 26))
            clear ho hs hb hc hb6 b6 ho6 hs6 c0 c1 c2 c3
            go_wp2_with fail
            generalize w6.alloc (.cells #[.string y.key, .string y.val, .int .i64 y.seq, .bool y.gone] 26) = W7 at hx7 b7 ho7 hs7 hc7 ⊢
            have hgn := HGN.out
            refine wp_region_noPanic ?_
            refine wp_region_held_drew (S := fun w' => EntAt w' w6.heap.size 0 y ∧ EntAt w' b (off + k * 4) y) (by kernel_rfl) ⟨hx7, hc7⟩ (fun hH => ?_)
            refine takeH (i := 0) (d := 49) (v := ?_) rfl rfl (by kernel_rfl) (by kernel_rfl) (by kernel_rfl) (fun _ _ _ h => h) (Or.inl ⟨by kernel_rfl, ?_⟩) hH ?_
            rotate_left 1
            · intro w hS; (try dsimp only [EntAt, Nat.zero_add] at hS); go_simp; (try with_reducible rfl)
            try simp only [Act.put, List.setIfInBounds_toArray, List.set_cons_zero, List.set_cons_succ]
            refine takeH (i := 1) (d := 50) (v := ?_) rfl rfl (by kernel_rfl) (by kernel_rfl) (by kernel_rfl) (fun _ _ _ h => h) (Or.inl ⟨by kernel_rfl, ?_⟩) hH ?_
            rotate_left 1
            · intro w hS; (try dsimp only [EntAt, Nat.zero_add] at hS); go_simp; (try with_reducible rfl)
            try simp only [Act.put, List.setIfInBounds_toArray, List.set_cons_zero, List.set_cons_succ]
            refine takeH (i := 2) (d := 51) (v := ?_) rfl rfl (by kernel_rfl) (by kernel_rfl) (by kernel_rfl) (fun _ _ _ h => h) (Or.inl ⟨by kernel_rfl, ?_⟩) hH ?_
            rotate_left 1
            · intro w hS; (try dsimp only [EntAt, Nat.zero_add] at hS); go_simp; (try with_reducible rfl)
            try simp only [Act.put, List.setIfInBounds_toArray, List.set_cons_zero, List.set_cons_succ]
            refine takeH (i := 3) (d := 52) (v := ?_) rfl rfl (by kernel_rfl) (by kernel_rfl) (by kernel_rfl) (fun _ _ _ h => h) (Or.inl ⟨by kernel_rfl, ?_⟩) hH ?_
            rotate_left 1
            · intro w hS; (try dsimp only [EntAt, Nat.zero_add] at hS); go_simp; (try with_reducible rfl)
            try simp only [Act.put, List.setIfInBounds_toArray, List.set_cons_zero, List.set_cons_succ]
            refine takeH (i := 4) (d := 53) (v := ?_) rfl rfl (by kernel_rfl) (by kernel_rfl) (by kernel_rfl) (fun _ _ _ h => h) (Or.inl ⟨by kernel_rfl, ?_⟩) hH ?_
            rotate_left 1
            · intro w hS; (try dsimp only [EntAt, Nat.zero_add] at hS); go_simp; (try with_reducible rfl)
            try simp only [Act.put, List.setIfInBounds_toArray, List.set_cons_zero, List.set_cons_succ]
            refine takeH (i := 5) (d := 54) (v := ?_) rfl rfl (by kernel_rfl) (by kernel_rfl) (by kernel_rfl) (fun _ _ _ h => h) (Or.inl ⟨by kernel_rfl, ?_⟩) hH ?_
            rotate_left 1
            · intro w hS; (try dsimp only [EntAt, Nat.zero_add] at hS); go_simp; (try with_reducible rfl)
            try simp only [Act.put, List.setIfInBounds_toArray, List.set_cons_zero, List.set_cons_succ]
            refine takeH (i := 6) (d := 55) (v := ?_) rfl rfl (by kernel_rfl) (by kernel_rfl) (by kernel_rfl) (fun _ _ _ h => h) (Or.inl ⟨by kernel_rfl, ?_⟩) hH ?_
            rotate_left 1
            · intro w hS; (try dsimp only [EntAt, Nat.zero_add] at hS); go_simp; (try with_reducible rfl)
            try simp only [Act.put, List.setIfInBounds_toArray, List.set_cons_zero, List.set_cons_succ]
            refine takeH (i := 7) (d := 56) (v := undef) rfl rfl (by kernel_rfl) (by kernel_rfl) (by kernel_rfl) (fun _ _ _ h => h) (Or.inr ⟨by kernel_rfl, rfl⟩) hH ?_
            try simp only [Act.put, List.setIfInBounds_toArray, List.set_cons_zero, List.set_cons_succ]
            refine takeH (i := 8) (d := 57) (v := undef) rfl rfl (by kernel_rfl) (by kernel_rfl) (by kernel_rfl) (fun _ _ _ h => h) (Or.inr ⟨by kernel_rfl, rfl⟩) hH ?_
            try simp only [Act.put, List.setIfInBounds_toArray, List.set_cons_zero, List.set_cons_succ]
            refine takeH (i := 9) (d := 58) (v := undef) rfl rfl (by kernel_rfl) (by kernel_rfl) (by kernel_rfl) (fun _ _ _ h => h) (Or.inr ⟨by kernel_rfl, rfl⟩) hH ?_
            try simp only [Act.put, List.setIfInBounds_toArray, List.set_cons_zero, List.set_cons_succ]
            refine takeH (i := 10) (d := 59) (v := undef) rfl rfl (by kernel_rfl) (by kernel_rfl) (by kernel_rfl) (fun _ _ _ h => h) (Or.inr ⟨by kernel_rfl, rfl⟩) hH ?_
            try simp only [Act.put, List.setIfInBounds_toArray, List.set_cons_zero, List.set_cons_succ]
            refine takeH (i := 11) (d := 60) (v := undef) rfl rfl (by kernel_rfl) (by kernel_rfl) (by kernel_rfl) (fun _ _ _ h => h) (Or.inr ⟨by kernel_rfl, rfl⟩) hH ?_
            try simp only [Act.put, List.setIfInBounds_toArray, List.set_cons_zero, List.set_cons_succ]
            refine takeH (i := 12) (d := 61) (v := undef) rfl rfl (by kernel_rfl) (by kernel_rfl) (by kernel_rfl) (fun _ _ _ h => h) (Or.inr ⟨by kernel_rfl, rfl⟩) hH ?_
            try simp only [Act.put, List.setIfInBounds_toArray, List.set_cons_zero, List.set_cons_succ]
            refine takeH (i := 13) (d := 62) (v := ?_) rfl rfl (by kernel_rfl) (by kernel_rfl) (by kernel_rfl) (fun _ _ _ h => h) (Or.inl ⟨by kernel_rfl, ?_⟩) hH ?_
            rotate_left 1
            · intro w hS; (try dsimp only [EntAt, Nat.zero_add] at hS); go_simp; (try with_reducible rfl)
            try simp only [Act.put, List.setIfInBounds_toArray, List.set_cons_zero, List.set_cons_succ]
            refine wpAnyH_done (by kernel_rfl) ?_ _
            refine NoPanic.normal ?_
            go_wp2
            go_roundw
            case rel => exact ⟨k + 1, m, by omega, by go_num, rfl, by omega, HM2, ho7, hs7, b7.drew⟩
            case measure => simp [intOf]; omega
          | false =>
            have hshA : shAt es q k = true := by unfold shAt; rw [hisb, ← HY.out, hgn]; rfl
            have hnt := shTo_nth hlt hshA
            rw [← HM.out, ← HYS.out, ← HY.out] at hnt
            have HM2 : Hid (m + 1 = (shTo es q (k + 1)).length) := by unfold Hid; rw [shTo_yes hshA, List.length_append, ← HM.out]; rfl
            clear hshA
            have HSA := hidS hsa
            have HGN := hidS hgn
            clear hsa hsh hisb hgn
            go_wp2_with fail
            refine (specSeen_at _ es y.key q (some y) y true _ ho.rd HF.out HSA.out rfl rfl).mono ?_
            rintro e w6 ⟨rfl, hb6⟩
            have b6 := hb.trans (hb6.mono hb.size)
            have ho6 := ho.below hb6
            have hs6 := hs.below hb6
            have hx7 := entAt_new w6 y 26
            have b7 := b6.alloc b6.size (.cells #[.string y.key, .string y.val, .int .i64 y.seq, .bool y.gone] 26)
            have ho7 := ho6.below (below1 _ (.cells #[.string y.key, .string y.val, .int .i64 y.seq, .bool y.gone] 26))
            have hs7 := hs6.below (below1 _ (.cells #[.string y.key, .string y.val, .int .i64 y.seq, .bool y.gone] 26))
            have hc7 := (hc.below hb6).below (below1 _ (.cells #[.string y.key, .string y.val, .int .i64 y.seq, .bool y.gone] 26))
            clear ho hs hb hc hb6 b6 ho6 hs6 c0 c1 c2 c3
            go_wp2_with fail
            generalize w6.alloc (.cells #[.string y.key, .string y.val, .int .i64 y.seq, .bool y.gone] 26) = W7 at hx7 b7 ho7 hs7 hc7 ⊢
            obtain ⟨b2, o2, ha2, hcs⟩ := hs7.rd.at rfl m hnt.1
            rw [hnt.2] at hcs
            have hml := hnt.1
            have hgl : decide ((ys.length : Int) ≤ (m : Int)) = false := by simp; omega
            have hgl2 : decide (ys.length ≤ m) = false := by simp; omega
            subst ha2
            clear hnt
            have hgn := HGN.out
            refine wp_region_noPanic ?_
            refine wp_region_held_drew (S := fun w' => EntAt w' w6.heap.size 0 y ∧ EntAt w' b (off + k * 4) y) (by kernel_rfl) ⟨hx7, hc7⟩ (fun hH => ?_)
            refine takeH (i := 0) (d := 49) (v := ?_) rfl rfl (by kernel_rfl) (by kernel_rfl) (by kernel_rfl) (fun _ _ _ h => h) (Or.inl ⟨by kernel_rfl, ?_⟩) hH ?_
            rotate_left 1
            · intro w hS; (try dsimp only [EntAt, Nat.zero_add] at hS); go_simp; (try with_reducible rfl)
            try simp only [Act.put, List.setIfInBounds_toArray, List.set_cons_zero, List.set_cons_succ]
            refine takeH (i := 1) (d := 50) (v := ?_) rfl rfl (by kernel_rfl) (by kernel_rfl) (by kernel_rfl) (fun _ _ _ h => h) (Or.inl ⟨by kernel_rfl, ?_⟩) hH ?_
            rotate_left 1
            · intro w hS; (try dsimp only [EntAt, Nat.zero_add] at hS); go_simp; (try with_reducible rfl)
            try simp only [Act.put, List.setIfInBounds_toArray, List.set_cons_zero, List.set_cons_succ]
            refine takeH (i := 2) (d := 51) (v := ?_) rfl rfl (by kernel_rfl) (by kernel_rfl) (by kernel_rfl) (fun _ _ _ h => h) (Or.inl ⟨by kernel_rfl, ?_⟩) hH ?_
            rotate_left 1
            · intro w hS; (try dsimp only [EntAt, Nat.zero_add] at hS); go_simp; (try with_reducible rfl)
            try simp only [Act.put, List.setIfInBounds_toArray, List.set_cons_zero, List.set_cons_succ]
            refine takeH (i := 3) (d := 52) (v := ?_) rfl rfl (by kernel_rfl) (by kernel_rfl) (by kernel_rfl) (fun _ _ _ h => h) (Or.inl ⟨by kernel_rfl, ?_⟩) hH ?_
            rotate_left 1
            · intro w hS; (try dsimp only [EntAt, Nat.zero_add] at hS); go_simp; (try with_reducible rfl)
            try simp only [Act.put, List.setIfInBounds_toArray, List.set_cons_zero, List.set_cons_succ]
            refine takeH (i := 4) (d := 53) (v := ?_) rfl rfl (by kernel_rfl) (by kernel_rfl) (by kernel_rfl) (fun _ _ _ h => h) (Or.inl ⟨by kernel_rfl, ?_⟩) hH ?_
            rotate_left 1
            · intro w hS; (try dsimp only [EntAt, Nat.zero_add] at hS); go_simp; (try with_reducible rfl)
            try simp only [Act.put, List.setIfInBounds_toArray, List.set_cons_zero, List.set_cons_succ]
            refine takeH (i := 5) (d := 54) (v := ?_) rfl rfl (by kernel_rfl) (by kernel_rfl) (by kernel_rfl) (fun _ _ _ h => h) (Or.inl ⟨by kernel_rfl, ?_⟩) hH ?_
            rotate_left 1
            · intro w hS; (try dsimp only [EntAt, Nat.zero_add] at hS); go_simp; (try with_reducible rfl)
            try simp only [Act.put, List.setIfInBounds_toArray, List.set_cons_zero, List.set_cons_succ]
            refine takeH (i := 6) (d := 55) (v := ?_) rfl rfl (by kernel_rfl) (by kernel_rfl) (by kernel_rfl) (fun _ _ _ h => h) (Or.inl ⟨by kernel_rfl, ?_⟩) hH ?_
            rotate_left 1
            · intro w hS; (try dsimp only [EntAt, Nat.zero_add] at hS); go_simp; (try with_reducible rfl)
            try simp only [Act.put, List.setIfInBounds_toArray, List.set_cons_zero, List.set_cons_succ]
            refine takeH (i := 7) (d := 56) (v := ?_) rfl rfl (by kernel_rfl) (by kernel_rfl) (by kernel_rfl) (fun _ _ _ h => h) (Or.inl ⟨by kernel_rfl, ?_⟩) hH ?_
            rotate_left 1
            · intro w hS; (try dsimp only [EntAt, Nat.zero_add] at hS); go_simp; (try with_reducible rfl)
            try simp only [Act.put, List.setIfInBounds_toArray, List.set_cons_zero, List.set_cons_succ]
            refine takeH (i := 8) (d := 57) (v := ?_) rfl rfl (by kernel_rfl) (by kernel_rfl) (by kernel_rfl) (fun _ _ _ h => h) (Or.inl ⟨by kernel_rfl, ?_⟩) hH ?_
            rotate_left 1
            · intro w hS; (try dsimp only [EntAt, Nat.zero_add] at hS); go_simp; (try with_reducible rfl)
            try simp only [Act.put, List.setIfInBounds_toArray, List.set_cons_zero, List.set_cons_succ]
            refine takeH (i := 9) (d := 58) (v := ?_) rfl rfl (by kernel_rfl) (by kernel_rfl) (by kernel_rfl) (fun _ _ _ h => h) (Or.inl ⟨by kernel_rfl, ?_⟩) hH ?_
            rotate_left 1
            · intro w hS; (try dsimp only [EntAt, Nat.zero_add] at hS); go_simp; (try with_reducible rfl)
            try simp only [Act.put, List.setIfInBounds_toArray, List.set_cons_zero, List.set_cons_succ]
            refine takeH (i := 10) (d := 59) (v := ?_) rfl rfl (by kernel_rfl) (by kernel_rfl) (by kernel_rfl) (fun _ _ _ h => h) (Or.inl ⟨by kernel_rfl, ?_⟩) hH ?_
            rotate_left 1
            · intro w hS; (try dsimp only [EntAt, Nat.zero_add] at hS); go_simp; (try with_reducible rfl)
            try simp only [Act.put, List.setIfInBounds_toArray, List.set_cons_zero, List.set_cons_succ]
            refine takeH (i := 11) (d := 60) (v := ?_) rfl rfl (by kernel_rfl) (by kernel_rfl) (by kernel_rfl) (fun _ _ _ h => h) (Or.inl ⟨by kernel_rfl, ?_⟩) hH ?_
            rotate_left 1
            · intro w hS; (try dsimp only [EntAt, Nat.zero_add] at hS); go_simp; (try with_reducible rfl)
            try simp only [Act.put, List.setIfInBounds_toArray, List.set_cons_zero, List.set_cons_succ]
            refine takeH (i := 12) (d := 61) (v := ?_) rfl rfl (by kernel_rfl) (by kernel_rfl) (by kernel_rfl) (fun _ _ _ h => h) (Or.inl ⟨by kernel_rfl, ?_⟩) hH ?_
            rotate_left 1
            · intro w hS; (try dsimp only [EntAt, Nat.zero_add] at hS); go_simp; (try with_reducible rfl)
            try simp only [Act.put, List.setIfInBounds_toArray, List.set_cons_zero, List.set_cons_succ]
            refine takeH (i := 13) (d := 62) (v := ?_) rfl rfl (by kernel_rfl) (by kernel_rfl) (by kernel_rfl) (fun _ _ _ h => h) (Or.inl ⟨by kernel_rfl, ?_⟩) hH ?_
            rotate_left 1
            · intro w hS; (try dsimp only [EntAt, Nat.zero_add] at hS); go_simp; (try with_reducible rfl)
            try simp only [Act.put, List.setIfInBounds_toArray, List.set_cons_zero, List.set_cons_succ]
            refine wpAnyH_done (by kernel_rfl) ?_ _
            refine NoPanic.normal ?_
            go_wp2_with fail
            refine wp_region_noPanic ?_
            refine wp_region_held_drew (S := fun w' => EntAt w' w6.heap.size 0 y ∧ EntAt w' b2 (o2 + m * 4) y) (by kernel_rfl) ⟨hx7, hcs⟩ (fun hI => ?_)
            refine takeH (i := 0) (d := 63) (v := ?_) rfl rfl (by kernel_rfl) (by kernel_rfl) (by kernel_rfl) (fun _ _ _ h => h) (Or.inl ⟨by kernel_rfl, ?_⟩) hI ?_
            rotate_left 1
            · intro w hS; (try dsimp only [EntAt, Nat.zero_add] at hS); go_simp; (try with_reducible rfl)
            try simp only [Act.put, List.setIfInBounds_toArray, List.set_cons_zero, List.set_cons_succ]
            refine takeH (i := 1) (d := 64) (v := ?_) rfl rfl (by kernel_rfl) (by kernel_rfl) (by kernel_rfl) (fun _ _ _ h => h) (Or.inl ⟨by kernel_rfl, ?_⟩) hI ?_
            rotate_left 1
            · intro w hS; (try dsimp only [EntAt, Nat.zero_add] at hS); go_simp; (try with_reducible rfl)
            try simp only [Act.put, List.setIfInBounds_toArray, List.set_cons_zero, List.set_cons_succ]
            refine takeH (i := 2) (d := 65) (v := ?_) rfl rfl (by kernel_rfl) (by kernel_rfl) (by kernel_rfl) (fun _ _ _ h => h) (Or.inl ⟨by kernel_rfl, ?_⟩) hI ?_
            rotate_left 1
            · intro w hS; (try dsimp only [EntAt, Nat.zero_add] at hS); go_simp; (try with_reducible rfl)
            try simp only [Act.put, List.setIfInBounds_toArray, List.set_cons_zero, List.set_cons_succ]
            refine takeH (i := 3) (d := 66) (v := ?_) rfl rfl (by kernel_rfl) (by kernel_rfl) (by kernel_rfl) (fun _ _ _ h => h) (Or.inl ⟨by kernel_rfl, ?_⟩) hI ?_
            rotate_left 1
            · intro w hS; (try dsimp only [EntAt, Nat.zero_add] at hS); go_simp; (try with_reducible rfl)
            try simp only [Act.put, List.setIfInBounds_toArray, List.set_cons_zero, List.set_cons_succ]
            refine takeH (i := 4) (d := 67) (v := ?_) rfl rfl (by kernel_rfl) (by kernel_rfl) (by kernel_rfl) (fun _ _ _ h => h) (Or.inl ⟨by kernel_rfl, ?_⟩) hI ?_
            rotate_left 1
            · intro w hS; (try dsimp only [EntAt, Nat.zero_add] at hS); go_simp; (try with_reducible rfl)
            try simp only [Act.put, List.setIfInBounds_toArray, List.set_cons_zero, List.set_cons_succ]
            refine takeH (i := 5) (d := 68) (v := ?_) rfl rfl (by kernel_rfl) (by kernel_rfl) (by kernel_rfl) (fun _ _ _ h => h) (Or.inl ⟨by kernel_rfl, ?_⟩) hI ?_
            rotate_left 1
            · intro w hS; (try dsimp only [EntAt, Nat.zero_add] at hS); go_simp; (try with_reducible rfl)
            try simp only [Act.put, List.setIfInBounds_toArray, List.set_cons_zero, List.set_cons_succ]
            refine takeH (i := 6) (d := 69) (v := ?_) rfl rfl (by kernel_rfl) (by kernel_rfl) (by kernel_rfl) (fun _ _ _ h => h) (Or.inl ⟨by kernel_rfl, ?_⟩) hI ?_
            rotate_left 1
            · intro w hS; (try dsimp only [EntAt, Nat.zero_add] at hS); go_simp; (try with_reducible rfl)
            try simp only [Act.put, List.setIfInBounds_toArray, List.set_cons_zero, List.set_cons_succ]
            refine takeH (i := 7) (d := 70) (v := ?_) rfl rfl (by kernel_rfl) (by kernel_rfl) (by kernel_rfl) (fun _ _ _ h => h) (Or.inl ⟨by kernel_rfl, ?_⟩) hI ?_
            rotate_left 1
            · intro w hS; (try dsimp only [EntAt, Nat.zero_add] at hS); go_simp; (try with_reducible rfl)
            try simp only [Act.put, List.setIfInBounds_toArray, List.set_cons_zero, List.set_cons_succ]
            refine takeH (i := 8) (d := 71) (v := ?_) rfl rfl (by kernel_rfl) (by kernel_rfl) (by kernel_rfl) (fun _ _ _ h => h) (Or.inl ⟨by kernel_rfl, ?_⟩) hI ?_
            rotate_left 1
            · intro w hS; (try dsimp only [EntAt, Nat.zero_add] at hS); go_simp; (try with_reducible rfl)
            try simp only [Act.put, List.setIfInBounds_toArray, List.set_cons_zero, List.set_cons_succ]
            refine takeH (i := 9) (d := 72) (v := ?_) rfl rfl (by kernel_rfl) (by kernel_rfl) (by kernel_rfl) (fun _ _ _ h => h) (Or.inl ⟨by kernel_rfl, ?_⟩) hI ?_
            rotate_left 1
            · intro w hS; (try dsimp only [EntAt, Nat.zero_add] at hS); go_simp; (try with_reducible rfl)
            try simp only [Act.put, List.setIfInBounds_toArray, List.set_cons_zero, List.set_cons_succ]
            refine takeH (i := 10) (d := 73) (v := ?_) rfl rfl (by kernel_rfl) (by kernel_rfl) (by kernel_rfl) (fun _ _ _ h => h) (Or.inl ⟨by kernel_rfl, ?_⟩) hI ?_
            rotate_left 1
            · intro w hS; (try dsimp only [EntAt, Nat.zero_add] at hS); go_simp; (try with_reducible rfl)
            try simp only [Act.put, List.setIfInBounds_toArray, List.set_cons_zero, List.set_cons_succ]
            refine takeH (i := 11) (d := 74) (v := ?_) rfl rfl (by kernel_rfl) (by kernel_rfl) (by kernel_rfl) (fun _ _ _ h => h) (Or.inl ⟨by kernel_rfl, ?_⟩) hI ?_
            rotate_left 1
            · intro w hS; (try dsimp only [EntAt, Nat.zero_add] at hS); go_simp; (try with_reducible rfl)
            try simp only [Act.put, List.setIfInBounds_toArray, List.set_cons_zero, List.set_cons_succ]
            refine wpAnyH_done (by kernel_rfl) ?_ _
            refine NoPanic.normal ?_
            go_wp2
            go_roundw
            case rel => exact ⟨k + 1, m + 1, by omega, by go_num, by go_num, by omega, HM2, ho7, hs7, b7.drew.drew⟩
            case measure => simp [intOf]; omega
        | false =>
          rw [hisb] at hsh
          have HM2 : Hid (m = (shTo es q (k + 1)).length) := by unfold Hid; rw [shTo_no (by unfold shAt; rw [hisb]; simp)]; exact HM.out
          cases hso : seenL es y.key q with
          | none =>
            have hsa : seenA es y.key q = none := by unfold seenA; rw [if_pos hok]; exact hso
            have HSA := hidS hsa
            clear hsa hsh hisb hso
            go_wp2_with fail
            refine (specSeen_at _ es y.key q none zeroE false _ ho.rd HF.out HSA.out rfl rfl).mono ?_
            rintro e w6 ⟨rfl, hb6⟩
            have b6 := hb.trans (hb6.mono hb.size)
            have ho6 := ho.below hb6
            have hs6 := hs.below hb6
            have hx7 := entAt_new w6 zeroE 26
            have b7 := b6.alloc b6.size (.cells #[.string zeroE.key, .string zeroE.val, .int .i64 zeroE.seq, .bool zeroE.gone] 26)
            have ho7 := ho6.below (below1 _ (.cells #[.string zeroE.key, .string zeroE.val, .int .i64 zeroE.seq, .bool zeroE.gone] 26))
            have hs7 := hs6.below (below1 _ (.cells #[.string zeroE.key, .string zeroE.val, .int .i64 zeroE.seq, .bool zeroE.gone] 26))
            have hc7 := (hc.below hb6).below (below1 _ (.cells #[.string zeroE.key, .string zeroE.val, .int .i64 zeroE.seq, .bool zeroE.gone] 26))
            clear ho hs hb hc hb6 b6 ho6 hs6 c0 c1 c2 c3
            go_wp2_with fail
            generalize w6.alloc (.cells #[.string zeroE.key, .string zeroE.val, .int .i64 zeroE.seq, .bool zeroE.gone] 26) = W7 at hx7 b7 ho7 hs7 hc7 ⊢
            refine wp_region_noPanic ?_
            refine wp_region_held_drew (S := fun w' => EntAt w' w6.heap.size 0 zeroE ∧ EntAt w' b (off + k * 4) y) (by kernel_rfl) ⟨hx7, hc7⟩ (fun hH => ?_)
            refine takeH (i := 0) (d := 49) (v := ?_) rfl rfl (by kernel_rfl) (by kernel_rfl) (by kernel_rfl) (fun _ _ _ h => h) (Or.inl ⟨by kernel_rfl, ?_⟩) hH ?_
            rotate_left 1
            · intro w hS; (try dsimp only [EntAt, Nat.zero_add] at hS); go_simp; (try with_reducible rfl)
            try simp only [Act.put, List.setIfInBounds_toArray, List.set_cons_zero, List.set_cons_succ]
            refine takeH (i := 1) (d := 50) (v := ?_) rfl rfl (by kernel_rfl) (by kernel_rfl) (by kernel_rfl) (fun _ _ _ h => h) (Or.inl ⟨by kernel_rfl, ?_⟩) hH ?_
            rotate_left 1
            · intro w hS; (try dsimp only [EntAt, Nat.zero_add] at hS); go_simp; (try with_reducible rfl)
            try simp only [Act.put, List.setIfInBounds_toArray, List.set_cons_zero, List.set_cons_succ]
            refine takeH (i := 2) (d := 51) (v := undef) rfl rfl (by kernel_rfl) (by kernel_rfl) (by kernel_rfl) (fun _ _ _ h => h) (Or.inr ⟨by kernel_rfl, rfl⟩) hH ?_
            try simp only [Act.put, List.setIfInBounds_toArray, List.set_cons_zero, List.set_cons_succ]
            refine takeH (i := 3) (d := 52) (v := undef) rfl rfl (by kernel_rfl) (by kernel_rfl) (by kernel_rfl) (fun _ _ _ h => h) (Or.inr ⟨by kernel_rfl, rfl⟩) hH ?_
            try simp only [Act.put, List.setIfInBounds_toArray, List.set_cons_zero, List.set_cons_succ]
            refine takeH (i := 4) (d := 53) (v := undef) rfl rfl (by kernel_rfl) (by kernel_rfl) (by kernel_rfl) (fun _ _ _ h => h) (Or.inr ⟨by kernel_rfl, rfl⟩) hH ?_
            try simp only [Act.put, List.setIfInBounds_toArray, List.set_cons_zero, List.set_cons_succ]
            refine takeH (i := 5) (d := 54) (v := ?_) rfl rfl (by kernel_rfl) (by kernel_rfl) (by kernel_rfl) (fun _ _ _ h => h) (Or.inl ⟨by kernel_rfl, ?_⟩) hH ?_
            rotate_left 1
            · intro w hS; (try dsimp only [EntAt, Nat.zero_add] at hS); go_simp; (try with_reducible rfl)
            try simp only [Act.put, List.setIfInBounds_toArray, List.set_cons_zero, List.set_cons_succ]
            refine takeH (i := 6) (d := 55) (v := ?_) rfl rfl (by kernel_rfl) (by kernel_rfl) (by kernel_rfl) (fun _ _ _ h => h) (Or.inl ⟨by kernel_rfl, ?_⟩) hH ?_
            rotate_left 1
            · intro w hS; (try dsimp only [EntAt, Nat.zero_add] at hS); go_simp; (try with_reducible rfl)
            try simp only [Act.put, List.setIfInBounds_toArray, List.set_cons_zero, List.set_cons_succ]
            refine takeH (i := 7) (d := 56) (v := undef) rfl rfl (by kernel_rfl) (by kernel_rfl) (by kernel_rfl) (fun _ _ _ h => h) (Or.inr ⟨by kernel_rfl, rfl⟩) hH ?_
            try simp only [Act.put, List.setIfInBounds_toArray, List.set_cons_zero, List.set_cons_succ]
            refine takeH (i := 8) (d := 57) (v := undef) rfl rfl (by kernel_rfl) (by kernel_rfl) (by kernel_rfl) (fun _ _ _ h => h) (Or.inr ⟨by kernel_rfl, rfl⟩) hH ?_
            try simp only [Act.put, List.setIfInBounds_toArray, List.set_cons_zero, List.set_cons_succ]
            refine takeH (i := 9) (d := 58) (v := undef) rfl rfl (by kernel_rfl) (by kernel_rfl) (by kernel_rfl) (fun _ _ _ h => h) (Or.inr ⟨by kernel_rfl, rfl⟩) hH ?_
            try simp only [Act.put, List.setIfInBounds_toArray, List.set_cons_zero, List.set_cons_succ]
            refine takeH (i := 10) (d := 59) (v := undef) rfl rfl (by kernel_rfl) (by kernel_rfl) (by kernel_rfl) (fun _ _ _ h => h) (Or.inr ⟨by kernel_rfl, rfl⟩) hH ?_
            try simp only [Act.put, List.setIfInBounds_toArray, List.set_cons_zero, List.set_cons_succ]
            refine takeH (i := 11) (d := 60) (v := undef) rfl rfl (by kernel_rfl) (by kernel_rfl) (by kernel_rfl) (fun _ _ _ h => h) (Or.inr ⟨by kernel_rfl, rfl⟩) hH ?_
            try simp only [Act.put, List.setIfInBounds_toArray, List.set_cons_zero, List.set_cons_succ]
            refine takeH (i := 12) (d := 61) (v := undef) rfl rfl (by kernel_rfl) (by kernel_rfl) (by kernel_rfl) (fun _ _ _ h => h) (Or.inr ⟨by kernel_rfl, rfl⟩) hH ?_
            try simp only [Act.put, List.setIfInBounds_toArray, List.set_cons_zero, List.set_cons_succ]
            refine takeH (i := 13) (d := 62) (v := ?_) rfl rfl (by kernel_rfl) (by kernel_rfl) (by kernel_rfl) (fun _ _ _ h => h) (Or.inl ⟨by kernel_rfl, ?_⟩) hH ?_
            rotate_left 1
            · intro w hS; (try dsimp only [EntAt, Nat.zero_add] at hS); go_simp; (try with_reducible rfl)
            try simp only [Act.put, List.setIfInBounds_toArray, List.set_cons_zero, List.set_cons_succ]
            refine wpAnyH_done (by kernel_rfl) ?_ _
            refine NoPanic.normal ?_
            go_wp2
            go_roundw
            case rel => exact ⟨k + 1, m, by omega, by go_num, rfl, by omega, HM2, ho7, hs7, b7.drew⟩
            case measure => simp [intOf]; omega
          | some z =>
            have hsa : seenA es y.key q = some z := by unfold seenA; rw [if_pos hok]; exact hso
            have HZY : Hid (z ≠ y) := fun e => by rw [e] at hso; rw [hso] at hsh; simp at hsh
            cases hgz : z.gone with
            | true =>
              have HSA := hidS hsa
              have HGN := hidS hgz
              clear hsa hsh hisb hso hgz
              go_wp2_with fail
              refine (specSeen_at _ es y.key q (some z) z true _ ho.rd HF.out HSA.out rfl rfl).mono ?_
              rintro e w6 ⟨rfl, hb6⟩
              have b6 := hb.trans (hb6.mono hb.size)
              have ho6 := ho.below hb6
              have hs6 := hs.below hb6
              have hx7 := entAt_new w6 z 26
              have b7 := b6.alloc b6.size (.cells #[.string z.key, .string z.val, .int .i64 z.seq, .bool z.gone] 26)
              have ho7 := ho6.below (below1 _ (.cells #[.string z.key, .string z.val, .int .i64 z.seq, .bool z.gone] 26))
              have hs7 := hs6.below (below1 _ (.cells #[.string z.key, .string z.val, .int .i64 z.seq, .bool z.gone] 26))
              have hc7 := (hc.below hb6).below (below1 _ (.cells #[.string z.key, .string z.val, .int .i64 z.seq, .bool z.gone] 26))
              clear ho hs hb hc hb6 b6 ho6 hs6 c0 c1 c2 c3
              go_wp2_with fail
              generalize w6.alloc (.cells #[.string z.key, .string z.val, .int .i64 z.seq, .bool z.gone] 26) = W7 at hx7 b7 ho7 hs7 hc7 ⊢
              have hgz := HGN.out
              refine wp_region_noPanic ?_
              refine wp_region_held_drew (S := fun w' => EntAt w' w6.heap.size 0 z ∧ EntAt w' b (off + k * 4) y) (by kernel_rfl) ⟨hx7, hc7⟩ (fun hH => ?_)
              refine takeH (i := 0) (d := 49) (v := ?_) rfl rfl (by kernel_rfl) (by kernel_rfl) (by kernel_rfl) (fun _ _ _ h => h) (Or.inl ⟨by kernel_rfl, ?_⟩) hH ?_
              rotate_left 1
              · intro w hS; (try dsimp only [EntAt, Nat.zero_add] at hS); go_simp; (try with_reducible rfl)
              try simp only [Act.put, List.setIfInBounds_toArray, List.set_cons_zero, List.set_cons_succ]
              refine takeH (i := 1) (d := 50) (v := ?_) rfl rfl (by kernel_rfl) (by kernel_rfl) (by kernel_rfl) (fun _ _ _ h => h) (Or.inl ⟨by kernel_rfl, ?_⟩) hH ?_
              rotate_left 1
              · intro w hS; (try dsimp only [EntAt, Nat.zero_add] at hS); go_simp; (try with_reducible rfl)
              try simp only [Act.put, List.setIfInBounds_toArray, List.set_cons_zero, List.set_cons_succ]
              refine takeH (i := 2) (d := 51) (v := ?_) rfl rfl (by kernel_rfl) (by kernel_rfl) (by kernel_rfl) (fun _ _ _ h => h) (Or.inl ⟨by kernel_rfl, ?_⟩) hH ?_
              rotate_left 1
              · intro w hS; (try dsimp only [EntAt, Nat.zero_add] at hS); go_simp; (try with_reducible rfl)
              try simp only [Act.put, List.setIfInBounds_toArray, List.set_cons_zero, List.set_cons_succ]
              refine takeH (i := 3) (d := 52) (v := ?_) rfl rfl (by kernel_rfl) (by kernel_rfl) (by kernel_rfl) (fun _ _ _ h => h) (Or.inl ⟨by kernel_rfl, ?_⟩) hH ?_
              rotate_left 1
              · intro w hS; (try dsimp only [EntAt, Nat.zero_add] at hS); go_simp; (try with_reducible rfl)
              try simp only [Act.put, List.setIfInBounds_toArray, List.set_cons_zero, List.set_cons_succ]
              refine takeH (i := 4) (d := 53) (v := ?_) rfl rfl (by kernel_rfl) (by kernel_rfl) (by kernel_rfl) (fun _ _ _ h => h) (Or.inl ⟨by kernel_rfl, ?_⟩) hH ?_
              rotate_left 1
              · intro w hS; (try dsimp only [EntAt, Nat.zero_add] at hS); go_simp; (try with_reducible rfl)
              try simp only [Act.put, List.setIfInBounds_toArray, List.set_cons_zero, List.set_cons_succ]
              refine takeH (i := 5) (d := 54) (v := ?_) rfl rfl (by kernel_rfl) (by kernel_rfl) (by kernel_rfl) (fun _ _ _ h => h) (Or.inl ⟨by kernel_rfl, ?_⟩) hH ?_
              rotate_left 1
              · intro w hS; (try dsimp only [EntAt, Nat.zero_add] at hS); go_simp; (try with_reducible rfl)
              try simp only [Act.put, List.setIfInBounds_toArray, List.set_cons_zero, List.set_cons_succ]
              refine takeH (i := 6) (d := 55) (v := ?_) rfl rfl (by kernel_rfl) (by kernel_rfl) (by kernel_rfl) (fun _ _ _ h => h) (Or.inl ⟨by kernel_rfl, ?_⟩) hH ?_
              rotate_left 1
              · intro w hS; (try dsimp only [EntAt, Nat.zero_add] at hS); go_simp; (try with_reducible rfl)
              try simp only [Act.put, List.setIfInBounds_toArray, List.set_cons_zero, List.set_cons_succ]
              refine takeH (i := 7) (d := 56) (v := undef) rfl rfl (by kernel_rfl) (by kernel_rfl) (by kernel_rfl) (fun _ _ _ h => h) (Or.inr ⟨by kernel_rfl, rfl⟩) hH ?_
              try simp only [Act.put, List.setIfInBounds_toArray, List.set_cons_zero, List.set_cons_succ]
              refine takeH (i := 8) (d := 57) (v := undef) rfl rfl (by kernel_rfl) (by kernel_rfl) (by kernel_rfl) (fun _ _ _ h => h) (Or.inr ⟨by kernel_rfl, rfl⟩) hH ?_
              try simp only [Act.put, List.setIfInBounds_toArray, List.set_cons_zero, List.set_cons_succ]
              refine takeH (i := 9) (d := 58) (v := undef) rfl rfl (by kernel_rfl) (by kernel_rfl) (by kernel_rfl) (fun _ _ _ h => h) (Or.inr ⟨by kernel_rfl, rfl⟩) hH ?_
              try simp only [Act.put, List.setIfInBounds_toArray, List.set_cons_zero, List.set_cons_succ]
              refine takeH (i := 10) (d := 59) (v := undef) rfl rfl (by kernel_rfl) (by kernel_rfl) (by kernel_rfl) (fun _ _ _ h => h) (Or.inr ⟨by kernel_rfl, rfl⟩) hH ?_
              try simp only [Act.put, List.setIfInBounds_toArray, List.set_cons_zero, List.set_cons_succ]
              refine takeH (i := 11) (d := 60) (v := undef) rfl rfl (by kernel_rfl) (by kernel_rfl) (by kernel_rfl) (fun _ _ _ h => h) (Or.inr ⟨by kernel_rfl, rfl⟩) hH ?_
              try simp only [Act.put, List.setIfInBounds_toArray, List.set_cons_zero, List.set_cons_succ]
              refine takeH (i := 12) (d := 61) (v := undef) rfl rfl (by kernel_rfl) (by kernel_rfl) (by kernel_rfl) (fun _ _ _ h => h) (Or.inr ⟨by kernel_rfl, rfl⟩) hH ?_
              try simp only [Act.put, List.setIfInBounds_toArray, List.set_cons_zero, List.set_cons_succ]
              refine takeH (i := 13) (d := 62) (v := ?_) rfl rfl (by kernel_rfl) (by kernel_rfl) (by kernel_rfl) (fun _ _ _ h => h) (Or.inl ⟨by kernel_rfl, ?_⟩) hH ?_
              rotate_left 1
              · intro w hS; (try dsimp only [EntAt, Nat.zero_add] at hS); go_simp; (try with_reducible rfl)
              try simp only [Act.put, List.setIfInBounds_toArray, List.set_cons_zero, List.set_cons_succ]
              refine wpAnyH_done (by kernel_rfl) ?_ _
              refine NoPanic.normal ?_
              go_wp2
              go_roundw
              case rel => exact ⟨k + 1, m, by omega, by go_num, rfl, by omega, HM2, ho7, hs7, b7.drew⟩
              case measure => simp [intOf]; omega
            | false =>
              have HSA := hidS hsa
              have HGN := hidS hgz
              clear hsa hsh hisb hso hgz
              go_wp2_with fail
              refine (specSeen_at _ es y.key q (some z) z true _ ho.rd HF.out HSA.out rfl rfl).mono ?_
              rintro e w6 ⟨rfl, hb6⟩
              have b6 := hb.trans (hb6.mono hb.size)
              have ho6 := ho.below hb6
              have hs6 := hs.below hb6
              have hx7 := entAt_new w6 z 26
              have b7 := b6.alloc b6.size (.cells #[.string z.key, .string z.val, .int .i64 z.seq, .bool z.gone] 26)
              have ho7 := ho6.below (below1 _ (.cells #[.string z.key, .string z.val, .int .i64 z.seq, .bool z.gone] 26))
              have hs7 := hs6.below (below1 _ (.cells #[.string z.key, .string z.val, .int .i64 z.seq, .bool z.gone] 26))
              have hc7 := (hc.below hb6).below (below1 _ (.cells #[.string z.key, .string z.val, .int .i64 z.seq, .bool z.gone] 26))
              clear ho hs hb hc hb6 b6 ho6 hs6 c0 c1 c2 c3
              go_wp2_with fail
              generalize w6.alloc (.cells #[.string z.key, .string z.val, .int .i64 z.seq, .bool z.gone] 26) = W7 at hx7 b7 ho7 hs7 hc7 ⊢
              have hgz := HGN.out
              refine wp_region_noPanic ?_
              refine wp_region_held_drew (S := fun w' => EntAt w' w6.heap.size 0 z ∧ EntAt w' b (off + k * 4) y) (by kernel_rfl) ⟨hx7, hc7⟩ (fun hH => ?_)
              refine takeH (i := 0) (d := 49) (v := ?_) rfl rfl (by kernel_rfl) (by kernel_rfl) (by kernel_rfl) (fun _ _ _ h => h) (Or.inl ⟨by kernel_rfl, ?_⟩) hH ?_
              rotate_left 1
              · intro w hS; (try dsimp only [EntAt, Nat.zero_add] at hS); go_simp; (try with_reducible rfl)
              try simp only [Act.put, List.setIfInBounds_toArray, List.set_cons_zero, List.set_cons_succ]
              refine takeH (i := 1) (d := 50) (v := ?_) rfl rfl (by kernel_rfl) (by kernel_rfl) (by kernel_rfl) (fun _ _ _ h => h) (Or.inl ⟨by kernel_rfl, ?_⟩) hH ?_
              rotate_left 1
              · intro w hS; (try dsimp only [EntAt, Nat.zero_add] at hS); go_simp; (try with_reducible rfl)
              try simp only [Act.put, List.setIfInBounds_toArray, List.set_cons_zero, List.set_cons_succ]
              refine takeH (i := 2) (d := 51) (v := ?_) rfl rfl (by kernel_rfl) (by kernel_rfl) (by kernel_rfl) (fun _ _ _ h => h) (Or.inl ⟨by kernel_rfl, ?_⟩) hH ?_
              rotate_left 1
              · intro w hS; (try dsimp only [EntAt, Nat.zero_add] at hS); go_simp; (try with_reducible rfl)
              try simp only [Act.put, List.setIfInBounds_toArray, List.set_cons_zero, List.set_cons_succ]
              refine takeH (i := 3) (d := 52) (v := ?_) rfl rfl (by kernel_rfl) (by kernel_rfl) (by kernel_rfl) (fun _ _ _ h => h) (Or.inl ⟨by kernel_rfl, ?_⟩) hH ?_
              rotate_left 1
              · intro w hS; (try dsimp only [EntAt, Nat.zero_add] at hS); go_simp; (try with_reducible rfl)
              try simp only [Act.put, List.setIfInBounds_toArray, List.set_cons_zero, List.set_cons_succ]
              refine takeH (i := 4) (d := 53) (v := ?_) rfl rfl (by kernel_rfl) (by kernel_rfl) (by kernel_rfl) (fun _ _ _ h => h) (Or.inl ⟨by kernel_rfl, ?_⟩) hH ?_
              rotate_left 1
              · intro w hS; (try dsimp only [EntAt, Nat.zero_add] at hS); go_simp; (try with_reducible rfl)
              try simp only [Act.put, List.setIfInBounds_toArray, List.set_cons_zero, List.set_cons_succ]
              refine takeH (i := 5) (d := 54) (v := ?_) rfl rfl (by kernel_rfl) (by kernel_rfl) (by kernel_rfl) (fun _ _ _ h => h) (Or.inl ⟨by kernel_rfl, ?_⟩) hH ?_
              rotate_left 1
              · intro w hS; (try dsimp only [EntAt, Nat.zero_add] at hS); go_simp; (try with_reducible rfl)
              try simp only [Act.put, List.setIfInBounds_toArray, List.set_cons_zero, List.set_cons_succ]
              refine takeH (i := 6) (d := 55) (v := ?_) rfl rfl (by kernel_rfl) (by kernel_rfl) (by kernel_rfl) (fun _ _ _ h => h) (Or.inl ⟨by kernel_rfl, ?_⟩) hH ?_
              rotate_left 1
              · intro w hS; (try dsimp only [EntAt, Nat.zero_add] at hS); go_simp; (try with_reducible rfl)
              try simp only [Act.put, List.setIfInBounds_toArray, List.set_cons_zero, List.set_cons_succ]
              refine takeH (i := 7) (d := 56) (v := ?_) rfl rfl (by kernel_rfl) (by kernel_rfl) (by kernel_rfl) (fun _ _ _ h => h) (Or.inl ⟨by kernel_rfl, ?_⟩) hH ?_
              rotate_left 1
              · intro w hS; (try dsimp only [EntAt, Nat.zero_add] at hS); go_simp; (try with_reducible rfl)
              try simp only [Act.put, List.setIfInBounds_toArray, List.set_cons_zero, List.set_cons_succ]
              refine takeH (i := 8) (d := 57) (v := ?_) rfl rfl (by kernel_rfl) (by kernel_rfl) (by kernel_rfl) (fun _ _ _ h => h) (Or.inl ⟨by kernel_rfl, ?_⟩) hH ?_
              rotate_left 1
              · intro w hS; (try dsimp only [EntAt, Nat.zero_add] at hS); go_simp; (try with_reducible rfl)
              try simp only [Act.put, List.setIfInBounds_toArray, List.set_cons_zero, List.set_cons_succ]
              refine takeH (i := 9) (d := 58) (v := ?_) rfl rfl (by kernel_rfl) (by kernel_rfl) (by kernel_rfl) (fun _ _ _ h => h) (Or.inl ⟨by kernel_rfl, ?_⟩) hH ?_
              rotate_left 1
              · intro w hS; (try dsimp only [EntAt, Nat.zero_add] at hS); go_simp; (try with_reducible rfl)
              try simp only [Act.put, List.setIfInBounds_toArray, List.set_cons_zero, List.set_cons_succ]
              refine takeH (i := 10) (d := 59) (v := ?_) rfl rfl (by kernel_rfl) (by kernel_rfl) (by kernel_rfl) (fun _ _ _ h => h) (Or.inl ⟨by kernel_rfl, ?_⟩) hH ?_
              rotate_left 1
              · intro w hS; (try dsimp only [EntAt, Nat.zero_add] at hS); go_simp; (try with_reducible rfl)
              try simp only [Act.put, List.setIfInBounds_toArray, List.set_cons_zero, List.set_cons_succ]
              refine takeH (i := 11) (d := 60) (v := ?_) rfl rfl (by kernel_rfl) (by kernel_rfl) (by kernel_rfl) (fun _ _ _ h => h) (Or.inl ⟨by kernel_rfl, ?_⟩) hH ?_
              rotate_left 1
              · intro w hS; (try dsimp only [EntAt, Nat.zero_add] at hS); go_simp; (try with_reducible rfl)
              try simp only [Act.put, List.setIfInBounds_toArray, List.set_cons_zero, List.set_cons_succ]
              refine takeH (i := 12) (d := 61) (v := .bool false) rfl rfl (by kernel_rfl) (by kernel_rfl) (by kernel_rfl) (fun _ _ _ h => h) (Or.inl ⟨by kernel_rfl, ?_⟩) hH ?_
              · intro w hS
                (try dsimp only [EntAt, Nat.zero_add] at hS)
                have HE := hidS (fun h1 h2 h3 => ent_ne HZY.out HGN.out h1 h2 h3)
                go_simp
                first
                  | (intro h1 h2 h3; exact HE.out h1 h2 h3)
                  | (intro h1 h2 h3 h4; simp [HE.out h1 h2 h3] at h4)
                  | ((repeat' split) <;> first | rfl | (exfalso; simp_all [HE.out]))
              try simp only [Act.put, List.setIfInBounds_toArray, List.set_cons_zero, List.set_cons_succ]
              refine takeH (i := 13) (d := 62) (v := ?_) rfl rfl (by kernel_rfl) (by kernel_rfl) (by kernel_rfl) (fun _ _ _ h => h) (Or.inl ⟨by kernel_rfl, ?_⟩) hH ?_
              rotate_left 1
              · intro w hS; (try dsimp only [EntAt, Nat.zero_add] at hS); go_simp; (try with_reducible rfl)
              try simp only [Act.put, List.setIfInBounds_toArray, List.set_cons_zero, List.set_cons_succ]
              refine wpAnyH_done (by kernel_rfl) ?_ _
              refine NoPanic.normal ?_
              go_wp2
              go_roundw
              case rel => exact ⟨k + 1, m, by omega, by go_num, rfl, by omega, HM2, ho7, hs7, b7.drew⟩
              case measure => simp [intOf]; omega
      · skip
        have hke : k = es.length := by omega
        have hmy : m = ys.length := by rw [HM.out, HYS.out, hke]
        subst hmy
        have hey : ((ys.length : Int) == (ys.length : Int)) = true := by simp
        clear hke
        go_wp2_with fail
        refine (implOk_yes _ ys _ hs.rd (fun x hx => HF.out x (shTo_mem (by rw [← HYS.out]; exact hx))) (by rw [HYS.out]; exact HYOK.out)).mono ?_
        rintro e w6 ⟨rfl, hb6⟩
        go_wp2
        go_ret
        exact ⟨rfl, hb.trans (hb6.mono hb.size)⟩
theorem own_fnShown : ownKnob Try.prog.godebug = none := by kernel_rfl
theorem laidOut_fnShown : laidOutB Try.prog = true := by kernel_rfl
set_option maxRecDepth 100000 in
theorem lifted_fnShown (os : Os) (started : os.Started) (H : Type) (enc : TypeId × Value → H) :
    ReturnsInHanded {} Try.checked os 4 .any (Rows.fnShownSpec.pre6 enc Try.prog Try.f4 Rows.fnShownRow.domain false) (Rows.fnShownSpec.post enc Try.prog Try.f4 false true false false) := by
  refine returnsInHanded_of_change (C := Try.checked) own_fnShown started (by kernel_rfl) Try.func4
    (ChangeSpec.witness6 (enc := enc) (C := Try.checked) false ⟨#[], #[.slice none 0 0], []⟩ 8 (by kernel_rfl) (by kernel_rfl) (by kernel_rfl) (by kernel_rfl)) ?_
  intro W base args ds gs before hval0 hW hcnd _
  have hval : ∀ (j : Nat) t v, Try.f4.params[j]? = some t → args[j]? = some v → Value.okWide Try.prog W .any base t v := hval0
  have hW' := hW
  obtain ⟨p, q, hA0, hV, rfl, hfz, hnd⟩ := hW
  have hA : DataW.TrodAll enc Try.prog W 0 (fun _ => true) true Try.f4.params.toList args.toList ds p := hA0
  rw [Try.params4] at hA hval
  obtain ⟨v0, vs0, d0, ds0, p0, q0, hargs, rfl, rfl, h0, r0⟩ := trodAll_cons hA
  obtain ⟨rfl, rfl, rfl⟩ := trodAll_nil r0
  obtain rfl : args = #[v0] := by cases args; simp_all
  obtain ⟨rfl, rfl⟩ := trodVars_none hV
  obtain ⟨a0, len0, cap0, rfl⟩ := okWide_slice Try.underlying22 (hval 0 22 v0 rfl rfl)
  have k0 := h0
  have lt0 : ∀ x ∈ p0, x.block < W.heap.size := by obtain ⟨m, hm⟩ := k0; exact DataW.trod_lt m _ _ _ hm
  obtain ⟨bs0, hr0⟩ : ∃ bs, Rd W (.slice a0 len0 cap0) bs := by
    obtain ⟨fuel, hf⟩ := h0
    rcases open_ints Try.underlying22 Try.underlying5 (by kernel_rfl) hf with ⟨hcs, _⟩ | ⟨x, l, c, zs, hcs, _, hl, hm, hz, _, hcell, hwz⟩
    · simp [Value.cells] at hcs
      obtain ⟨rfl, rfl, rfl⟩ := hcs
      exact ⟨[], rd_nil W⟩
    · simp [Value.cells] at hcs
      obtain ⟨rfl, rfl, rfl⟩ := hcs
      exact rd_of hl hm (by simpa using hz) hcell hwz
  clear hA0 hval0
  refine (lawShownF _ bs0 W hr0).mono fun e W' ⟨he, bel⟩ => ?_
  subst he
  exact ⟨_, rfl, _, _, _, [], _, [], hW', trodAll_mk1 (shut_bool Try.underlying4 _), (trodAll_cons_mk (Below.trod laidOut_fnShown (by kernel_rfl) (of_decide_eq_true (by kernel_rfl)) k0 bel lt0) trodAll_mk0), rfl, bel.frame _, fun h => by cases h⟩
theorem over_fnShown : Rows.fnShownRow.holds Try.pinned (OpenSpec.ofChange Rows.fnShownSpec) :=
  OpenClaim.holds_of_wide 4 Try.f4 rfl rfl rfl rfl rfl rfl rfl ⟨rfl, rfl, rfl, rfl, rfl⟩ rfl rfl rfl rfl rfl (by kernel_rfl) Try.func4 (by kernel_rfl)
    (of_decide_eq_true (by kernel_rfl)) (by unfold Func.isWrapper; first | (rw [if_pos (by decide +kernel)]; kernel_rfl) | (rw [if_neg (by decide +kernel)]; exact ⟨rfl, rfl⟩))
    (fun os started H enc _ => lifted_fnShown os started H enc)
theorem fnShown_holds : Rows.FnShownSaid := over_fnShown
#print axioms fnShown_holds

end Go.Proofs.Ytmcdfbaifidnaaa
