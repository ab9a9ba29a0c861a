/- Whatever device, text and choice it is called with, laws.FnExactHalfway returns true and its arguments read as before: both Halfways tell the same device, in memory of their own, and what they are handed stays. Condition: the listed tables, errors and type of the Go library and the program's own errors hold what the text lays there (tied by the card). -/
import Derived.Test.YthchhkiijehjbaaGreatDoorRows
import Derived.Test.YthchhkiijehjbaaGreatDoorCards
import Derived.Test.YthchhkiijehjbaaGreatDoorTie
import Derived.Test.YthchhkiijehjbaaGreatDoorDevOpen
import Derived.Test.YthchhkiijehjbaaGreatDoorDevMark
import Derived.Test.YthchhkiijehjbaaGreatDoorG31
import Derived.Test.YthchhkiijehjbaaGreatDoorSltLaid
import Derived.ProofKit
import Derived.OpenShut
import Derived.ShutString
import Derived.ChangeOld
import Derived.LaidMore
import Derived.SevenTiedAt
import Derived.Stop.Joined
-- UNF Gen
namespace Go.Proofs.YthchhkiijehjbaaGreatDoor
open Go.ChangeShapes Go.WideShapes Go.ChangeAt Go.RowKit
open Go.ChangeMaps (open_string shut_string)
theorem cutL_len2 (s : List ByteArray) (l : List Pat) (kp : Nat → Bool) : (cutL s l kp).length ≤ s.length := cutL_len s l kp
theorem sw_len (s : List ByteArray) (l : List Pat) (R : Int × Int × ByteArray) (t : ByteArray) : (swS s l R t).length ≤ s.length ∧ (swL s l R t).length ≤ l.length + 1 := by
  unfold swS swL
  split
  · refine ⟨?_, by simp⟩
    have h1 := cutL_len (barS s l) [⟨nextTo R, slotS (R.2.1 + 1) t⟩] (fun _ => true)
    have h2 := cutL_len s l (fun _ => true)
    exact Nat.le_trans h1 h2
  · split <;> simp
theorem hw_len (s : List ByteArray) (l : List Pat) (R : Int × Int × ByteArray) (t : ByteArray) (k : Bool) : (hwS s l R t k).length ≤ s.length := by
  unfold hwS
  split
  · have h1 := cutL_len (barS s l) [⟨nextTo R, slotS (R.2.1 + 1) t⟩] (keepOf [k])
    have h2 := cutL_len s l (fun _ => true)
    exact Nat.le_trans h1 h2
  · simp
theorem env_fnExactHalfway {W : World} (h : laidMetH Tryz.prog Rows.fnExactHalfwayRow.laid W) : ∃ a b, SEnv3 W a b ∧ W.var? Tryz.prog "loop.example/g00217/impl.errNoSector" = some #[.iface 169 (.pointer (some b))] ∧ W.var? Tryz.prog "loop.example/g00217/impl.errNoSlot" = some #[.iface 169 (.pointer (some a))] := by
  have h' : laidMet Tryz.prog [("math/bits.deBruijn32tab", Rows.laid_math_bits_deBruijn32tab), ("math/bits.deBruijn64tab", Rows.laid_math_bits_deBruijn64tab), ("internal/strconv.uint64pow10", Rows.laid_internal_strconv_uint64pow10), ("strconv.ErrRange", Rows.laid_strconv_ErrRange), ("strconv.ErrSyntax", Rows.laid_strconv_ErrSyntax), ("loop.example/g00217/impl.errNoSlot", Rows.laid_loop_example_g00217_impl_errNoSlot), ("loop.example/g00217/impl.errNoSector", Rows.laid_loop_example_g00217_impl_errNoSector)] W ∧ handlesMet Tryz.prog [("errors.errorType", Rows.laid_errors_errorType)] W := h
  obtain ⟨a, b, hE, hb, ha⟩ := env2_of_laid h'.1
  refine ⟨a, b, ⟨hE, ?_⟩, hb, ha⟩
  obtain ⟨name, u, ty, e1, e2, e3, e4, e5⟩ := h'.2 _ (List.mem_singleton.2 rfl)
  have en : name = [101, 114, 114, 111, 114] := (Option.some.inj e1).symm
  subst en
  have hrt : (Tryz.prog.cutTypes.find? (·.1 == "internal/reflectlite.rtype")).map (·.2) = some 107 := by kernel_rfl
  obtain rfl := Option.some.inj (hrt.symm.trans e2)
  have hsz : Tryz.prog.types.size = 202 := by kernel_rfl
  have hrow : ((List.range 202).filter fun t => Tryz.prog.rowNamed t [101, 114, 114, 111, 114]) = [50] := by kernel_rfl
  have hm : ty ∈ (List.range 202).filter fun t => Tryz.prog.rowNamed t [101, 114, 114, 111, 114] := List.mem_filter.2 ⟨List.mem_range.2 (by rw [← hsz]; exact e3), e4⟩
  rw [hrow] at hm
  obtain rfl := List.mem_singleton.1 hm
  have hh : typeHandle Tryz.prog 50 = .pointer (some ⟨9, 50, none⟩) := by kernel_rfl
  rw [hh] at e5
  have het : Tryz.prog.globalNamed "errors.errorType" = some 2 := by kernel_rfl
  simpa using World.var?_cell het e5 0
set_option maxHeartbeats 8000000 in
set_option maxRecDepth 100000 in
theorem lawHalfway (X : DvX) (t : ByteArray) (_ : t.size ≤ maxLen) (kb : Bool) (a b : Addr) (w : World) (hx : RdDv w X) (hh : HeldDv X) (he : SEnv3 w a b) :
    Calls Tryz.prog 5 #[.agg #[X.vs, X.vl], .string t, .bool kb] w fun e w' => e = .returned (.bool true) ∧ Below w.heap.size w w' := by
  have t0 := dvAt_new w X 25
  have b0 := below1 w (.cells #[X.vs, X.vl] 25)
  have HSZ : Hid (Calls _ _ _ _ _) := szDevice_any X _ (hx.below b0) hh
  obtain ⟨d0, d1⟩ := id t0
  by_cases hbig : 1048576 < t.size
  · go_enter Tryz.func5, Tryz.ntmps5
    go_wp2
    go_ret
    exact ⟨rfl, b0⟩
  go_enter Tryz.func5, Tryz.ntmps5
  go_wp2_with fail
  refine HSZ.out.mono ?_
  rintro e w1 ⟨hb1, z, rfl, hz⟩
  have t1 := t0.below hb1
  have b1 := b0.trans (hb1.mono b0.size)
  clear HSZ t0 b0 hb1 d0 d1
  rcases hz with hz | ⟨hz0, hsm⟩
  · subst hz
    go_wp2
    go_ret
    exact ⟨rfl, b1⟩
  have HTO : Hid (∀ W, RdDv W X → Calls Tryz.prog 8 #[.agg #[X.vs, X.vl]] W fun e w' => ToDv W X.secs X.late e w') := fun W h => toDevice_any X W h hsm
  obtain ⟨r0, h0⟩ := rs_ex (liesL X.secs X.late 0)
  obtain ⟨r1, h1⟩ := rs_ex (liesL X.secs X.late 1)
  obtain ⟨R, hR⟩ : ∃ R, R = rootD X.secs X.late r0 r1 := ⟨_, rfl⟩
  have hle : t.size ≤ 1048576 := by omega
  obtain ⟨QS, hQS⟩ : ∃ QS, QS = hwS X.secs X.late R t kb := ⟨_, rfl⟩
  obtain ⟨RL, hRL⟩ : ∃ RL : List Pat, RL = [] := ⟨_, rfl⟩
  have HSP : Hid (∀ (Y : DvX) lo W, OwnDv W lo Y → Y.secs = X.secs → Y.late = X.late → Calls Tryz.prog 15 #[.agg #[Y.vs, Y.vl], .string t, .bool kb] W fun e w' => ToDv W QS RL e w') := fun Y lo W ho g1 g2 => by
    have hr := ho.rd
    obtain ⟨sa, la, cs, cl, eY⟩ := hr.op
    rw [g1, g2] at eY
    rw [eY] at hr ⊢
    have := specHalfway_any sa la cs cl X.secs X.late t kb r0 r1 W hr hle h0 h1
    rw [← hR, ← hQS] at this
    rw [hRL]
    exact this
  have HIM : Hid (∀ (Y : DvX) lo W, OwnDv W lo Y → SEnv3 W a b → Y.secs = X.secs → Y.late = X.late → Calls Tryz.prog 16 #[.agg #[Y.vs, Y.vl], .string t, .bool kb] W fun e w' => ToDv W QS RL e w') := fun Y lo W ho hs g1 g2 => by
    have hr := ho.rd
    obtain ⟨sa, la, cs, cl, eY⟩ := hr.op
    rw [g1, g2] at eY
    rw [eY] at hr ⊢
    have := implHalfway_any sa la cs cl X.secs X.late t kb r0 r1 a b W hr hle h0 h1 hs
    rw [← hR, ← hQS] at this
    rw [hRL]
    exact this
  have HRM : Hid (∀ Y : DvX, Y.secs = X.secs → Y.late = X.late → 1 + cntDv Y ≤ 2097154) := fun Y h1 h2 => by unfold cntDv; unfold SmallDv at hsm; rw [h1, h2]; omega
  have HRG : Hid (∀ G : DvX, G.secs = QS → G.late = RL → 1 + cntDv G ≤ 4194304) := fun G h1 h2 => by
    unfold cntDv
    rw [h1, h2, hQS, hRL]
    unfold SmallDv at hsm
    have h3 := hw_len X.secs X.late R t kb
    simp only [List.length_nil]
    omega
  clear hsm hh hQS hRL h0 h1 hR hle
  -- THE MODEL
  obtain ⟨d0, d1⟩ := id t1
  go_wp2_with fail
  refine (HTO.out _ (hx.below b1)).mono ?_
  rintro e w2 ⟨Y2, rfl, hs2, hl2, ho2, hb2⟩
  have t2 := t1.below hb2
  have b2 := b1.trans (hb2.mono b1.size)
  clear t1 hb2 d0 d1 b1
  go_wp2_with fail
  refine (HSP.out Y2 _ _ ho2 hs2 hl2).mono ?_
  rintro e w3 ⟨Z, rfl, hZs, hZl, hrZ, hb3⟩
  have t3 := t2.below hb3
  have b3 := b2.trans (hb3.mono b2.size)
  clear t2 hb3 ho2 hs2 hl2 b2 HSP
  have LZ : Hid (∀ k ∈ dvB Z, k < w3.heap.size) := fun k hk => (hrZ.bound hk).2
  have s3 := t3.lt
  obtain ⟨za, zca, v0⟩ := own_slice hrZ.secs
  obtain ⟨zb, zcb, v1⟩ := own_slice hrZ.late
  obtain ⟨vs3, vl3, secs3, late3⟩ := Z
  simp only at v0 v1 hZs hZl
  generalize secs3.length = zn at v0
  generalize late3.length = zm at v1
  subst v0
  subst v1
  obtain ⟨Z, hZ⟩ : ∃ Z : DvX, Z = ⟨.slice za zn zca, .slice zb zm zcb, secs3, late3⟩ := ⟨_, rfl⟩
  have x4 := dvAt_new w3 ⟨.slice za zn zca, .slice zb zm zcb, secs3, late3⟩ 31
  have bb4 := below1 w3 (.cells #[.slice za zn zca, .slice zb zm zcb] 31)
  have HAR : Hid (∀ W, RdDv W Z → ∀ G : DvX, RdDv W G → G.secs = QS → G.late = RL → Calls Tryz.prog 10 #[.agg #[G.vs, G.vl], .agg #[.slice za zn zca, .slice zb zm zcb]] W fun e w' => e = .returned (.bool true) ∧ Below W.heap.size W w') := fun W h G hg h1 h2 => by
    have := eqDevice_same G Z W hg h (by rw [h1, hZ]; exact hZs.symm) (by rw [h2, hZ]; exact hZl.symm)
    rw [hZ] at this
    exact this
  have HZF : Hid (∀ W, DvAt W w3.heap.size Z → W.cell? ⟨w3.heap.size, 0, none⟩ = some (.slice za zn zca) ∧ W.cell? ⟨w3.heap.size, 1, none⟩ = some (.slice zb zm zcb)) := fun W h => by rw [hZ] at h; exact h
  simp only at x4
  rw [← hZ] at hrZ LZ x4
  clear hZ hZs hZl
  have t4 := t3.below bb4
  have b4 := b3.trans (bb4.mono b3.size)
  have hrZ4 := hrZ.below bb4
  have s4 : (w3.alloc (.cells #[.slice za zn zca, .slice zb zm zcb] 31)).heap.size = w3.heap.size + 1 := by simp
  obtain ⟨d0, d1⟩ := id t4
  clear t3 b3 hrZ bb4
  go_wp2_with fail
  generalize w3.alloc (.cells #[.slice za zn zca, .slice zb zm zcb] 31) = W4 at x4 t4 b4 hrZ4 s4 d0 d1 ⊢
  -- THE ARGUMENT
  refine (HTO.out _ (hx.below b4)).mono ?_
  rintro e w5 ⟨Y, rfl, hYs, hYl, hoY, hb5⟩
  have t5 := t4.below hb5
  have x5 := x4.below hb5
  have b5 := b4.trans (hb5.mono b4.size)
  have hrZ5 := hrZ4.below hb5
  have LY : Hid (∀ k ∈ dvB Y, W4.heap.size ≤ k ∧ k < w5.heap.size) := fun k hk => hoY.bound hk
  have s5 := hb5.size
  have rmY : Hid (1 + cntDv Y ≤ 2097154) := HRM.out Y hYs hYl
  clear t4 x4 b4 hrZ4 hb5 d0 d1
  obtain ⟨ya, yca, v0⟩ := own_slice hoY.secs
  obtain ⟨yb, ycb, v1⟩ := own_slice hoY.late
  obtain ⟨vs4, vl4, secs4, late4⟩ := Y
  simp only at v0 v1 hYs hYl
  generalize secs4.length = yn at v0
  generalize late4.length = ym at v1
  subst v0
  subst v1
  obtain ⟨Y, hY⟩ : ∃ Y : DvX, Y = ⟨.slice ya yn yca, .slice yb ym ycb, secs4, late4⟩ := ⟨_, rfl⟩
  have hYs' : Y.secs = X.secs := by rw [hY]; exact hYs
  have hYl' : Y.late = X.late := by rw [hY]; exact hYl
  have HYE : Hid (Y.vs = .slice ya yn yca ∧ Y.vl = .slice yb ym ycb) := by rw [hY]; exact ⟨rfl, rfl⟩
  have y6 := dvAt_new w5 ⟨.slice ya yn yca, .slice yb ym ycb, secs4, late4⟩ 31
  have bb6 := below1 w5 (.cells #[.slice ya yn yca, .slice yb ym ycb] 31)
  simp only at y6
  rw [← hY] at y6 hoY LY rmY
  clear hY hYs hYl
  have t6 := t5.below bb6
  have x6 := x5.below bb6
  have b6 := b5.trans (bb6.mono b5.size)
  have hrZ6 := hrZ5.below bb6
  have hoY6 := hoY.below bb6
  have s6 : (w5.alloc (.cells #[.slice ya yn yca, .slice yb ym ycb] 31)).heap.size = w5.heap.size + 1 := by simp
  have HYF : Hid (∀ W, DvAt W w5.heap.size Y → W.cell? ⟨w5.heap.size, 0, none⟩ = some (.slice ya yn yca) ∧ W.cell? ⟨w5.heap.size, 1, none⟩ = some (.slice yb ym ycb)) := fun W h => by
    obtain ⟨h1, h2⟩ := h
    rw [HYE.out.1] at h1
    rw [HYE.out.2] at h2
    exact ⟨h1, h2⟩
  obtain ⟨p0, p1⟩ := HYF.out _ y6
  clear t5 x5 b5 hrZ5 hoY bb6
  go_wp2_with fail
  generalize w5.alloc (.cells #[.slice ya yn yca, .slice yb ym ycb] 31) = W6 at y6 t6 x6 b6 hrZ6 hoY6 s6 p0 p1 ⊢
  -- THE PROGRAM
  have HIM6 := HIM.out Y _ _ hoY6 (he.on b6) hYs' hYl'
  rw [HYE.out.1, HYE.out.2] at HIM6
  refine HIM6.mono ?_
  clear HIM6
  rintro e w7 ⟨G, rfl, hGs, hGl, hoG, hb7⟩
  have t7 := t6.below hb7
  have x7 := x6.below hb7
  have y7 := y6.below hb7
  have b7 := b6.trans (hb7.mono b6.size)
  have hrZ7 := hrZ6.below hb7
  have hoY7 := hoY6.below hb7
  have LG : Hid (∀ k ∈ dvB G, W6.heap.size ≤ k ∧ k < w7.heap.size) := fun k hk => hoG.bound hk
  have s7 := hb7.size
  have rmG : Hid (1 + cntDv G ≤ 4194304) := HRG.out G hGs hGl
  clear t6 x6 y6 b6 hrZ6 hoY6 hb7 p0 p1
  obtain ⟨ga, gca, v0⟩ := own_slice hoG.secs
  obtain ⟨gb, gcb, v1⟩ := own_slice hoG.late
  obtain ⟨vs6, vl6, secs6, late6⟩ := G
  simp only at v0 v1 hGs hGl
  generalize secs6.length = gn at v0
  generalize late6.length = gm at v1
  subst v0
  subst v1
  obtain ⟨G, hG⟩ : ∃ G : DvX, G = ⟨.slice ga gn gca, .slice gb gm gcb, secs6, late6⟩ := ⟨_, rfl⟩
  have HGF : Hid (∀ W, DvAt W w7.heap.size G → W.cell? ⟨w7.heap.size, 0, none⟩ = some (.slice ga gn gca) ∧ W.cell? ⟨w7.heap.size, 1, none⟩ = some (.slice gb gm gcb)) := fun W h => by rw [hG] at h; exact h
  have HEG : Hid (∀ W, RdDv W Z → RdDv W G → Calls Tryz.prog 10 #[.agg #[.slice ga gn gca, .slice gb gm gcb], .agg #[.slice za zn zca, .slice zb zm zcb]] W fun e w' => e = .returned (.bool true) ∧ Below W.heap.size W w') := fun W h hg => by
    have := HAR.out W h G hg (by rw [hG]; exact hGs) (by rw [hG]; exact hGl)
    rw [hG] at this
    exact this
  obtain ⟨mm, hmm⟩ : ∃ mm, mm = 1 + cntDv G := ⟨_, rfl⟩
  have HMG : Hid (∀ W lo, OwnDv W lo G → Calls Tryz.prog 13 #[.agg #[.slice ga gn gca, .slice gb gm gcb], .int .i64 1] W fun e w' => e = .returned (.int .i64 (mm : Int)) ∧ OwnDv w' lo (mkDv 1 G) ∧ Touch (dvB G) W w') := fun W lo ho => by
    have := markDevice_any G lo 1 W ho (by omega) (by rw [hG]; exact rmG.out)
    unfold MarkDv at this
    rw [← hmm] at this
    rw [hG] at this ⊢
    exact this
  have HHG : Hid (∀ W, RdDv W (mkDv 1 G) → Calls Tryz.prog 14 #[.agg #[.slice ga gn gca, .slice gb gm gcb], .int .i64 1] W fun e w' => e = .returned (.int .i64 (mm : Int)) ∧ Below W.heap.size W w') := fun W h => by
    have := heldDevice_any G 1 W h (by omega) (by rw [hG]; exact rmG.out)
    rw [← hmm] at this
    rw [hG] at this
    exact this
  have x8 := dvAt_new w7 ⟨.slice ga gn gca, .slice gb gm gcb, secs6, late6⟩ 31
  simp only at x8
  rw [← hG] at x8 hoG LG
  have bb8 := below1 w7 (.cells #[.slice ga gn gca, .slice gb gm gcb] 31)
  have t8 := t7.below bb8
  have z8 := x7.below bb8
  have y8 := y7.below bb8
  have b8 := b7.trans (bb8.mono b7.size)
  have hrZ8 := hrZ7.below bb8
  have hoY8 := hoY7.below bb8
  have hoG8 := hoG.below bb8
  obtain ⟨p0, p1⟩ := HZF.out _ z8
  obtain ⟨r0, r1⟩ := HGF.out _ x8
  have hm0 : ¬ ((mm : Int) < 0) := by omega
  have hm1 : ((mm : Int) != (mm : Int)) = false := by simp
  clear t7 x7 y7 b7 hrZ7 hoY7 hoG bb8 hmm hG hGs hGl rmG HRG
  go_wp2_with fail
  generalize w7.alloc (.cells #[.slice ga gn gca, .slice gb gm gcb] 31) = W8 at x8 t8 z8 y8 b8 hrZ8 hoY8 hoG8 p0 p1 r0 r1 ⊢
  refine (HEG.out _ hrZ8.rd hoG8.rd).mono ?_
  rintro e w9 ⟨rfl, hb9⟩
  have t9 := t8.below hb9
  have x9 := x8.below hb9
  have y9 := y8.below hb9
  have z9 := z8.below hb9
  have b9 := b8.trans (hb9.mono b8.size)
  have hrZ9 := hrZ8.below hb9
  have hoY9 := hoY8.below hb9
  have hoG9 := hoG8.below hb9
  clear t8 x8 y8 z8 b8 hrZ8 hoY8 hoG8 hb9 p0 p1 r0 r1
  go_wp2_with fail
  refine wp_region_noPanic ?_
  refine wp_region_held_drew (S := fun w' => (w'.cell? ⟨w5.heap.size, 0, none⟩ = some (.slice ya yn yca) ∧ w'.cell? ⟨w5.heap.size, 1, none⟩ = some (.slice yb ym ycb)) ∧ w'.cell? ⟨w.heap.size, 0, none⟩ = some X.vs ∧ w'.cell? ⟨w.heap.size, 1, none⟩ = some X.vl) (by kernel_rfl) ⟨HYF.out _ y9, t9⟩ (fun hH => ?_)
  have dd : Below w9.heap.size w9 w9.drew := (Below.refl _ w9).drew
  have qb := b9.drew
  have qo := hoY9.below dd
  have qz := hrZ9.below dd
  have qg := hoG9.below dd
  have qx := x9.below dd
  have qv := z9.below dd
  have qy := y9.below dd
  clear t9 x9 y9 z9 b9 hrZ9 hoY9 hoG9 dd
  revert qy
  revert qv
  revert qx
  revert qg
  revert qz
  revert qo
  revert qb
  revert hH
  generalize w9.drew = V9
  intro hH qb qo qz qg qx qv qy
  refine tkG 0 38 hH ?_
  try simp only [Act.put, List.setIfInBounds_toArray, List.set_cons_zero, List.set_cons_succ]
  refine tkG 1 39 hH ?_
  try simp only [Act.put, List.setIfInBounds_toArray, List.set_cons_zero, List.set_cons_succ]
  refine wpAnyH_ready (rs := [2]) (by kernel_rfl) (by simp) ?_
  refine AllReadyH.cons rfl (fun K hK => ?_) AllReadyH.nil
  go_simp
  refine (HTO.out _ (hx.below qb)).mono ?_
  rintro e w10 ⟨Y8, rfl, hs8, hl8, ho8, hb10⟩
  have t10 : DvAt w10 w.heap.size X := DvAt.below (w := V9) hH.2 hb10
  replace qb := qb.trans (hb10.mono qb.size)
  replace qo := qo.below hb10
  replace qz := qz.below hb10
  replace qg := qg.below hb10
  replace qx := qx.below hb10
  replace qv := qv.below hb10
  replace qy := qy.below hb10
  refine hK.out _ _ ⟨HYF.out _ qy, t10⟩ (fun h8 => ?_)
  clear hK K hH hb10
  try simp only [Act.put, List.setIfInBounds_toArray, List.set_cons_zero, List.set_cons_succ]
  refine wpAnyH_ready (rs := [3]) (by kernel_rfl) (by simp) ?_
  refine AllReadyH.cons rfl (fun K hK => ?_) AllReadyH.nil
  go_simp
  have HEQ := eqDevice_same Y Y8 _ qo.rd ho8.rd (hYs'.trans hs8.symm) (hYl'.trans hl8.symm)
  rw [HYE.out.1, HYE.out.2] at HEQ
  refine HEQ.mono ?_
  clear HEQ
  rintro e w11 ⟨rfl, hb11⟩
  have qb11 := qb.trans (hb11.mono qb.size)
  have qo11 := qo.below hb11
  have qz11 := qz.below hb11
  have qg11 := qg.below hb11
  have qx11 := qx.below hb11
  have qv11 := qv.below hb11
  have y11 := qy.below hb11
  have t11 := t10.below hb11
  refine hK.out _ _ ⟨HYF.out _ y11, t11⟩ (fun h9 => ?_)
  clear hK K h8 t10
  try simp only [Act.put, List.setIfInBounds_toArray, List.set_cons_zero, List.set_cons_succ]
  refine tkG 4 42 h9 ?_
  try simp only [Act.put, List.setIfInBounds_toArray, List.set_cons_zero, List.set_cons_succ]
  refine wpAnyH_done (by kernel_rfl) ?_ _
  refine NoPanic.normal ?_
  clear h9 ho8 hs8 hl8 qb qo qz qg qx qv qy hb11
  -- THE MARKS OF THE ARGUMENT
  obtain ⟨p0, p1⟩ := HYF.out _ y11
  go_wp2_with fail
  have HMY := markDevice_any Y _ 1 _ qo11 (by omega) (by have := rmY.out; omega)
  rw [HYE.out.1, HYE.out.2] at HMY
  refine HMY.mono ?_
  clear HMY
  rintro e w12 ⟨rfl, -, hto⟩
  have qz12 : OwnDv w12 _ Z := qz11.touch hto (fun k hk e => by have := LZ.out k hk; have := LY.out k e; omega)
  have qg12 : OwnDv w12 W6.heap.size G := qg11.touch hto (fun k hk e => by have := LG.out k hk; have := LY.out k e; omega)
  have b12 : Below w.heap.size w w12 := hto.below qb11 (fun k hk => by have := LY.out k hk; omega)
  have t12 : DvAt w12 w.heap.size X := hto.dv t11 (fun e => by have := LY.out _ e; omega)
  have z12 : DvAt w12 w3.heap.size Z := hto.dv qv11 (fun e => by have := LY.out _ e; omega)
  have x12 : DvAt w12 w7.heap.size G := hto.dv qx11 (fun e => by have := LY.out _ e; omega)
  have hq3 : ¬ ((1 + cntDv Y : Nat) : Int) < 0 := by omega
  generalize (1 + cntDv Y : Nat) = kk at hq3 ⊢
  clear hto p0 p1 qo11 qz11 qg11 qb11 qx11 qv11 y11 t11 LY rmY HRM hYs' hYl'
  obtain ⟨p0, p1⟩ := HZF.out _ z12
  obtain ⟨r0, r1⟩ := HGF.out _ x12
  go_wp2_with fail
  refine (HEG.out _ qz12.rd qg12.rd).mono ?_
  rintro e w13 ⟨rfl, hb13⟩
  have t13 := t12.below hb13
  have z13 := z12.below hb13
  have x13 := x12.below hb13
  have b13 := b12.trans (hb13.mono b12.size)
  have qz13 := qz12.below hb13
  have qg13 := qg12.below hb13
  clear t12 z12 x12 b12 qz12 qg12 hb13 p0 p1 r0 r1
  -- THE MARKS OF THE ANSWER
  obtain ⟨r0, r1⟩ := HGF.out _ x13
  go_wp2_with fail
  refine (HMG.out _ _ qg13).mono ?_
  rintro e w14 ⟨rfl, qm14, hto⟩
  have qz14 : OwnDv w14 _ Z := qz13.touch hto (fun k hk e => by have := LZ.out k hk; have := LG.out k e; omega)
  have b14 : Below w.heap.size w w14 := hto.below b13 (fun k hk => by have := LG.out k hk; omega)
  have t14 : DvAt w14 w.heap.size X := hto.dv t13 (fun e => by have := LG.out _ e; omega)
  have z14 : DvAt w14 w3.heap.size Z := hto.dv z13 (fun e => by have := LG.out _ e; omega)
  have x14 : DvAt w14 w7.heap.size G := hto.dv x13 (fun e => by have := LG.out _ e; omega)
  clear hto t13 z13 x13 b13 qz13 qg13 r0 r1 HMG HEG LG LZ
  obtain ⟨r0, r1⟩ := HGF.out _ x14
  go_wp2_with fail
  refine (HHG.out _ qm14.rd).mono ?_
  rintro e w15 ⟨rfl, hb15⟩
  have t15 := t14.below hb15
  have z15 := z14.below hb15
  have x15 := x14.below hb15
  have b15 := b14.trans (hb15.mono b14.size)
  have qz15 := qz14.below hb15
  have qm15 := qm14.below hb15
  clear t14 z14 x14 b14 qz14 qm14 hb15 r0 r1
  -- ANOTHER CALL
  obtain ⟨d0, d1⟩ := id t15
  go_wp2_with fail
  refine (HTO.out _ (hx.below b15)).mono ?_
  rintro e w16 ⟨Y16, rfl, hs16, hl16, ho16, hb16⟩
  have z16 := z15.below hb16
  have x16 := x15.below hb16
  have b16 := b15.trans (hb16.mono b15.size)
  have qz16 := qz15.below hb16
  have qm16 := qm15.below hb16
  clear t15 z15 x15 b15 qz15 qm15 hb16 d0 d1 HTO
  go_wp2_with fail
  refine (HIM.out Y16 _ _ ho16 (he.on b16) hs16 hl16).mono ?_
  rintro e w17 ⟨H, rfl, hHs, hHl, hoH, hb17⟩
  have z17 := z16.below hb17
  have x17 := x16.below hb17
  have b17 := b16.trans (hb17.mono b16.size)
  have qz17 := qz16.below hb17
  have qm17 := qm16.below hb17
  clear z16 x16 b16 qz16 qm16 hb17 ho16 hs16 hl16 HIM
  obtain ⟨fa, fca, v0⟩ := own_slice hoH.secs
  obtain ⟨fb, fcb, v1⟩ := own_slice hoH.late
  obtain ⟨vs7, vl7, secs7, late7⟩ := H
  simp only at v0 v1 hHs hHl
  generalize secs7.length = fn at v0
  generalize late7.length = fm at v1
  subst v0
  subst v1
  have h18 := dvAt_new w17 ⟨.slice fa fn fca, .slice fb fm fcb, secs7, late7⟩ 31
  have bb18 := below1 w17 (.cells #[.slice fa fn fca, .slice fb fm fcb] 31)
  simp only at h18
  have z18 := z17.below bb18
  have x18 := x17.below bb18
  have b18 := b17.trans (bb18.mono b17.size)
  have qz18 := qz17.below bb18
  have qm18 := qm17.below bb18
  have hoH18 := hoH.below bb18
  obtain ⟨p0, p1⟩ := HZF.out _ z18
  obtain ⟨r0, r1⟩ := id h18
  simp only at r0 r1
  clear z17 x17 b17 qz17 qm17 hoH bb18
  go_wp2_with fail
  generalize w17.alloc (.cells #[.slice fa fn fca, .slice fb fm fcb] 31) = W18 at h18 z18 x18 b18 qz18 qm18 hoH18 p0 p1 r0 r1 ⊢
  refine (HAR.out _ qz18.rd ⟨.slice fa fn fca, .slice fb fm fcb, secs7, late7⟩ hoH18.rd hHs hHl).mono ?_
  rintro e w19 ⟨rfl, hb19⟩
  have x19 := x18.below hb19
  have b19 := b18.trans (hb19.mono b18.size)
  have qm19 := qm18.below hb19
  clear h18 z18 x18 b18 qz18 qm18 hoH18 p0 p1 r0 r1 hb19
  obtain ⟨r0, r1⟩ := HGF.out _ x19
  go_wp2_with fail
  refine (HHG.out _ qm19.rd).mono ?_
  rintro e w20 ⟨rfl, hb20⟩
  have b20 := b19.trans (hb20.mono b19.size)
  clear x19 b19 qm19 hb20 r0 r1
  go_wp2
  go_ret
  exact ⟨rfl, b20⟩
theorem own_fnExactHalfway : ownKnob Tryz.prog.godebug = none := by kernel_rfl
theorem laidOut_fnExactHalfway : laidOutB Tryz.prog = true := by kernel_rfl
theorem door_fnExactHalfway (os : Os) (args : Array Value) : laidMetH Tryz.prog Rows.fnExactHalfwayRow.laid ((World.doorLaid Tryz.prog 400 os).forCall (fun _ _ => 0) ⟨#[], args, []⟩).memory :=
  laidMetH_of_parts3 (fuel := 8) (laidMet_of_run' 8 (by kernel_rfl) (by kernel_rfl)) (by kernel_rfl) (by kernel_rfl)
set_option maxRecDepth 100000 in
theorem lifted_fnExactHalfway (os : Os) (started : os.Started) (H : Type) (enc : TypeId × Value → H) :
    ReturnsInHanded {} Tryz.checked os 5 .any (fun w args => (Rows.fnExactHalfwaySpec.pre enc Tryz.prog Tryz.f5 [] false w args ∧ laidMetH Tryz.prog Rows.fnExactHalfwayRow.laid w) ∧ sizedMet enc Tryz.prog Tryz.f5 (OpenSpec.ofChange Rows.fnExactHalfwaySpec) false w args)
      (Rows.fnExactHalfwaySpec.post enc Tryz.prog Tryz.f5 false true false false) := by
  refine returnsInHanded_of_change_and (C := Tryz.checked) (X := fun w _ => laidMetH Tryz.prog Rows.fnExactHalfwayRow.laid w) (fun _ _ _ hh h => h.of_heap hh) own_fnExactHalfway started (by kernel_rfl) Tryz.func5
    (ChangeSpec.witness_shaped (enc := enc) (C := Tryz.checked) (os := os) (X := fun w _ => laidMetH Tryz.prog Rows.fnExactHalfwayRow.laid w) false (World.doorLaid Tryz.prog 400 os) #[.agg #[.slice none 0 0, .slice none 0 0], .string ByteArray.empty, .bool false] 8 rfl (World.shaped_of_RefB (by kernel_rfl) (by kernel_rfl)) (by kernel_rfl) (by kernel_rfl) (by kernel_rfl) (door_fnExactHalfway os _)) ?_
  intro W base args ds gs before hval0 hW _ _ hL _
  have hval : ∀ (j : Nat) t v, Tryz.f5.params[j]? = some t → args[j]? = some v → Value.okWide Tryz.prog W .any base t v := hval0
  have hW' := hW
  obtain ⟨p, q, hA0, hV, rfl, hfz, hnd⟩ := hW
  have hA : DataW.TrodAll enc Tryz.prog W 0 (fun _ => true) true Tryz.f5.params.toList args.toList ds p := hA0
  rw [Tryz.params5] at hA hval
  obtain ⟨v0, vs0, d0, ds0, p0, q0, hargs, rfl, rfl, h0, r0⟩ := trodAll_cons hA
  obtain ⟨v1, vs1, d1, ds1, p1, q1, rfl, rfl, rfl, h1, r1⟩ := trodAll_cons r0
  obtain ⟨v2, vs2, d2, ds2, p2, q2, rfl, rfl, rfl, h2, r2⟩ := trodAll_cons r1
  obtain ⟨rfl, rfl, rfl⟩ := trodAll_nil r2
  obtain rfl : args = #[v0, v1, v2] := by cases args; simp_all
  have hV1 : DataW.TrodVars enc Tryz.prog W (fun _ => true) ["loop.example/g00217/impl.errNoSector", "loop.example/g00217/impl.errNoSlot"] gs q := hV
  obtain ⟨ea, eb, henv, hvb, hva⟩ := env_fnExactHalfway hL
  have vr : ∀ {X : World}, X.var? Tryz.prog "loop.example/g00217/impl.errNoSector" = some #[.iface 169 (.pointer (some eb))] → X.var? Tryz.prog "loop.example/g00217/impl.errNoSlot" = some #[.iface 169 (.pointer (some ea))] → ∀ sp : Nat → Bool,
      DataW.TrodVars enc Tryz.prog X sp ["loop.example/g00217/impl.errNoSector", "loop.example/g00217/impl.errNoSlot"] [tok enc (.iface 169 (.pointer (some eb))), tok enc (.iface 169 (.pointer (some ea)))] [.cell 0 0, .cell 1 0] :=
    fun x0 x1 sp => vars_read2 enc gSec tSec Tryz.underlying50 x0 trivial gSlot tSlot Tryz.underlying50 x1 trivial sp
  obtain ⟨rfl, rfl⟩ := hV1.unique (vr hvb hva _)
  obtain ⟨c0, rfl, _⟩ := okWide_struct Tryz.underlying25 (hval 0 25 v0 rfl rfl)
  have k0 := h0
  have lt0 : ∀ x ∈ p0, x.block < W.heap.size := by obtain ⟨m, hm⟩ := k0; exact DataW.trod_lt m _ _ _ hm
  obtain ⟨X0, hc0, hx0, hh0⟩ : ∃ X : DvX, (Value.agg c0).cells.toList = [X.vs, X.vl] ∧ RdDv W X ∧ HeldDv X := by obtain ⟨m, hm⟩ := h0; exact open_device hm
  obtain rfl : c0 = #[X0.vs, X0.vl] := by have h := congrArg List.toArray hc0; simp only [Value.cells, Array.toArray_toList] at h; exact h
  obtain ⟨a1, rfl, rfl, rfl, w1⟩ := open_string Tryz.underlying9 (hval 1 9 v1 rfl rfl) h1
  obtain ⟨a2, rfl, rfl, rfl⟩ := open_bool Tryz.underlying4 (hval 2 4 v2 rfl rfl) h2
  clear hA0 hval0
  refine (lawHalfway X0 a1 w1 a2 ea eb W hx0 hh0 henv).mono fun e W' ⟨he, bel⟩ => ?_
  subst he
  exact ⟨_, rfl, _, _, _, [], _, [.cell 0 0, .cell 1 0], hW', trodAll_mk1 (shut_bool Tryz.underlying4 _), (trodAll_cons_mk (Below.trod laidOut_fnExactHalfway (by kernel_rfl) (of_decide_eq_true (by kernel_rfl)) k0 bel lt0) (trodAll_cons_mk (shut_string Tryz.underlying9 w1) (trodAll_cons_mk (shut_bool Tryz.underlying4 _) trodAll_mk0))), vr (var_below hvb bel) (var_below hva bel) _, bel.frame _, fun h => by cases h⟩
theorem over_fnExactHalfway : Rows.fnExactHalfwayRow.holds Tryz.pinned (OpenSpec.ofChange Rows.fnExactHalfwaySpec) :=
  OpenClaim.holds_of_wide 5 Tryz.f5 rfl rfl rfl rfl rfl rfl rfl ⟨rfl, rfl, rfl, rfl, rfl⟩ rfl rfl rfl rfl rfl (by kernel_rfl) Tryz.func5 (by kernel_rfl)
    (of_decide_eq_true (by kernel_rfl)) (by unfold Func.isWrapper; first | (rw [if_pos (by decide +kernel)]; kernel_rfl) | (rw [if_neg (by decide +kernel)]; exact ⟨rfl, rfl⟩))
    (fun os started H enc _ => lifted_fnExactHalfway os started H enc)
theorem fnExactHalfway_holds : Rows.FnExactHalfwayCardSaid :=
  Claim7.holds_tied_plain_at .later [] [.data, .data, .data, .handle, .sentinel, .sentinel, .sentinel, .sentinel] true Rows.fnExactHalfwayCard.stood.harness Rows.fnExactHalfwayCard.stood.looks
    over_fnExactHalfway (fun _ h => by cases h) (by kernel_rfl) (fun _ h => by cases h) fnExactHalfway_row_tie rfl ⟨rfl, rfl⟩ (by kernel_rfl) rfl
    (fun f fn hf hfn => by
      obtain rfl : f = 5 := Option.some.inj ((show Tryz.prog.funcNamed "loop.example/g00217/laws.FnExactHalfway" = some 5 by kernel_rfl).symm.trans hf) |>.symm
      obtain rfl : fn = Tryz.f5 := (Option.some.inj (Tryz.func5.symm.trans hfn)).symm
      exact ⟨by kernel_rfl, fun j t ht => by
        rw [Tryz.params5] at ht
        have hm : t ∈ [25, 9, 4] := by simpa using Array.mem_of_getElem? ht
        have hall : ([25, 9, 4].all fun u => !Tryz.prog.wantsStandIn u) = true := by kernel_rfl
        exact (show Tryz.prog.wantsStandIn t = false by simpa using List.all_eq_true.1 hall t hm)⟩)
    (by kernel_rfl)
#print axioms fnExactHalfway_holds

end Go.Proofs.YthchhkiijehjbaaGreatDoor
