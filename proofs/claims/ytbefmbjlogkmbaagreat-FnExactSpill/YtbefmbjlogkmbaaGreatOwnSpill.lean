/- Whatever tree it is called with, laws.FnExactSpill returns true and its argument reads as before: both Spill tell the same, in memory of their own, and what they are handed stays. No condition. -/
import Derived.Test.YtbefmbjlogkmbaaGreatRows
import Derived.Test.YtbefmbjlogkmbaaGreatTreSpl3
import Derived.ProofKit
import Derived.OpenShut
import Derived.ShutString
import Derived.ChangeOld
namespace Go.Proofs.YtbefmbjlogkmbaaGreat
set_option maxHeartbeats 16000000
set_option maxRecDepth 100000
open Go.ChangeShapes Go.WideShapes Go.ChangeAt Go.RowKit
open Go.ChangeMaps (open_string shut_string)
theorem room_spill {X G : TrX} (h : SmallTr X) (hg : G.tre = spillR X.tre) : Room 1 G := by
  unfold spillR at hg
  split at hg
  · rename_i htk
    split at hg
    · have hTP := (treeOk_iff X.tre).1 htk
      have hl : X.mem.length ≤ 300 := okL_len hTP.mem
      have hm : G.mem = [] := congrArg Tre.mem hg
      have hy : G.ys.map (·.T) = builtT X.mem :: X.ys.map (·.T) := congrArg Tre.young hg
      have ho : G.os.map (·.T) = X.os.map (·.T) := congrArg Tre.old hg
      have hs : G.snaps = X.snaps := congrArg Tre.snaps hg
      have h1 : tsz G.ys = (1 + (bitsL X.mem).length + (blksL X.mem).length) + tsz X.ys := by
        rw [tsz_same (vs := ⟨builtT X.mem, .slice none 0 0, .slice none 0 0⟩ :: X.ys) hy]
        simp [tsz, builtT]
      have h2 := tsz_same ho
      have h3 := bitsL_len X.mem
      have h4 : (blksL X.mem).length ≤ 300 := by unfold blksL; rw [blkF_len]; omega
      have h5 := (cntT_two G.ys).1
      have h6 := (cntT_two G.os).1
      have h7 := h.sum
      refine ⟨by rw [hm]; simp, .inr (by rw [hm]; simp only [List.length_nil]; omega), .inr (by rw [hm]; simp only [List.length_nil]; omega), by unfold cntTr; rw [hm, hs]; simp only [List.length_nil]; omega⟩
    · exact (small_same hg h).room
  · exact (small_same (X := ⟨.slice none 0 0, .slice none 0 0, .slice none 0 0, .slice none 0 0, [], [], [], 0, []⟩) hg ⟨by simp [tsz], (fun x hx => by cases hx), (fun x hx => by cases hx), (fun x hx => by cases hx)⟩).room
theorem lawSpill (X : TrX) (w : World) (hx : RdTr w X) (hh : HeldTr X) :
    Calls Tryz.prog 4 #[.agg #[X.vm, X.vy, X.vo, .int .i64 X.seq, X.vs]] w fun e w' => e = .returned (.bool true) ∧ Below w.heap.size w w' := by
  have t0 := treAt_new w X 26
  have b0 := below1 w (.cells #[X.vm, X.vy, X.vo, .int .i64 X.seq, X.vs] 26)
  have HSZ : Hid (Calls _ _ _ _ _) := szTree_any X _ (hx.below b0) hh
  have HFT : Hid (SmallTr X → FitTr X) := fun h => h.fit hh
  obtain ⟨d0, d1, d2, d3, d4⟩ := id t0
  go_enter Tryz.func4, Tryz.ntmps4
  go_wp2_with fail
  refine HSZ.out.mono ?_
  rintro e w1 ⟨hb1, z, rfl, hz⟩
  have t1 := t0.below hb1
  have b1 := b0.trans (hb1.mono b0.size)
  clear HSZ t0 b0 hb1 d0 d1 d2 d3 d4
  rcases hz with hz | ⟨hz0, hsm⟩
  · go_wp2
    go_ret
    exact ⟨rfl, b1⟩
  have HTO : Hid (∀ W, RdTr W X → Calls Tryz.prog 9 #[.agg #[X.vm, X.vy, X.vo, .int .i64 X.seq, X.vs]] W fun e w' => ToTr W X e w') := fun W h => toTree_any X W h hsm
  obtain ⟨ok, hok0⟩ : ∃ ok, ok = spillO X.tre := ⟨_, rfl⟩
  obtain ⟨R, hR⟩ : ∃ R, R = spillR X.tre := ⟨_, rfl⟩
  have HSP : Hid (∀ (Y : TrX) lo W, OwnTree W lo Y → Y.tre = X.tre → Calls Tryz.prog 17 #[.agg #[Y.vm, Y.vy, Y.vo, .int .i64 Y.seq, Y.vs]] W fun e w' => TreResS W R ok e w') := fun Y lo W ho he => by
    have := specSpill_any Y W ho.rd (fit_same he (HFT.out hsm)) (fun ht => (own_cp ho (small_same he hsm) ht).siz)
    unfold SSpillPost at this
    rw [he, ← hok0, ← hR] at this
    exact this
  have HIM : Hid (∀ (Y : TrX) lo W, OwnTree W lo Y → Y.tre = X.tre → Calls Tryz.prog 18 #[.agg #[Y.vm, Y.vy, Y.vo, .int .i64 Y.seq, Y.vs]] W fun e w' => TreRes W R ok e w') := fun Y lo W ho he => by
    have := implSpill_any Y W ho.rd (fit_same he (HFT.out hsm)) (fun ht => own_cp ho (small_same he hsm) ht)
    unfold ISpillPost at this
    rw [he, ← hok0, ← hR] at this
    exact this
  have HRM : Hid (∀ Y : TrX, Y.tre = X.tre → Room 1 Y) := fun Y he => (small_same he hsm).room
  have HRG : Hid (∀ G : TrX, G.tre = R → Room 1 G) := fun G he => room_spill hsm (by rw [he, hR])
  have hok : (ok != ok) = false := by cases ok <;> rfl
  clear hsm HFT hh hok0 hR
  -- THE MODEL
  obtain ⟨d0, d1, d2, d3, d4⟩ := id t1
  go_wp2_with fail
  refine (HTO.out _ (hx.below b1)).mono ?_
  rintro e w2 ⟨Y2, rfl, he2, ho2, hb2⟩
  have t2 := t1.below hb2
  have b2 := b1.trans (hb2.mono b1.size)
  clear t1 hb2 d0 d1 d2 d3 d4 b1
  go_wp2_with fail
  refine (HSP.out Y2 _ _ ho2 he2).mono ?_
  rintro e w3 ⟨Z, rfl, heZ, hrZ, hb3⟩
  have t3 := t2.below hb3
  have b3 := b2.trans (hb3.mono b2.size)
  have LZ : Hid (∀ k ∈ trB Z, k < w3.heap.size) := fun k hk => (hrZ.bound hk).2
  have s3 := t3.lt
  clear t2 hb3 ho2 he2 b2 HSP
  obtain ⟨zm, zy, zo, zs, zmn, zyn, zon, zsn, zcm, zcy, zco, zcs, v0, v1, v2, v3⟩ := hrZ.rd.slices
  obtain ⟨vm3, vy3, vo3, vs3, mem3, ys3, os3, seq3, snaps3⟩ := Z
  simp only at v0 v1 v2 v3
  subst v0
  subst v1
  subst v2
  subst v3
  obtain ⟨Z, hZ⟩ : ∃ Z : TrX, Z = ⟨.slice zm zmn zcm, .slice zy zyn zcy, .slice zo zon zco, .slice zs zsn zcs, mem3, ys3, os3, seq3, snaps3⟩ := ⟨_, rfl⟩
  have x4 := treAt_new w3 Z 33
  have bb4 := below1 w3 (.cells #[.slice zm zmn zcm, .slice zy zyn zcy, .slice zo zon zco, .int .i64 seq3, .slice zs zsn zcs] 33)
  have HAR : Hid (∀ W, RdTr W Z → ∀ G : TrX, RdTr W G → G.tre = R → Calls Tryz.prog 12 #[.agg #[G.vm, G.vy, G.vo, .int .i64 G.seq, G.vs], .agg #[.slice zm zmn zcm, .slice zy zyn zcy, .slice zo zon zco, .int .i64 seq3, .slice zs zsn zcs]] W fun e w' => e = .returned (.bool true) ∧ Below W.heap.size W w') := fun W h G hg he => by
    have := eqTree_same G Z W hg h (by rw [he, hZ]; exact heZ.symm)
    rw [hZ] at this
    exact this
  have HZF : Hid (∀ W, TreAt W w3.heap.size Z → W.cell? ⟨w3.heap.size, 0, none⟩ = some (.slice zm zmn zcm) ∧ W.cell? ⟨w3.heap.size, 1, none⟩ = some (.slice zy zyn zcy) ∧ W.cell? ⟨w3.heap.size, 2, none⟩ = some (.slice zo zon zco) ∧ W.cell? ⟨w3.heap.size, 3, none⟩ = some (.int .i64 seq3) ∧ W.cell? ⟨w3.heap.size, 4, none⟩ = some (.slice zs zsn zcs)) := fun W h => by rw [hZ] at h; exact h
  rw [← hZ] at hrZ LZ
  rw [hZ] at x4
  have x4' : TreAt (w3.alloc (.cells #[.slice zm zmn zcm, .slice zy zyn zcy, .slice zo zon zco, .int .i64 seq3, .slice zs zsn zcs] 33)) w3.heap.size Z := by rw [hZ]; exact x4
  clear x4 hZ heZ
  have t4 := t3.below bb4
  have b4 := b3.trans (bb4.mono b3.size)
  have hrZ4 := hrZ.below bb4
  have s4 : (w3.alloc (.cells #[.slice zm zmn zcm, .slice zy zyn zcy, .slice zo zon zco, .int .i64 seq3, .slice zs zsn zcs] 33)).heap.size = w3.heap.size + 1 := by simp
  obtain ⟨d0, d1, d2, d3, d4⟩ := id t4
  clear t3 b3 hrZ bb4
  go_wp2_with fail
  generalize w3.alloc (.cells #[.slice zm zmn zcm, .slice zy zyn zcy, .slice zo zon zco, .int .i64 seq3, .slice zs zsn zcs] 33) = W4 at x4' t4 b4 hrZ4 s4 d0 d1 d2 d3 d4 ⊢
  -- THE ARGUMENT
  refine (HTO.out _ (hx.below b4)).mono ?_
  rintro e w5 ⟨Y, rfl, heY, hoY, hb5⟩
  have t5 := t4.below hb5
  have x5 := x4'.below hb5
  have b5 := b4.trans (hb5.mono b4.size)
  have hrZ5 := hrZ4.below hb5
  have LY : Hid (∀ k ∈ trB Y, W4.heap.size ≤ k ∧ k < w5.heap.size) := fun k hk => hoY.bound hk
  have s5 := hb5.size
  have rmY : Hid (Room 1 Y) := HRM.out Y heY
  clear t4 x4' b4 hrZ4 hb5 d0 d1 d2 d3 d4
  obtain ⟨am, ay, ao, an, mn, yn, on, nn, cm, cy, co, cn, v0, v1, v2, v3⟩ := hoY.rd.slices
  obtain ⟨vm4, vy4, vo4, vs4, mem4, ys4, os4, seq4, snaps4⟩ := Y
  simp only at v0 v1 v2 v3
  subst v0
  subst v1
  subst v2
  subst v3
  have y6 := treAt_new w5 ⟨.slice am mn cm, .slice ay yn cy, .slice ao on co, .slice an nn cn, mem4, ys4, os4, seq4, snaps4⟩ 33
  have bb6 := below1 w5 (.cells #[.slice am mn cm, .slice ay yn cy, .slice ao on co, .int .i64 seq4, .slice an nn cn] 33)
  simp only at y6
  have t6 := t5.below bb6
  have x6 := x5.below bb6
  have b6 := b5.trans (bb6.mono b5.size)
  have hrZ6 := hrZ5.below bb6
  have hoY6 := hoY.below bb6
  have s6 : (w5.alloc (.cells #[.slice am mn cm, .slice ay yn cy, .slice ao on co, .int .i64 seq4, .slice an nn cn] 33)).heap.size = w5.heap.size + 1 := by simp
  obtain ⟨p0, p1, p2, p3, p4⟩ := id y6
  simp only at p0 p1 p2 p3 p4
  clear t5 x5 b5 hrZ5 hoY bb6
  go_wp2_with fail
  generalize w5.alloc (.cells #[.slice am mn cm, .slice ay yn cy, .slice ao on co, .int .i64 seq4, .slice an nn cn] 33) = W6 at y6 t6 x6 b6 hrZ6 hoY6 s6 p0 p1 p2 p3 p4 ⊢
  -- THE PROGRAM
  refine (HIM.out ⟨.slice am mn cm, .slice ay yn cy, .slice ao on co, .slice an nn cn, mem4, ys4, os4, seq4, snaps4⟩ _ _ hoY6 heY).mono ?_
  rintro e w7 ⟨G, rfl, heG, hoG, hb7⟩
  have t7 := t6.below hb7
  have x7 := x6.below hb7
  have y7 := y6.below hb7
  have b7 := b6.trans (hb7.mono b6.size)
  have hrZ7 := hrZ6.below hb7
  have hoY7 := hoY6.below hb7
  have LG : Hid (∀ k ∈ trB G, W6.heap.size ≤ k ∧ k < w7.heap.size) := fun k hk => hoG.bound hk
  have s7 := hb7.size
  have rmG : Hid (Room 1 G) := HRG.out G heG
  clear t6 x6 y6 b6 hrZ6 hoY6 hb7 p0 p1 p2 p3 p4
  obtain ⟨gm, gy, go, gs, gmn, gyn, gon, gsn, gcm, gcy, gco, gcs, v0, v1, v2, v3⟩ := hoG.rd.slices
  obtain ⟨vm6, vy6, vo6, vs6, mem6, ys6, os6, seq6, snaps6⟩ := G
  simp only at v0 v1 v2 v3
  subst v0
  subst v1
  subst v2
  subst v3
  obtain ⟨G, hG⟩ : ∃ G : TrX, G = ⟨.slice gm gmn gcm, .slice gy gyn gcy, .slice go gon gco, .slice gs gsn gcs, mem6, ys6, os6, seq6, snaps6⟩ := ⟨_, rfl⟩
  have HGF : Hid (∀ W, TreAt W w7.heap.size G → W.cell? ⟨w7.heap.size, 0, none⟩ = some (.slice gm gmn gcm) ∧ W.cell? ⟨w7.heap.size, 1, none⟩ = some (.slice gy gyn gcy) ∧ W.cell? ⟨w7.heap.size, 2, none⟩ = some (.slice go gon gco) ∧ W.cell? ⟨w7.heap.size, 3, none⟩ = some (.int .i64 seq6) ∧ W.cell? ⟨w7.heap.size, 4, none⟩ = some (.slice gs gsn gcs)) := fun W h => by rw [hG] at h; exact h
  have HEG : Hid (∀ W, RdTr W Z → RdTr W G → Calls Tryz.prog 12 #[.agg #[.slice gm gmn gcm, .slice gy gyn gcy, .slice go gon gco, .int .i64 seq6, .slice gs gsn gcs], .agg #[.slice zm zmn zcm, .slice zy zyn zcy, .slice zo zon zco, .int .i64 seq3, .slice zs zsn zcs]] W fun e w' => e = .returned (.bool true) ∧ Below W.heap.size W w') := fun W h hg => by
    have := HAR.out W h G hg (by rw [hG]; exact heG)
    rw [hG] at this
    exact this
  obtain ⟨mm, hmm⟩ : ∃ mm, mm = 1 + cntTr G := ⟨_, rfl⟩
  have HMG : Hid (∀ W lo, OwnTree W lo G → Calls Tryz.prog 14 #[.agg #[.slice gm gmn gcm, .slice gy gyn gcy, .slice go gon gco, .int .i64 seq6, .slice gs gsn gcs], .int .i64 1] W fun e w' => e = .returned (.int .i64 (mm : Int)) ∧ OwnTree w' lo (mkTr 1 G) ∧ Touch (trB G) W w') := fun W lo ho => by
    have := markTree_any G lo 1 W ho (by omega) (by rw [hG]; exact rmG.out)
    unfold MarkTr at this
    rw [← hmm] at this
    rw [hG] at this ⊢
    exact this
  have HHG : Hid (∀ W, RdTr W (mkTr 1 G) → Calls Tryz.prog 16 #[.agg #[.slice gm gmn gcm, .slice gy gyn gcy, .slice go gon gco, .int .i64 seq6, .slice gs gsn gcs], .int .i64 1] W fun e w' => e = .returned (.int .i64 (mm : Int)) ∧ Below W.heap.size W w') := fun W h => by
    have := heldTree_any G 1 W (by omega) (by rw [hG]; exact rmG.out) h
    rw [← hmm] at this
    rw [hG] at this
    exact this
  have x8 := treAt_new w7 ⟨.slice gm gmn gcm, .slice gy gyn gcy, .slice go gon gco, .slice gs gsn gcs, mem6, ys6, os6, seq6, snaps6⟩ 33
  simp only at x8
  rw [← hG] at x8 hoG LG
  have bb8 := below1 w7 (.cells #[.slice gm gmn gcm, .slice gy gyn gcy, .slice go gon gco, .int .i64 seq6, .slice gs gsn gcs] 33)
  have t8 := t7.below bb8
  have z8 := x7.below bb8
  have y8 := y7.below bb8
  have b8 := b7.trans (bb8.mono b7.size)
  have hrZ8 := hrZ7.below bb8
  have hoY8 := hoY7.below bb8
  have hoG8 := hoG.below bb8
  obtain ⟨p0, p1, p2, p3, p4⟩ := HZF.out _ z8
  obtain ⟨r0, r1, r2, r3, r4⟩ := HGF.out _ x8
  have hm0 : ¬ ((mm : Int) < 0) := by omega
  have hm1 : ((mm : Int) != (mm : Int)) = false := by simp
  clear t7 x7 y7 b7 hrZ7 hoY7 hoG bb8 hmm hG heG rmG HRG
  go_wp2_with fail
  generalize w7.alloc (.cells #[.slice gm gmn gcm, .slice gy gyn gcy, .slice go gon gco, .int .i64 seq6, .slice gs gsn gcs] 33) = W8 at x8 t8 z8 y8 b8 hrZ8 hoY8 hoG8 p0 p1 p2 p3 p4 r0 r1 r2 r3 r4 ⊢
  refine (HEG.out _ hrZ8.rd hoG8.rd).mono ?_
  rintro e w9 ⟨rfl, hb9⟩
  have t9 := t8.below hb9
  have x9 := x8.below hb9
  have y9 := y8.below hb9
  have z9 := z8.below hb9
  have b9 := b8.trans (hb9.mono b8.size)
  have hrZ9 := hrZ8.below hb9
  have hoY9 := hoY8.below hb9
  have hoG9 := hoG8.below hb9
  clear t8 x8 y8 z8 b8 hrZ8 hoY8 hoG8 hb9 p0 p1 p2 p3 p4 r0 r1 r2 r3 r4
  go_wp2_with fail
  refine wp_region_noPanic ?_
  refine wp_region_held_drew (S := fun w' => (w'.cell? ⟨w5.heap.size, 0, none⟩ = some (.slice am mn cm) ∧ w'.cell? ⟨w5.heap.size, 1, none⟩ = some (.slice ay yn cy) ∧ w'.cell? ⟨w5.heap.size, 2, none⟩ = some (.slice ao on co) ∧ w'.cell? ⟨w5.heap.size, 3, none⟩ = some (.int .i64 seq4) ∧ w'.cell? ⟨w5.heap.size, 4, none⟩ = some (.slice an nn cn)) ∧ w'.cell? ⟨w.heap.size, 0, none⟩ = some X.vm ∧ w'.cell? ⟨w.heap.size, 1, none⟩ = some X.vy ∧ w'.cell? ⟨w.heap.size, 2, none⟩ = some X.vo ∧ w'.cell? ⟨w.heap.size, 3, none⟩ = some (.int .i64 X.seq) ∧ w'.cell? ⟨w.heap.size, 4, none⟩ = some X.vs) (by kernel_rfl) ⟨y9, t9⟩ (fun hH => ?_)
  have dd : Below w9.heap.size w9 w9.drew := (Below.refl _ w9).drew
  have qb := b9.drew
  have qo := hoY9.below dd
  have qz := hrZ9.below dd
  have qg := hoG9.below dd
  have qx := x9.below dd
  have qv := z9.below dd
  clear t9 x9 y9 z9 b9 hrZ9 hoY9 hoG9 dd
  revert qv
  revert qx
  revert qg
  revert qz
  revert qo
  revert qb
  revert hH
  generalize w9.drew = V9
  intro hH qb qo qz qg qx qv
  refine tkA 0 41 hH ?_; try simp only [Act.put, sA, sZ, sS]
  refine tkA 1 42 hH ?_; try simp only [Act.put, sA, sZ, sS]
  refine wpAnyH_ready (rs := [2]) (by kernel_rfl) (by simp) ?_
  refine AllReadyH.cons rfl (fun K hK => ?_) AllReadyH.nil
  go_simp
  refine (HTO.out _ (hx.below qb)).mono ?_
  rintro e w10 ⟨Y8, rfl, he8, ho8, hb10⟩
  have y10 : TreAt w10 w5.heap.size ⟨.slice am mn cm, .slice ay yn cy, .slice ao on co, .slice an nn cn, mem4, ys4, os4, seq4, snaps4⟩ := TreAt.below (w := V9) hH.1 hb10
  have t10 : TreAt w10 w.heap.size X := TreAt.below (w := V9) hH.2 hb10
  replace qb := qb.trans (hb10.mono qb.size)
  replace qo := qo.below hb10
  replace qz := qz.below hb10
  replace qg := qg.below hb10
  replace qx := qx.below hb10
  replace qv := qv.below hb10
  refine hK.out _ _ ⟨y10, t10⟩ (fun h8 => ?_)
  clear hK K hH hb10
  try simp only [Act.put, sA, sZ, sS]
  refine wpAnyH_ready (rs := [3]) (by kernel_rfl) (by simp) ?_
  refine AllReadyH.cons rfl (fun K hK => ?_) AllReadyH.nil
  go_simp
  refine (eqTree_same ⟨.slice am mn cm, .slice ay yn cy, .slice ao on co, .slice an nn cn, mem4, ys4, os4, seq4, snaps4⟩ Y8 _ qo.rd ho8.rd (by rw [heY, he8])).mono ?_
  rintro e w11 ⟨rfl, hb11⟩
  have qb11 := qb.trans (hb11.mono qb.size)
  have qo11 := qo.below hb11
  have qz11 := qz.below hb11
  have qg11 := qg.below hb11
  have qx11 := qx.below hb11
  have qv11 := qv.below hb11
  have y11 := y10.below hb11
  have t11 := t10.below hb11
  refine hK.out _ _ ⟨y10.below hb11, t10.below hb11⟩ (fun h9 => ?_)
  clear hK K h8 y10 t10
  try simp only [Act.put, sA, sZ, sS]
  refine tkA 4 45 h9 ?_; try simp only [Act.put, sA, sZ, sS]
  refine wpAnyH_done (by kernel_rfl) ?_ _
  refine NoPanic.normal ?_
  clear h9 ho8 he8 qb qo qz qg qx qv hb11
  -- THE MARKS OF THE ARGUMENT
  obtain ⟨p0, p1, p2, p3, p4⟩ := id y11
  simp only at p0 p1 p2 p3 p4
  go_wp2_with fail
  refine (markTree_any ⟨.slice am mn cm, .slice ay yn cy, .slice ao on co, .slice an nn cn, mem4, ys4, os4, seq4, snaps4⟩ _ 1 _ qo11 (by omega) rmY.out).mono ?_
  rintro e w12 ⟨rfl, -, hto⟩
  have qz12 : RowsTr w12 _ Z := qz11.touch hto (fun k hk e => by have := LZ.out k hk; have := LY.out k e; omega)
  have qg12 : OwnTree w12 W6.heap.size G := by
    have ht := hto.more (cs := trB ⟨.slice am mn cm, .slice ay yn cy, .slice ao on co, .slice an nn cn, mem4, ys4, os4, seq4, snaps4⟩) (fun k hk => hk)
    have hr : RowsTr w12 W6.heap.size G := RowsTr.touch ⟨qg11.mem, qg11.young, qg11.youngs, qg11.old, qg11.olds, qg11.snaps⟩ ht (fun k hk e => by have := LG.out k hk; have := LY.out k e; omega)
    exact ⟨hr.mem, hr.young, hr.youngs, hr.old, hr.olds, hr.snaps, qg11.nod⟩
  have b12 : Below w.heap.size w w12 := hto.below qb11 (fun k hk => by have := LY.out k hk; omega)
  have t12 : TreAt w12 w.heap.size X := hto.tre t11 (fun e => by have := LY.out _ e; omega)
  have z12 : TreAt w12 w3.heap.size Z := hto.tre qv11 (fun e => by have := LY.out _ e; omega)
  have x12 : TreAt w12 w7.heap.size G := hto.tre qx11 (fun e => by have := LY.out _ e; omega)
  have hq3 : ¬ ((1 + cntTr ⟨.slice am mn cm, .slice ay yn cy, .slice ao on co, .slice an nn cn, mem4, ys4, os4, seq4, snaps4⟩ : Nat) : Int) < 0 := by omega
  generalize (1 + cntTr ⟨.slice am mn cm, .slice ay yn cy, .slice ao on co, .slice an nn cn, mem4, ys4, os4, seq4, snaps4⟩ : Nat) = kk at hq3 ⊢
  clear hto p0 p1 p2 p3 p4 qo11 qz11 qg11 qb11 qx11 qv11 y11 t11 LY rmY HRM heY
  obtain ⟨p0, p1, p2, p3, p4⟩ := HZF.out _ z12
  obtain ⟨r0, r1, r2, r3, r4⟩ := HGF.out _ x12
  go_wp2_with fail
  refine (HEG.out _ qz12.rd qg12.rd).mono ?_
  rintro e w13 ⟨rfl, hb13⟩
  have t13 := t12.below hb13
  have z13 := z12.below hb13
  have x13 := x12.below hb13
  have b13 := b12.trans (hb13.mono b12.size)
  have qz13 := qz12.below hb13
  have qg13 := qg12.below hb13
  clear t12 z12 x12 b12 qz12 qg12 hb13 p0 p1 p2 p3 p4 r0 r1 r2 r3 r4
  -- THE MARKS OF THE ANSWER
  obtain ⟨r0, r1, r2, r3, r4⟩ := HGF.out _ x13
  go_wp2_with fail
  refine (HMG.out _ _ qg13).mono ?_
  rintro e w14 ⟨rfl, qm14, hto⟩
  have qz14 : RowsTr w14 _ Z := qz13.touch hto (fun k hk e => by have := LZ.out k hk; have := LG.out k e; omega)
  have b14 : Below w.heap.size w w14 := hto.below b13 (fun k hk => by have := LG.out k hk; omega)
  have t14 : TreAt w14 w.heap.size X := hto.tre t13 (fun e => by have := LG.out _ e; omega)
  have z14 : TreAt w14 w3.heap.size Z := hto.tre z13 (fun e => by have := LG.out _ e; omega)
  have x14 : TreAt w14 w7.heap.size G := hto.tre x13 (fun e => by have := LG.out _ e; omega)
  clear hto t13 z13 x13 b13 qz13 qg13 r0 r1 r2 r3 r4 HMG HEG LG LZ
  obtain ⟨r0, r1, r2, r3, r4⟩ := HGF.out _ x14
  go_wp2_with fail
  refine (HHG.out _ qm14.rd).mono ?_
  rintro e w15 ⟨rfl, hb15⟩
  have t15 := t14.below hb15
  have z15 := z14.below hb15
  have x15 := x14.below hb15
  have b15 := b14.trans (hb15.mono b14.size)
  have qz15 := qz14.below hb15
  have qm15 := qm14.below hb15
  clear t14 z14 x14 b14 qz14 qm14 hb15 r0 r1 r2 r3 r4
  -- ANOTHER CALL
  obtain ⟨d0, d1, d2, d3, d4⟩ := id t15
  go_wp2_with fail
  refine (HTO.out _ (hx.below b15)).mono ?_
  rintro e w16 ⟨Y16, rfl, he16, ho16, hb16⟩
  have z16 := z15.below hb16
  have x16 := x15.below hb16
  have b16 := b15.trans (hb16.mono b15.size)
  have qz16 := qz15.below hb16
  have qm16 := qm15.below hb16
  clear t15 z15 x15 b15 qz15 qm15 hb16 d0 d1 d2 d3 d4 HTO
  go_wp2_with fail
  refine (HIM.out Y16 _ _ ho16 he16).mono ?_
  rintro e w17 ⟨H, rfl, heH, hoH, hb17⟩
  have z17 := z16.below hb17
  have x17 := x16.below hb17
  have b17 := b16.trans (hb17.mono b16.size)
  have qz17 := qz16.below hb17
  have qm17 := qm16.below hb17
  clear z16 x16 b16 qz16 qm16 hb17 ho16 he16 HIM
  obtain ⟨fm, fy, fo, fs, fmn, fyn, fon, fsn, fcm, fcy, fco, fcs, v0, v1, v2, v3⟩ := hoH.rd.slices
  obtain ⟨vm7, vy7, vo7, vs7, mem7, ys7, os7, seq7, snaps7⟩ := H
  simp only at v0 v1 v2 v3
  subst v0
  subst v1
  subst v2
  subst v3
  have h18 := treAt_new w17 ⟨.slice fm fmn fcm, .slice fy fyn fcy, .slice fo fon fco, .slice fs fsn fcs, mem7, ys7, os7, seq7, snaps7⟩ 33
  have bb18 := below1 w17 (.cells #[.slice fm fmn fcm, .slice fy fyn fcy, .slice fo fon fco, .int .i64 seq7, .slice fs fsn fcs] 33)
  simp only at h18
  have z18 := z17.below bb18
  have x18 := x17.below bb18
  have b18 := b17.trans (bb18.mono b17.size)
  have qz18 := qz17.below bb18
  have qm18 := qm17.below bb18
  have hoH18 := hoH.below bb18
  obtain ⟨p0, p1, p2, p3, p4⟩ := HZF.out _ z18
  obtain ⟨r0, r1, r2, r3, r4⟩ := id h18
  simp only at r0 r1 r2 r3 r4
  clear z17 x17 b17 qz17 qm17 hoH bb18
  go_wp2_with fail
  generalize w17.alloc (.cells #[.slice fm fmn fcm, .slice fy fyn fcy, .slice fo fon fco, .int .i64 seq7, .slice fs fsn fcs] 33) = W18 at h18 z18 x18 b18 qz18 qm18 hoH18 p0 p1 p2 p3 p4 r0 r1 r2 r3 r4 ⊢
  refine (HAR.out _ qz18.rd ⟨.slice fm fmn fcm, .slice fy fyn fcy, .slice fo fon fco, .slice fs fsn fcs, mem7, ys7, os7, seq7, snaps7⟩ hoH18.rd heH).mono ?_
  rintro e w19 ⟨rfl, hb19⟩
  have x19 := x18.below hb19
  have b19 := b18.trans (hb19.mono b18.size)
  have qm19 := qm18.below hb19
  clear h18 z18 x18 b18 qz18 qm18 hoH18 p0 p1 p2 p3 p4 r0 r1 r2 r3 r4 hb19
  obtain ⟨r0, r1, r2, r3, r4⟩ := HGF.out _ x19
  go_wp2_with fail
  refine (HHG.out _ qm19.rd).mono ?_
  rintro e w20 ⟨rfl, hb20⟩
  have b20 := b19.trans (hb20.mono b19.size)
  clear x19 b19 qm19 hb20 r0 r1 r2 r3 r4
  go_wp2
  go_ret
  exact ⟨rfl, b20⟩
theorem own_fnExactSpill : ownKnob Tryz.prog.godebug = none := by kernel_rfl
theorem laidOut_fnExactSpill : laidOutB Tryz.prog = true := by kernel_rfl
theorem lifted_fnExactSpill (os : Os) (started : os.Started) (H : Type) (enc : TypeId × Value → H) :
    ReturnsInHanded {} Tryz.checked os 4 .any (Rows.fnExactSpillSpec.pre6 enc Tryz.prog Tryz.f4 Rows.fnExactSpillRow.domain false) (Rows.fnExactSpillSpec.post enc Tryz.prog Tryz.f4 false true false false) := by
  refine returnsInHanded_of_change (C := Tryz.checked) own_fnExactSpill started (by kernel_rfl) Tryz.func4
    (ChangeSpec.witness6 (enc := enc) (C := Tryz.checked) false ⟨#[], #[.agg #[.slice none 0 0, .slice none 0 0, .slice none 0 0, .int .i64 0, .slice none 0 0]], []⟩ 8 (by kernel_rfl) (by kernel_rfl) (by kernel_rfl) (by kernel_rfl)) ?_
  intro W base args ds gs before hval0 hW hcnd _
  have hval : ∀ (j : Nat) t v, Tryz.f4.params[j]? = some t → args[j]? = some v → Value.okWide Tryz.prog W .any base t v := hval0
  have hW' := hW
  obtain ⟨p, q, hA0, hV, rfl, hfz, hnd⟩ := hW
  have hA : DataW.TrodAll enc Tryz.prog W 0 (fun _ => true) true Tryz.f4.params.toList args.toList ds p := hA0
  rw [Tryz.params4] at hA hval
  obtain ⟨v0, vs0, d0, ds0, p0, q0, hargs, rfl, rfl, h0, r0⟩ := trodAll_cons hA
  obtain ⟨rfl, rfl, rfl⟩ := trodAll_nil r0
  obtain rfl : args = #[v0] := by cases args; simp_all
  obtain ⟨rfl, rfl⟩ := trodVars_none hV
  obtain ⟨c0, rfl, _⟩ := okWide_struct Tryz.underlying26 (hval 0 26 v0 rfl rfl)
  have k0 := h0
  have lt0 : ∀ x ∈ p0, x.block < W.heap.size := by obtain ⟨m, hm⟩ := k0; exact DataW.trod_lt m _ _ _ hm
  obtain ⟨X0, hc0, hx0, hh0⟩ : ∃ X : TrX, (Value.agg c0).cells.toList = [X.vm, X.vy, X.vo, .int .i64 X.seq, X.vs] ∧ RdTr W X ∧ HeldTr X := by obtain ⟨m, hm⟩ := h0; exact open_tree hm
  obtain rfl : c0 = #[X0.vm, X0.vy, X0.vo, .int .i64 X0.seq, X0.vs] := by have h := congrArg List.toArray hc0; simp only [Value.cells, Array.toArray_toList] at h; exact h
  clear hA0 hval0
  refine (lawSpill X0 W hx0 hh0).mono fun e W' ⟨he, bel⟩ => ?_
  subst he
  exact ⟨_, rfl, _, _, _, [], _, [], hW', trodAll_mk1 (shut_bool Tryz.underlying4 _), (trodAll_cons_mk (Below.trod laidOut_fnExactSpill (by kernel_rfl) (of_decide_eq_true (by kernel_rfl)) k0 bel lt0) trodAll_mk0), rfl, bel.frame _, fun h => by cases h⟩
theorem over_fnExactSpill : Rows.fnExactSpillRow.holds Tryz.pinned (OpenSpec.ofChange Rows.fnExactSpillSpec) :=
  OpenClaim.holds_of_wide 4 Tryz.f4 rfl rfl rfl rfl rfl rfl rfl ⟨rfl, rfl, rfl, rfl, rfl⟩ rfl rfl rfl rfl rfl (by kernel_rfl) Tryz.func4 (by kernel_rfl)
    (of_decide_eq_true (by kernel_rfl)) (by unfold Func.isWrapper; first | (rw [if_pos (by decide +kernel)]; kernel_rfl) | (rw [if_neg (by decide +kernel)]; exact ⟨rfl, rfl⟩))
    (fun os started H enc _ => lifted_fnExactSpill os started H enc)
theorem fnExactSpill_holds : Rows.FnExactSpillSaid := over_fnExactSpill
#print axioms fnExactSpill_holds

end Go.Proofs.YtbefmbjlogkmbaaGreat
