/- Whatever Replica it is called with, laws.FnExactReplicaOk returns true and its argument reads as before: both ReplicaOk tell the same. Condition: the three listed tables of the Go library hold what its text lays there (tied by the card). -/
import Derived.Test.YtahihlnhimmgdaaGreatDoorRows
import Derived.Test.YtahihlnhimmgdaaGreatDoorCards
import Derived.Test.YtahihlnhimmgdaaGreatDoorTie
import Derived.Test.YtahihlnhimmgdaaGreatDoorG00
import Derived.Test.YtahihlnhimmgdaaGreatDoorRepOpen
import Derived.Test.YtahihlnhimmgdaaGreatDoorRepSpk
import Derived.Test.YtahihlnhimmgdaaGreatDoorRepEqv
import Derived.ProofKit
import Derived.OpenShut
import Derived.ShutString
import Derived.ChangeOld
import Derived.LaidMore
import Derived.SevenTiedAt
import Derived.Stop.Joined
-- UNF Gen
namespace Go.Proofs.YtahihlnhimmgdaaGreatDoor
open Go.ChangeShapes Go.WideShapes Go.ChangeAt Go.RowKit
theorem rep_parts {X Y : RepX} (h : Y.rep = X.rep) (hs : SmallRep X) : SmB Y.bs ∧ Y.hi.p.sv.length ≤ 1048576 ∧ Y.hi.p.tg.length ≤ 1048576 ∧ Y.dn.length ≤ 1048576 := by
  have hp : Y.hi.p = X.hi.p := congrArg Rep.hi h
  have hb : Y.bs.map (·.b) = X.bs.map (·.b) := congrArg Rep.bs h
  have hd : Y.dn = X.dn := congrArg Rep.dn h
  have hsum := hs.sum
  refine ⟨fun M hM => ?_, by rw [hp]; omega, by rw [hp]; omega, by rw [hd]; omega⟩
  have hm : M.b ∈ X.bs.map (·.b) := by rw [← hb]; exact List.mem_map.2 ⟨M, hM, rfl⟩
  obtain ⟨t, ht, e⟩ := List.mem_map.1 hm
  have e : t.b = M.b := e
  rw [← e]
  exact hs.bs t ht
set_option maxHeartbeats 4000000 in
set_option maxRecDepth 100000 in
theorem lawReplicaOk (X : RepX) (w : World) (hr : RdRep w X) (hf : FitRep X.rep) (ht : Tab w) :
    Calls Tryz.prog 5 #[.agg #[.int .i64 X.idn, .int .i64 X.n, .int .i64 X.vw, .int .i64 X.vo, .int .i64 X.lo, .int .i64 X.pr, .int .i64 X.hi.p.vw, .int .i64 X.hi.p.nm, X.hi.vs, X.hi.vt, X.vb, X.vv, X.vn, X.vd]] w fun e w' => e = .returned (.bool true) ∧ Below w.heap.size w w' := by
  have t0 := bx_new w 68 #[.int .i64 X.idn, .int .i64 X.n, .int .i64 X.vw, .int .i64 X.vo, .int .i64 X.lo, .int .i64 X.pr, .int .i64 X.hi.p.vw, .int .i64 X.hi.p.nm, X.hi.vs, X.hi.vt, X.vb, X.vv, X.vn, X.vd]
  have b0 := below1 w (.cells #[.int .i64 X.idn, .int .i64 X.n, .int .i64 X.vw, .int .i64 X.vo, .int .i64 X.lo, .int .i64 X.pr, .int .i64 X.hi.p.vw, .int .i64 X.hi.p.nm, X.hi.vs, X.hi.vt, X.vb, X.vv, X.vn, X.vd] 68)
  obtain ⟨r, hr'⟩ : ∃ r, r = repR X.rep := ⟨_, rfl⟩
  have hne : (r != r) = false := by simp
  have HFM : Hid (∀ t ∈ X.bs, ∀ s ∈ t.b.mo, s.size ≤ maxLen) := fun t h => (hf.bs t.b (List.mem_map.2 ⟨t, h, rfl⟩)).mo
  obtain ⟨q0, q1, q2, q3, q4, q5, q6, q7, q8, q9, q10, q11, q12, q13⟩ := t0.c14
  go_enter Tryz.func5, Tryz.ntmps5
  go_wp2_with fail
  refine (szReplica_any X 1048576 _ (hr.below b0) HFM.out (by omega) (by omega)).mono ?_
  rintro e w1 ⟨hb1, z, rfl, hz⟩
  have t1 := t0.below hb1
  have b1 := b0.trans (hb1.mono b0.size)
  clear t0 b0 hb1 q0 q1 q2 q3 q4 q5 q6 q7 q8 q9 q10 q11 q12 q13
  rcases hz with hz | ⟨hz0, hz1, hz2⟩
  · subst hz
    go_wp2
    go_ret
    exact ⟨rfl, b1⟩
  have HS : SmallRep X := ⟨by omega, hz2⟩
  have HTO : Hid (∀ W, RdRep W X → Calls Tryz.prog 33 #[.agg #[.int .i64 X.idn, .int .i64 X.n, .int .i64 X.vw, .int .i64 X.vo, .int .i64 X.lo, .int .i64 X.pr, .int .i64 X.hi.p.vw, .int .i64 X.hi.p.nm, X.hi.vs, X.hi.vt, X.vb, X.vv, X.vn, X.vd]] W fun e w' => ToRep W X.rep e w') := fun W h => toReplica_any X W h HS
  have HSP : Hid (∀ (Y : RepX) W, Y.rep = X.rep → RdRep W Y → Calls Tryz.prog 14 #[.agg #[.int .i64 Y.idn, .int .i64 Y.n, .int .i64 Y.vw, .int .i64 Y.vo, .int .i64 Y.lo, .int .i64 Y.pr, .int .i64 Y.hi.p.vw, .int .i64 Y.hi.p.nm, Y.hi.vs, Y.hi.vt, Y.vb, Y.vv, Y.vn, Y.vd]] W fun e w' => e = .returned (.bool r) ∧ Below W.heap.size W w') := fun Y W hp h => by have := specReplicaOk_any Y W h (by rw [hp]; exact hf) (rep_parts hp HS).1; rw [hp] at this; rw [hr']; exact this
  have HIM : Hid (∀ (Y : RepX) B W, Y.rep = X.rep → OwnRep W B Y → Tab W → Calls Tryz.prog 13 #[.agg #[.int .i64 Y.idn, .int .i64 Y.n, .int .i64 Y.vw, .int .i64 Y.vo, .int .i64 Y.lo, .int .i64 Y.pr, .int .i64 Y.hi.p.vw, .int .i64 Y.hi.p.nm, Y.hi.vs, Y.hi.vt, Y.vb, Y.vv, Y.vn, Y.vd]] W fun e w' => e = .returned (.bool r) ∧ Below W.heap.size W w') := fun Y B W hp h t => by have := implReplicaOk_any Y W h.rd (by rw [hp]; exact hf) (rep_parts hp HS).1 (fun M hM => own_nil (h.ib M hM).mo) (rep_parts hp HS).2 t; rw [hp] at this; rw [hr']; exact this
  clear hr' hf hz1 hz2 HS
  obtain ⟨q0, q1, q2, q3, q4, q5, q6, q7, q8, q9, q10, q11, q12, q13⟩ := t1.c14
  go_wp2_with fail
  refine (HTO.out _ (hr.below b1)).mono ?_
  rintro e w2 ⟨Y1, rfl, hY1, oY1, hb2⟩
  have t2 := t1.below hb2
  have b2 := b1.trans (hb2.mono b1.size)
  clear t1 b1 hb2 q0 q1 q2 q3 q4 q5 q6 q7 q8 q9 q10 q11 q12 q13
  obtain ⟨d1, n1, v1, o1, l1, r1, ⟨⟨pv1, pn1, ps1, pt1⟩, hs1, ht1⟩, vb1, bs1, vv1, vs1, vx1, ns1, vd1, dd1⟩ := Y1
  obtain ⟨as1, cs1, at1, ct1, e1, e2⟩ := oY1.hi.slices
  obtain ⟨ab1, cb1, e3⟩ := ownSlX oY1.bl
  obtain ⟨av1, cv1, e4⟩ := ownSlX oY1.vo
  obtain ⟨an1, cn1, e5⟩ := ownSlX oY1.nw
  obtain ⟨ad1, cd1, e6⟩ := ownSlX oY1.dn
  simp only at e1 e2 e3 e4 e5 e6 hY1 oY1 ⊢
  generalize ps1.length = sn1 at e1
  generalize pt1.length = tn1 at e2
  generalize bs1.length = bn1 at e3
  generalize vs1.length = vn1 at e4
  generalize ns1.length = nn1 at e5
  generalize dd1.length = dn1 at e6
  subst e1 e2 e3 e4 e5 e6
  have HRY : Hid (RdRep w2 ⟨d1, n1, v1, o1, l1, r1, ⟨⟨pv1, pn1, ps1, pt1⟩, .slice as1 sn1 cs1, .slice at1 tn1 ct1⟩, .slice ab1 bn1 cb1, bs1, .slice av1 vn1 cv1, vs1, .slice an1 nn1 cn1, ns1, .slice ad1 dn1 cd1, dd1⟩) := oY1.rd
  have HY1 : Hid (RepX.rep ⟨d1, n1, v1, o1, l1, r1, ⟨⟨pv1, pn1, ps1, pt1⟩, .slice as1 sn1 cs1, .slice at1 tn1 ct1⟩, .slice ab1 bn1 cb1, bs1, .slice av1 vn1 cv1, vs1, .slice an1 nn1 cn1, ns1, .slice ad1 dn1 cd1, dd1⟩ = X.rep) := hY1
  clear oY1 hY1
  go_wp2_with fail
  refine (HSP.out ⟨d1, n1, v1, o1, l1, r1, ⟨⟨pv1, pn1, ps1, pt1⟩, .slice as1 sn1 cs1, .slice at1 tn1 ct1⟩, .slice ab1 bn1 cb1, bs1, .slice av1 vn1 cv1, vs1, .slice an1 nn1 cn1, ns1, .slice ad1 dn1 cd1, dd1⟩ _ HY1.out HRY.out).mono ?_
  rintro e w3 ⟨rfl, hb3⟩
  have t3 := t2.below hb3
  have b3 := b2.trans (hb3.mono b2.size)
  clear t2 b2 hb3 HSP HRY HY1
  obtain ⟨q0, q1, q2, q3, q4, q5, q6, q7, q8, q9, q10, q11, q12, q13⟩ := t3.c14
  go_wp2_with fail
  refine (HTO.out _ (hr.below b3)).mono ?_
  rintro e w4 ⟨Y2, rfl, hY2, oY2, hb4⟩
  have t4 := t3.below hb4
  have b4 := b3.trans (hb4.mono b3.size)
  clear t3 b3 hb4 q0 q1 q2 q3 q4 q5 q6 q7 q8 q9 q10 q11 q12 q13
  obtain ⟨d2, n2, v2, o2, l2, r2, ⟨⟨pv2, pn2, ps2, pt2⟩, hs2, ht2⟩, vb2, bs2, vv2, vs2, vx2, ns2, vd2, dd2⟩ := Y2
  obtain ⟨as2, cs2, at2, ct2, e1, e2⟩ := oY2.hi.slices
  obtain ⟨ab2, cb2, e3⟩ := ownSlX oY2.bl
  obtain ⟨av2, cv2, e4⟩ := ownSlX oY2.vo
  obtain ⟨an2, cn2, e5⟩ := ownSlX oY2.nw
  obtain ⟨ad2, cd2, e6⟩ := ownSlX oY2.dn
  simp only at e1 e2 e3 e4 e5 e6 hY2 oY2 ⊢
  generalize ps2.length = sn2 at e1
  generalize pt2.length = tn2 at e2
  generalize bs2.length = bn2 at e3
  generalize vs2.length = vn2 at e4
  generalize ns2.length = nn2 at e5
  generalize dd2.length = dn2 at e6
  subst e1 e2 e3 e4 e5 e6
  have HY2 : Hid (RepX.rep ⟨d2, n2, v2, o2, l2, r2, ⟨⟨pv2, pn2, ps2, pt2⟩, .slice as2 sn2 cs2, .slice at2 tn2 ct2⟩, .slice ab2 bn2 cb2, bs2, .slice av2 vn2 cv2, vs2, .slice an2 nn2 cn2, ns2, .slice ad2 dn2 cd2, dd2⟩ = X.rep) := hY2
  clear hY2
  have x5 := bx_new w4 31 #[.int .i64 d2, .int .i64 n2, .int .i64 v2, .int .i64 o2, .int .i64 l2, .int .i64 r2, .int .i64 pv2, .int .i64 pn2, .slice as2 sn2 cs2, .slice at2 tn2 ct2, .slice ab2 bn2 cb2, .slice av2 vn2 cv2, .slice an2 nn2 cn2, .slice ad2 dn2 cd2]
  have t5 := t4.below (below1 w4 (.cells #[.int .i64 d2, .int .i64 n2, .int .i64 v2, .int .i64 o2, .int .i64 l2, .int .i64 r2, .int .i64 pv2, .int .i64 pn2, .slice as2 sn2 cs2, .slice at2 tn2 ct2, .slice ab2 bn2 cb2, .slice av2 vn2 cv2, .slice an2 nn2 cn2, .slice ad2 dn2 cd2] 31))
  have b5 := b4.alloc b4.size (.cells #[.int .i64 d2, .int .i64 n2, .int .i64 v2, .int .i64 o2, .int .i64 l2, .int .i64 r2, .int .i64 pv2, .int .i64 pn2, .slice as2 sn2 cs2, .slice at2 tn2 ct2, .slice ab2 bn2 cb2, .slice av2 vn2 cv2, .slice an2 nn2 cn2, .slice ad2 dn2 cd2] 31)
  have o5 : Hid (OwnRep _ _ _) := OwnRep.below oY2 (below1 w4 (.cells #[.int .i64 d2, .int .i64 n2, .int .i64 v2, .int .i64 o2, .int .i64 l2, .int .i64 r2, .int .i64 pv2, .int .i64 pn2, .slice as2 sn2 cs2, .slice at2 tn2 ct2, .slice ab2 bn2 cb2, .slice av2 vn2 cv2, .slice an2 nn2 cn2, .slice ad2 dn2 cd2] 31))
  clear t4 oY2
  obtain ⟨q0, q1, q2, q3, q4, q5, q6, q7, q8, q9, q10, q11, q12, q13⟩ := x5.c14
  go_wp2_with fail
  refine (HIM.out ⟨d2, n2, v2, o2, l2, r2, ⟨⟨pv2, pn2, ps2, pt2⟩, .slice as2 sn2 cs2, .slice at2 tn2 ct2⟩, .slice ab2 bn2 cb2, bs2, .slice av2 vn2 cv2, vs2, .slice an2 nn2 cn2, ns2, .slice ad2 dn2 cd2, dd2⟩ _ _ HY2.out o5.out (ht.on b5)).mono ?_
  rintro e w7 ⟨rfl, hb7⟩
  have t7 := t5.below hb7
  have x7 := x5.below hb7
  have o7 : Hid (OwnRep _ _ _) := OwnRep.below o5.out hb7
  have b7 := b5.trans (hb7.mono b5.size)
  obtain ⟨h7, hh7⟩ : ∃ h7, h7 = w4.heap.size := ⟨_, rfl⟩
  rw [← hh7] at x7
  clear t5 x5 o5 b5 hb7 q0 q1 q2 q3 q4 q5 q6 q7 q8 q9 q10 q11 q12 q13 b4 HIM
  rw [← hh7]
  clear hh7
  go_wp2_with fail
  refine wp_region_noPanic ?_
  refine wp_region_held_drew (S := fun w' => (w'.cell? ⟨w.heap.size, 0, none⟩ = some (.int .i64 X.idn) ∧ w'.cell? ⟨w.heap.size, 1, none⟩ = some (.int .i64 X.n) ∧ w'.cell? ⟨w.heap.size, 2, none⟩ = some (.int .i64 X.vw) ∧ w'.cell? ⟨w.heap.size, 3, none⟩ = some (.int .i64 X.vo) ∧ w'.cell? ⟨w.heap.size, 4, none⟩ = some (.int .i64 X.lo) ∧ w'.cell? ⟨w.heap.size, 5, none⟩ = some (.int .i64 X.pr) ∧ w'.cell? ⟨w.heap.size, 6, none⟩ = some (.int .i64 X.hi.p.vw) ∧ w'.cell? ⟨w.heap.size, 7, none⟩ = some (.int .i64 X.hi.p.nm) ∧ w'.cell? ⟨w.heap.size, 8, none⟩ = some (X.hi.vs) ∧ w'.cell? ⟨w.heap.size, 9, none⟩ = some (X.hi.vt) ∧ w'.cell? ⟨w.heap.size, 10, none⟩ = some (X.vb) ∧ w'.cell? ⟨w.heap.size, 11, none⟩ = some (X.vv) ∧ w'.cell? ⟨w.heap.size, 12, none⟩ = some (X.vn) ∧ w'.cell? ⟨w.heap.size, 13, none⟩ = some (X.vd)) ∧ (w'.cell? ⟨h7, 0, none⟩ = some (.int .i64 d2) ∧ w'.cell? ⟨h7, 1, none⟩ = some (.int .i64 n2) ∧ w'.cell? ⟨h7, 2, none⟩ = some (.int .i64 v2) ∧ w'.cell? ⟨h7, 3, none⟩ = some (.int .i64 o2) ∧ w'.cell? ⟨h7, 4, none⟩ = some (.int .i64 l2) ∧ w'.cell? ⟨h7, 5, none⟩ = some (.int .i64 r2) ∧ w'.cell? ⟨h7, 6, none⟩ = some (.int .i64 pv2) ∧ w'.cell? ⟨h7, 7, none⟩ = some (.int .i64 pn2) ∧ w'.cell? ⟨h7, 8, none⟩ = some (.slice as2 sn2 cs2) ∧ w'.cell? ⟨h7, 9, none⟩ = some (.slice at2 tn2 ct2) ∧ w'.cell? ⟨h7, 10, none⟩ = some (.slice ab2 bn2 cb2) ∧ w'.cell? ⟨h7, 11, none⟩ = some (.slice av2 vn2 cv2) ∧ w'.cell? ⟨h7, 12, none⟩ = some (.slice an2 nn2 cn2) ∧ w'.cell? ⟨h7, 13, none⟩ = some (.slice ad2 dn2 cd2))) (by kernel_rfl) ⟨(t7.below (Below.refl _ _).drew).c14, (x7.below (Below.refl _ _).drew).c14⟩ (fun h0 => ?_)
  refine tkG 0 22 h0 ?_
  try simp only [Act.put, List.setIfInBounds_toArray, List.set_cons_zero, List.set_cons_succ]
  refine tkG 1 23 h0 ?_
  try simp only [Act.put, List.setIfInBounds_toArray, List.set_cons_zero, List.set_cons_succ]
  refine wpAnyH_ready (rs := [2]) (by kernel_rfl) (by simp) ?_
  refine AllReadyH.cons rfl (fun K hK => ?_) AllReadyH.nil
  go_simp
  refine (HTO.out _ (hr.below b7.drew)).mono ?_
  rintro e w8 ⟨Y8, rfl, hY8, oY8, hb8⟩
  have t8 := (t7.below (Below.refl _ _).drew).below hb8
  have x8 := (x7.below (Below.refl _ _).drew).below hb8
  have o8 : Hid (OwnRep _ _ _) := (OwnRep.below o7.out (Below.refl _ _).drew).below hb8
  have b8 := b7.drew.trans (hb8.mono b7.drew.size)
  refine hK.out _ _ (⟨t8.c14, x8.c14⟩) (fun h1 => ?_)
  clear hK K
  try simp only [Act.put, List.setIfInBounds_toArray, List.set_cons_zero, List.set_cons_succ]
  clear h0
  refine wpAnyH_ready (rs := [3]) (by kernel_rfl) (by simp) ?_
  refine AllReadyH.cons rfl (fun K hK => ?_) AllReadyH.nil
  go_simp
  refine (eqReplica_same ⟨d2, n2, v2, o2, l2, r2, ⟨⟨pv2, pn2, ps2, pt2⟩, .slice as2 sn2 cs2, .slice at2 tn2 ct2⟩, .slice ab2 bn2 cb2, bs2, .slice av2 vn2 cv2, vs2, .slice an2 nn2 cn2, ns2, .slice ad2 dn2 cd2, dd2⟩ Y8 w8 o8.out.rd oY8.rd (HY2.out.trans hY8.symm)).mono ?_
  rintro e w9 ⟨rfl, hb9⟩
  have b9 := b8.trans (hb9.mono b8.size)
  refine hK.out _ _ (⟨(t8.below hb9).c14, (x8.below hb9).c14⟩) (fun h2 => ?_)
  clear hK K
  try simp only [Act.put, List.setIfInBounds_toArray, List.set_cons_zero, List.set_cons_succ]
  clear h1
  refine tkG 4 26 h2 ?_
  try simp only [Act.put, List.setIfInBounds_toArray, List.set_cons_zero, List.set_cons_succ]
  refine wpAnyH_done (by kernel_rfl) ?_ _
  refine NoPanic.normal ?_
  go_wp2
  go_ret
  exact ⟨rfl, b9⟩
theorem own_fnExactReplicaOk : ownKnob Tryz.prog.godebug = none := by kernel_rfl
theorem laidOut_fnExactReplicaOk : laidOutB Tryz.prog = true := by kernel_rfl
theorem door_fnExactReplicaOk (os : Os) (args : Array Value) : laidMetH Tryz.prog Rows.fnExactReplicaOkRow.laid ((World.doorLaid Tryz.prog 400 os).forCall (fun _ _ => 0) ⟨#[], args, []⟩).memory :=
  laidMetH_of_parts3 (fuel := 8) (laidMet_of_run' 8 (by kernel_rfl) (by kernel_rfl)) (by kernel_rfl) (by kernel_rfl)
set_option maxRecDepth 100000 in
theorem lifted_fnExactReplicaOk (os : Os) (started : os.Started) (H : Type) (enc : TypeId × Value → H) :
    ReturnsInHanded {} Tryz.checked os 5 .any (fun w args => (Rows.fnExactReplicaOkSpec.pre enc Tryz.prog Tryz.f5 [] false w args ∧ laidMetH Tryz.prog Rows.fnExactReplicaOkRow.laid w) ∧ sizedMet enc Tryz.prog Tryz.f5 (OpenSpec.ofChange Rows.fnExactReplicaOkSpec) false w args)
      (Rows.fnExactReplicaOkSpec.post enc Tryz.prog Tryz.f5 false true false false) := by
  refine returnsInHanded_of_change_and (C := Tryz.checked) (X := fun w _ => laidMetH Tryz.prog Rows.fnExactReplicaOkRow.laid w) (fun _ _ _ hh h => h.of_heap hh) own_fnExactReplicaOk started (by kernel_rfl) Tryz.func5
    (ChangeSpec.witness_shaped (enc := enc) (C := Tryz.checked) (os := os) (X := fun w _ => laidMetH Tryz.prog Rows.fnExactReplicaOkRow.laid w) false (World.doorLaid Tryz.prog 400 os) #[.agg #[.int .i64 0, .int .i64 0, .int .i64 0, .int .i64 0, .int .i64 0, .int .i64 0, .int .i64 0, .int .i64 0, .slice none 0 0, .slice none 0 0, .slice none 0 0, .slice none 0 0, .slice none 0 0, .slice none 0 0]] 8 rfl (World.shaped_of_RefB (by kernel_rfl) (by kernel_rfl)) (by kernel_rfl) (by kernel_rfl) (by kernel_rfl) (door_fnExactReplicaOk os _)) ?_
  intro W base args ds gs before hval0 hW _ _ hL _
  have hval : ∀ (j : Nat) t v, Tryz.f5.params[j]? = some t → args[j]? = some v → Value.okWide Tryz.prog W .any base t v := hval0
  have hW' := hW
  obtain ⟨p, q, hA0, hV, rfl, hfz, hnd⟩ := hW
  have hA : DataW.TrodAll enc Tryz.prog W 0 (fun _ => true) true Tryz.f5.params.toList args.toList ds p := hA0
  rw [Tryz.params5] at hA hval
  obtain ⟨v0, vs0, d0, ds0, p0, q0, hargs, rfl, rfl, h0, r0⟩ := trodAll_cons hA
  obtain ⟨rfl, rfl, rfl⟩ := trodAll_nil r0
  obtain rfl : args = #[v0] := by cases args; simp_all
  obtain ⟨rfl, rfl⟩ := trodVars_none hV
  obtain ⟨c0, rfl, _⟩ := okWide_struct Tryz.underlying68 (hval 0 68 v0 rfl rfl)
  have k0 := h0
  have lt0 : ∀ x ∈ p0, x.block < W.heap.size := by obtain ⟨m, hm⟩ := k0; exact DataW.trod_lt m _ _ _ hm
  obtain ⟨X0, hc0, hr0, hh0⟩ : ∃ X : RepX, (Value.agg c0).cells.toList = X.cs ∧ RdRep W X ∧ FitRep X.rep := by obtain ⟨m, hm⟩ := h0; exact open_replica hm
  obtain rfl : c0 = #[.int .i64 X0.idn, .int .i64 X0.n, .int .i64 X0.vw, .int .i64 X0.vo, .int .i64 X0.lo, .int .i64 X0.pr, .int .i64 X0.hi.p.vw, .int .i64 X0.hi.p.nm, X0.hi.vs, X0.hi.vt, X0.vb, X0.vv, X0.vn, X0.vd] := by have h := congrArg List.toArray hc0; simp only [Value.cells, Array.toArray_toList] at h; exact h
  have htab := tab_of_laid hL
  clear hA0 hval0
  refine (lawReplicaOk X0 W hr0 hh0 htab).mono fun e W' ⟨he, bel⟩ => ?_
  subst he
  exact ⟨_, rfl, _, _, _, [], _, [], hW', trodAll_mk1 (shut_bool Tryz.underlying4 _), (trodAll_cons_mk (Below.trod laidOut_fnExactReplicaOk (by kernel_rfl) (of_decide_eq_true (by kernel_rfl)) k0 bel lt0) trodAll_mk0), rfl, bel.frame _, fun h => by cases h⟩
theorem over_fnExactReplicaOk : Rows.fnExactReplicaOkRow.holds Tryz.pinned (OpenSpec.ofChange Rows.fnExactReplicaOkSpec) :=
  OpenClaim.holds_of_wide 5 Tryz.f5 rfl rfl rfl rfl rfl rfl rfl ⟨rfl, rfl, rfl, rfl, rfl⟩ rfl rfl rfl rfl rfl (by kernel_rfl) Tryz.func5 (by kernel_rfl)
    (of_decide_eq_true (by kernel_rfl)) (by unfold Func.isWrapper; first | (rw [if_pos (by decide +kernel)]; kernel_rfl) | (rw [if_neg (by decide +kernel)]; exact ⟨rfl, rfl⟩))
    (fun os started H enc _ => lifted_fnExactReplicaOk os started H enc)
theorem fnExactReplicaOk_holds : Rows.FnExactReplicaOkCardSaid :=
  Claim7.holds_tied_plain_at .later [] [.data, .data, .data] true Rows.fnExactReplicaOkCard.stood.harness Rows.fnExactReplicaOkCard.stood.looks
    over_fnExactReplicaOk (fun _ h => by cases h) (by kernel_rfl) (fun _ h => by cases h) fnExactReplicaOk_row_tie rfl ⟨rfl, rfl⟩ (by kernel_rfl) rfl
    (fun f fn hf hfn => by
      obtain rfl : f = 5 := Option.some.inj ((show Tryz.prog.funcNamed "loop.example/g00217/laws.FnExactReplicaOk" = some 5 by kernel_rfl).symm.trans hf) |>.symm
      obtain rfl : fn = Tryz.f5 := (Option.some.inj (Tryz.func5.symm.trans hfn)).symm
      exact ⟨by kernel_rfl, fun j t ht => by
        rw [Tryz.params5] at ht
        have hm : t ∈ [68] := by simpa using Array.mem_of_getElem? ht
        have hall : ([68].all fun u => !Tryz.prog.wantsStandIn u) = true := by kernel_rfl
        exact (show Tryz.prog.wantsStandIn t = false by simpa using List.all_eq_true.1 hall t hm)⟩)
    (by kernel_rfl)
#print axioms fnExactReplicaOk_holds

end Go.Proofs.YtahihlnhimmgdaaGreatDoor
