/- Whatever Replica it is called with, laws.FnExactRestart returns true and its argument reads as before: both Restart give the same Replica, the argument stays, the answer shares memory with no argument and no two of its lists with one another. Condition: the three listed tables of the Go library hold what its text lays there (tied by the card). -/
import Derived.Test.YtilhaokiohbeeaaGreatDoorRows
import Derived.Test.YtilhaokiohbeeaaGreatDoorCards
import Derived.Test.YtilhaokiohbeeaaGreatDoorTie
import Derived.Test.YtilhaokiohbeeaaGreatDoorG00
import Derived.Test.YtilhaokiohbeeaaGreatDoorG13
import Derived.Test.YtilhaokiohbeeaaGreatDoorRepMrk
import Derived.Test.YtilhaokiohbeeaaGreatDoorRstRes
import Derived.ProofKit
import Derived.OpenShut
import Derived.ShutString
import Derived.ChangeOld
import Derived.LaidMore
import Derived.SevenTiedAt
import Derived.Stop.Joined
-- UNF Gen
namespace Go.Proofs.YtilhaokiohbeeaaGreatDoor
open Go.ChangeShapes Go.WideShapes Go.ChangeAt Go.RowKit
/-- How much a Replica holds, plain. -/
def repSum (R : Rep) : Nat := R.hi.sv.length + R.hi.tg.length + (R.bs.map (fun b => 1 + b.p.sv.length + b.p.tg.length + b.mo.length)).sum + R.vs.length + R.ns.length + R.dn.length
theorem bsz_map (ts : List BlX) : bsz ts = ((ts.map (·.b)).map (fun b => 1 + b.p.sv.length + b.p.tg.length + b.mo.length)).sum := by unfold bsz; rw [List.map_map]; rfl
theorem repSum_rep (X : RepX) : repSum X.rep = X.hi.p.sv.length + X.hi.p.tg.length + bsz X.bs + X.vs.length + X.ns.length + X.dn.length := by rw [bsz_map]; rfl
theorem cntRep_le (X : RepX) : cntRep X ≤ 5 * repSum X.rep := by
  rw [repSum_rep]
  have := cntB_bsz X.bs
  unfold cntRep cntPr
  omega
theorem rstR_le (R : Rep) : repSum (rstR R) ≤ repSum R := by
  unfold rstR
  split
  · unfold repSum; simp only [List.length_nil]; omega
  · unfold repSum; simp
theorem small_same {X Y : RepX} (h : Y.rep = X.rep) (hs : SmallRep X) : SmallRep Y := by
  have h1 := hs.sum
  rw [← repSum_rep, ← h, repSum_rep] at h1
  have hb : Y.bs.map (·.b) = X.bs.map (·.b) := congrArg Rep.bs h
  refine ⟨h1, fun M hM => ?_⟩
  have hm : M.b ∈ X.bs.map (·.b) := by rw [← hb]; exact List.mem_map.2 ⟨M, hM, rfl⟩
  obtain ⟨t, ht, e⟩ := List.mem_map.1 hm
  have e : t.b = M.b := e
  unfold SmallB
  rw [← e]
  exact hs.bs t ht
set_option maxHeartbeats 8000000 in
set_option maxRecDepth 100000 in
theorem lawRestart (X : RepX) (w : World) (hr : RdRep w X) (hf : FitRep X.rep) (ht : Tab w) :
    Calls Tryz.prog 7 #[.agg #[.int .i64 X.idn, .int .i64 X.n, .int .i64 X.vw, .int .i64 X.vo, .int .i64 X.lo, .int .i64 X.pr, .int .i64 X.hi.p.vw, .int .i64 X.hi.p.nm, X.hi.vs, X.hi.vt, X.vb, X.vv, X.vn, X.vd]] w fun e w' => e = .returned (.bool true) ∧ Below w.heap.size w w' := by
  have t0 := bx_new w 87 #[.int .i64 X.idn, .int .i64 X.n, .int .i64 X.vw, .int .i64 X.vo, .int .i64 X.lo, .int .i64 X.pr, .int .i64 X.hi.p.vw, .int .i64 X.hi.p.nm, X.hi.vs, X.hi.vt, X.vb, X.vv, X.vn, X.vd]
  have b0 := below1 w (.cells #[.int .i64 X.idn, .int .i64 X.n, .int .i64 X.vw, .int .i64 X.vo, .int .i64 X.lo, .int .i64 X.pr, .int .i64 X.hi.p.vw, .int .i64 X.hi.p.nm, X.hi.vs, X.hi.vt, X.vb, X.vv, X.vn, X.vd] 87)
  obtain ⟨R, hR⟩ : ∃ R, R = rstR X.rep := ⟨_, rfl⟩
  have HFM : Hid (∀ t ∈ X.bs, ∀ s ∈ t.b.mo, s.size ≤ maxLen) := fun t h => (hf.bs t.b (List.mem_map.2 ⟨t, h, rfl⟩)).mo
  have HX : Hid (RdRep w X) := hr
  have HTB : Hid (Tab w) := ht
  clear hr ht
  obtain ⟨q0, q1, q2, q3, q4, q5, q6, q7, q8, q9, q10, q11, q12, q13⟩ := t0.c14
  go_enter Tryz.func7, Tryz.ntmps7
  go_wp2_with fail
  refine (szReplica_any X 1048576 _ (HX.out.below b0) HFM.out (by omega) (by omega)).mono ?_
  rintro e w1 ⟨hb1, z, rfl, hz⟩
  have t1 := t0.below hb1
  have b1 := b0.trans (hb1.mono b0.size)
  clear t0 b0 hb1 q0 q1 q2 q3 q4 q5 q6 q7 q8 q9 q10 q11 q12 q13
  rcases hz with hz | ⟨hz0, hz1, hz2⟩
  · subst hz
    go_wp2
    go_ret
    exact ⟨rfl, b1⟩
  have HS : SmallRep X := ⟨by omega, hz2⟩
  have HTO : Hid (∀ W, RdRep W X → Calls Tryz.prog 48 #[.agg #[.int .i64 X.idn, .int .i64 X.n, .int .i64 X.vw, .int .i64 X.vo, .int .i64 X.lo, .int .i64 X.pr, .int .i64 X.hi.p.vw, .int .i64 X.hi.p.nm, X.hi.vs, X.hi.vt, X.vb, X.vv, X.vn, X.vd]] W fun e w' => ToRep W X.rep e w') := fun W h => toReplica_any X W h HS
  have HSP : Hid (∀ (Y : RepX) B W, Y.rep = X.rep → OwnRep W B Y → Calls Tryz.prog 26 #[.agg #[.int .i64 Y.idn, .int .i64 Y.n, .int .i64 Y.vw, .int .i64 Y.vo, .int .i64 Y.lo, .int .i64 Y.pr, .int .i64 Y.hi.p.vw, .int .i64 Y.hi.p.nm, Y.hi.vs, Y.hi.vt, Y.vb, Y.vv, Y.vn, Y.vd]] W fun e w' => ToRep W R e w') := fun Y B W hp h => by have := specRestart_any Y W h.rd (by rw [hp]; exact hf) (small_same hp HS) (small_same hp HS).bs (fun M hM => own_nil (h.ib M hM).mo); rw [hp, ← hR] at this; exact this
  have HIM : Hid (∀ (Y : RepX) B W, Y.rep = X.rep → OwnRep W B Y → Tab W → Calls Tryz.prog 24 #[.agg #[.int .i64 Y.idn, .int .i64 Y.n, .int .i64 Y.vw, .int .i64 Y.vo, .int .i64 Y.lo, .int .i64 Y.pr, .int .i64 Y.hi.p.vw, .int .i64 Y.hi.p.nm, Y.hi.vs, Y.hi.vt, Y.vb, Y.vv, Y.vn, Y.vd]] W fun e w' => ToRep W R e w') := fun Y B W hp h t => by have := implRestart_any Y W h.rd (by rw [hp]; exact hf) (small_same hp HS) (small_same hp HS).bs (fun M hM => own_nil (h.ib M hM).mo) t; rw [hp, ← hR] at this; exact this
  have SX : repSum X.rep ≤ 1048576 := by rw [repSum_rep]; exact HS.sum
  have CX : Hid (∀ Y : RepX, Y.rep = X.rep ∨ Y.rep = R → 1 + cntPr Y.hi ≤ 4194304 ∧ 1 + cntRep Y ≤ 8388608) := fun Y h => by
    have h1 := cntRep_le Y
    have h2 : repSum Y.rep ≤ 1048576 := by
      rcases h with h | h
      · rw [h]; exact SX
      · rw [h, hR]; exact Nat.le_trans (rstR_le _) SX
    have h3 := repSum_rep Y
    unfold cntPr
    omega
  have HMK : Hid (∀ (Y : RepX) B W, (Y.rep = X.rep ∨ Y.rep = R) → OwnRep W B Y → Calls Tryz.prog 53 #[.agg #[.int .i64 Y.idn, .int .i64 Y.n, .int .i64 Y.vw, .int .i64 Y.vo, .int .i64 Y.lo, .int .i64 Y.pr, .int .i64 Y.hi.p.vw, .int .i64 Y.hi.p.nm, Y.hi.vs, Y.hi.vt, Y.vb, Y.vv, Y.vn, Y.vd], .int .i64 1] W fun e w' => MarkRp W B 1 Y e w') := fun Y B W h ho => markReplica_any Y B 1 W ho (by omega) (CX.out Y h).1 (CX.out Y h).2
  have HHL : Hid (∀ (Y : RepX) W, (Y.rep = X.rep ∨ Y.rep = R) → RdRep W (mkRep 1 Y) → Calls Tryz.prog 56 #[.agg #[.int .i64 Y.idn, .int .i64 Y.n, .int .i64 Y.vw, .int .i64 Y.vo, .int .i64 Y.lo, .int .i64 Y.pr, .int .i64 Y.hi.p.vw, .int .i64 Y.hi.p.nm, Y.hi.vs, Y.hi.vt, Y.vb, Y.vv, Y.vn, Y.vd], .int .i64 1] W fun e w' => e = .returned (.int .i64 ((1 + cntRep Y : Nat) : Int)) ∧ Below W.heap.size W w') := fun Y W h ho => heldReplica_any Y 1 W ho (by omega) (CX.out Y h).1 (CX.out Y h).2
  clear hR hf hz1 hz2 HS SX CX HFM
  obtain ⟨q0, q1, q2, q3, q4, q5, q6, q7, q8, q9, q10, q11, q12, q13⟩ := t1.c14
  go_wp2_with fail
  refine (HTO.out _ (HX.out.below b1)).mono ?_
  rintro e w2 ⟨Y1, rfl, hY1, oY1, hb2⟩
  have t2 := t1.below hb2
  have b2 := b1.trans (hb2.mono b1.size)
  clear t1 b1 hb2 q0 q1 q2 q3 q4 q5 q6 q7 q8 q9 q10 q11 q12 q13
  obtain ⟨d1, n1, v1, o1, l1, r1, ⟨⟨pv1, pn1, ps1, pt1⟩, hs1, ht1⟩, vb1, bs1, vv1, vs1, vx1, ns1, vd1, dd1⟩ := Y1
  obtain ⟨as1, cs1, at1, ct1, e1, e2⟩ := oY1.hi.slices
  obtain ⟨ab1, cb1, e3⟩ := ownSlX oY1.bl
  obtain ⟨av1, cv1, e4⟩ := ownSlX oY1.vo
  obtain ⟨an1, cn1, e5⟩ := ownSlX oY1.nw
  obtain ⟨ad1, cd1, e6⟩ := ownSlX oY1.dn
  simp only at e1 e2 e3 e4 e5 e6 hY1 oY1 ⊢
  generalize ps1.length = sn1 at e1
  generalize pt1.length = tn1 at e2
  generalize bs1.length = bn1 at e3
  generalize vs1.length = vn1 at e4
  generalize ns1.length = nn1 at e5
  generalize dd1.length = dn1 at e6
  subst e1 e2 e3 e4 e5 e6
  have HY1 : Hid (RepX.rep (⟨d1, n1, v1, o1, l1, r1, ⟨⟨pv1, pn1, ps1, pt1⟩, .slice as1 sn1 cs1, .slice at1 tn1 ct1⟩, .slice ab1 bn1 cb1, bs1, .slice av1 vn1 cv1, vs1, .slice an1 nn1 cn1, ns1, .slice ad1 dn1 cd1, dd1⟩ : RepX) = _) := hY1
  clear hY1
  have O1 : Hid (OwnRep w2 _ (⟨d1, n1, v1, o1, l1, r1, ⟨⟨pv1, pn1, ps1, pt1⟩, .slice as1 sn1 cs1, .slice at1 tn1 ct1⟩, .slice ab1 bn1 cb1, bs1, .slice av1 vn1 cv1, vs1, .slice an1 nn1 cn1, ns1, .slice ad1 dn1 cd1, dd1⟩ : RepX)) := oY1
  clear oY1
  go_wp2_with fail
  refine (HSP.out (⟨d1, n1, v1, o1, l1, r1, ⟨⟨pv1, pn1, ps1, pt1⟩, .slice as1 sn1 cs1, .slice at1 tn1 ct1⟩, .slice ab1 bn1 cb1, bs1, .slice av1 vn1 cv1, vs1, .slice an1 nn1 cn1, ns1, .slice ad1 dn1 cd1, dd1⟩ : RepX) _ _ HY1.out O1.out).mono ?_
  rintro e w3 ⟨Y4, rfl, hY4, oY4, hb3⟩
  have t3 := t2.below hb3
  have b3 := b2.trans (hb3.mono b2.size)
  clear t2 b2 hb3 HSP O1 HY1
  obtain ⟨d4, n4, v4, o4, l4, r4, ⟨⟨pv4, pn4, ps4, pt4⟩, hs4, ht4⟩, vb4, bs4, vv4, vs4, vx4, ns4, vd4, dd4⟩ := Y4
  obtain ⟨as4, cs4, at4, ct4, e1, e2⟩ := oY4.hi.slices
  obtain ⟨ab4, cb4, e3⟩ := ownSlX oY4.bl
  obtain ⟨av4, cv4, e4⟩ := ownSlX oY4.vo
  obtain ⟨an4, cn4, e5⟩ := ownSlX oY4.nw
  obtain ⟨ad4, cd4, e6⟩ := ownSlX oY4.dn
  simp only at e1 e2 e3 e4 e5 e6 hY4 oY4 ⊢
  generalize ps4.length = sn4 at e1
  generalize pt4.length = tn4 at e2
  generalize bs4.length = bn4 at e3
  generalize vs4.length = vn4 at e4
  generalize ns4.length = nn4 at e5
  generalize dd4.length = dn4 at e6
  subst e1 e2 e3 e4 e5 e6
  have HY4 : Hid (RepX.rep (⟨d4, n4, v4, o4, l4, r4, ⟨⟨pv4, pn4, ps4, pt4⟩, .slice as4 sn4 cs4, .slice at4 tn4 ct4⟩, .slice ab4 bn4 cb4, bs4, .slice av4 vn4 cv4, vs4, .slice an4 nn4 cn4, ns4, .slice ad4 dn4 cd4, dd4⟩ : RepX) = _) := hY4
  clear hY4
  have A4 : Hid (∀ q ∈ repK (⟨d4, n4, v4, o4, l4, r4, ⟨⟨pv4, pn4, ps4, pt4⟩, .slice as4 sn4 cs4, .slice at4 tn4 ct4⟩, .slice ab4 bn4 cb4, bs4, .slice av4 vn4 cv4, vs4, .slice an4 nn4 cn4, ns4, .slice ad4 dn4 cd4, dd4⟩ : RepX), q < w3.heap.size) := fun q hq => (OwnRep.bound oY4 hq).2
  have N3 : Hid (w.heap.size < w3.heap.size) := t3.lt
  have x4 := bx_new w3 31 #[.int .i64 d4, .int .i64 n4, .int .i64 v4, .int .i64 o4, .int .i64 l4, .int .i64 r4, .int .i64 pv4, .int .i64 pn4, .slice as4 sn4 cs4, .slice at4 tn4 ct4, .slice ab4 bn4 cb4, .slice av4 vn4 cv4, .slice an4 nn4 cn4, .slice ad4 dn4 cd4]
  have bA := below1 w3 (.cells #[.int .i64 d4, .int .i64 n4, .int .i64 v4, .int .i64 o4, .int .i64 l4, .int .i64 r4, .int .i64 pv4, .int .i64 pn4, .slice as4 sn4 cs4, .slice at4 tn4 ct4, .slice ab4 bn4 cb4, .slice av4 vn4 cv4, .slice an4 nn4 cn4, .slice ad4 dn4 cd4] 31)
  have t4 := t3.below bA
  have b4 := b3.trans (bA.mono b3.size)
  have O4 : Hid (OwnRep _ _ _) := OwnRep.below oY4 bA
  have N4 : Hid (w3.heap.size < (w3.alloc (.cells #[.int .i64 d4, .int .i64 n4, .int .i64 v4, .int .i64 o4, .int .i64 l4, .int .i64 r4, .int .i64 pv4, .int .i64 pn4, .slice as4 sn4 cs4, .slice at4 tn4 ct4, .slice ab4 bn4 cb4, .slice av4 vn4 cv4, .slice an4 nn4 cn4, .slice ad4 dn4 cd4] 31)).heap.size) := x4.lt
  clear t3 b3 oY4 bA
  obtain ⟨q0, q1, q2, q3, q4, q5, q6, q7, q8, q9, q10, q11, q12, q13⟩ := t4.c14
  go_wp2_with fail
  generalize w3.alloc (.cells #[.int .i64 d4, .int .i64 n4, .int .i64 v4, .int .i64 o4, .int .i64 l4, .int .i64 r4, .int .i64 pv4, .int .i64 pn4, .slice as4 sn4 cs4, .slice at4 tn4 ct4, .slice ab4 bn4 cb4, .slice av4 vn4 cv4, .slice an4 nn4 cn4, .slice ad4 dn4 cd4] 31) = W4 at t4 b4 x4 O4 N4 q0 q1 q2 q3 q4 q5 q6 q7 q8 q9 q10 q11 q12 q13 ⊢
  generalize w3.heap.size = p4 at A4 N3 x4 N4 ⊢
  as_aux_lemma =>
    refine (HTO.out _ (HX.out.below b4)).mono ?_
    rintro e w5 ⟨Y5, rfl, hY5, oY5, hb5⟩
    have t5 := t4.below hb5
    have x5 := x4.below hb5
    have b5 := b4.trans (hb5.mono b4.size)
    have O5 : Hid (OwnRep _ _ _) := OwnRep.below O4.out hb5
    have N5 : Hid (W4.heap.size ≤ w5.heap.size) := hb5.size
    clear t4 x4 b4 O4 hb5 q0 q1 q2 q3 q4 q5 q6 q7 q8 q9 q10 q11 q12 q13
    obtain ⟨d5, n5, v5, o5, l5, r5, ⟨⟨pv5, pn5, ps5, pt5⟩, hs5, ht5⟩, vb5, bs5, vv5, vs5, vx5, ns5, vd5, dd5⟩ := Y5
    obtain ⟨as5, cs5, at5, ct5, e1, e2⟩ := oY5.hi.slices
    obtain ⟨ab5, cb5, e3⟩ := ownSlX oY5.bl
    obtain ⟨av5, cv5, e4⟩ := ownSlX oY5.vo
    obtain ⟨an5, cn5, e5⟩ := ownSlX oY5.nw
    obtain ⟨ad5, cd5, e6⟩ := ownSlX oY5.dn
    simp only at e1 e2 e3 e4 e5 e6 hY5 oY5 ⊢
    generalize ps5.length = sn5 at e1
    generalize pt5.length = tn5 at e2
    generalize bs5.length = bn5 at e3
    generalize vs5.length = vn5 at e4
    generalize ns5.length = nn5 at e5
    generalize dd5.length = dn5 at e6
    subst e1 e2 e3 e4 e5 e6
    have HY5 : Hid (RepX.rep (⟨d5, n5, v5, o5, l5, r5, ⟨⟨pv5, pn5, ps5, pt5⟩, .slice as5 sn5 cs5, .slice at5 tn5 ct5⟩, .slice ab5 bn5 cb5, bs5, .slice av5 vn5 cv5, vs5, .slice an5 nn5 cn5, ns5, .slice ad5 dn5 cd5, dd5⟩ : RepX) = _) := hY5
    clear hY5
    have A5 : Hid (∀ q ∈ repK (⟨d5, n5, v5, o5, l5, r5, ⟨⟨pv5, pn5, ps5, pt5⟩, .slice as5 sn5 cs5, .slice at5 tn5 ct5⟩, .slice ab5 bn5 cb5, bs5, .slice av5 vn5 cv5, vs5, .slice an5 nn5 cn5, ns5, .slice ad5 dn5 cd5, dd5⟩ : RepX), W4.heap.size ≤ q ∧ q < w5.heap.size) := fun q hq => OwnRep.bound oY5 hq
    have y6 := bx_new w5 31 #[.int .i64 d5, .int .i64 n5, .int .i64 v5, .int .i64 o5, .int .i64 l5, .int .i64 r5, .int .i64 pv5, .int .i64 pn5, .slice as5 sn5 cs5, .slice at5 tn5 ct5, .slice ab5 bn5 cb5, .slice av5 vn5 cv5, .slice an5 nn5 cn5, .slice ad5 dn5 cd5]
    have bA := below1 w5 (.cells #[.int .i64 d5, .int .i64 n5, .int .i64 v5, .int .i64 o5, .int .i64 l5, .int .i64 r5, .int .i64 pv5, .int .i64 pn5, .slice as5 sn5 cs5, .slice at5 tn5 ct5, .slice ab5 bn5 cb5, .slice av5 vn5 cv5, .slice an5 nn5 cn5, .slice ad5 dn5 cd5] 31)
    have t6 := t5.below bA
    have x6 := x5.below bA
    have b6 := b5.trans (bA.mono b5.size)
    have O6 : Hid (OwnRep _ _ _) := OwnRep.below O5.out bA
    have P6 : Hid (OwnRep _ _ (⟨d5, n5, v5, o5, l5, r5, ⟨⟨pv5, pn5, ps5, pt5⟩, .slice as5 sn5 cs5, .slice at5 tn5 ct5⟩, .slice ab5 bn5 cb5, bs5, .slice av5 vn5 cv5, vs5, .slice an5 nn5 cn5, ns5, .slice ad5 dn5 cd5, dd5⟩ : RepX)) := OwnRep.below oY5 bA
    have N6 : Hid (w5.heap.size < (w5.alloc (.cells #[.int .i64 d5, .int .i64 n5, .int .i64 v5, .int .i64 o5, .int .i64 l5, .int .i64 r5, .int .i64 pv5, .int .i64 pn5, .slice as5 sn5 cs5, .slice at5 tn5 ct5, .slice ab5 bn5 cb5, .slice av5 vn5 cv5, .slice an5 nn5 cn5, .slice ad5 dn5 cd5] 31)).heap.size) := y6.lt
    clear t5 x5 b5 O5 oY5 bA
    obtain ⟨q0, q1, q2, q3, q4, q5, q6, q7, q8, q9, q10, q11, q12, q13⟩ := y6.c14
    go_wp2_with fail
    generalize w5.alloc (.cells #[.int .i64 d5, .int .i64 n5, .int .i64 v5, .int .i64 o5, .int .i64 l5, .int .i64 r5, .int .i64 pv5, .int .i64 pn5, .slice as5 sn5 cs5, .slice at5 tn5 ct5, .slice ab5 bn5 cb5, .slice av5 vn5 cv5, .slice an5 nn5 cn5, .slice ad5 dn5 cd5] 31) = W6 at y6 t6 x6 b6 O6 P6 N6 q0 q1 q2 q3 q4 q5 q6 q7 q8 q9 q10 q11 q12 q13 ⊢
    generalize w5.heap.size = p5 at A5 N5 y6 N6 ⊢
    as_aux_lemma =>
      refine (HIM.out (⟨d5, n5, v5, o5, l5, r5, ⟨⟨pv5, pn5, ps5, pt5⟩, .slice as5 sn5 cs5, .slice at5 tn5 ct5⟩, .slice ab5 bn5 cb5, bs5, .slice av5 vn5 cv5, vs5, .slice an5 nn5 cn5, ns5, .slice ad5 dn5 cd5, dd5⟩ : RepX) _ _ HY5.out P6.out (HTB.out.on b6)).mono ?_
      rintro e w7 ⟨Y6, rfl, hY6, oY6, hb7⟩
      have t7 := t6.below hb7
      have x7 := x6.below hb7
      have y7 := y6.below hb7
      have b7 := b6.trans (hb7.mono b6.size)
      have O7 : Hid (OwnRep _ _ _) := OwnRep.below O6.out hb7
      have P7 : Hid (OwnRep _ _ (⟨d5, n5, v5, o5, l5, r5, ⟨⟨pv5, pn5, ps5, pt5⟩, .slice as5 sn5 cs5, .slice at5 tn5 ct5⟩, .slice ab5 bn5 cb5, bs5, .slice av5 vn5 cv5, vs5, .slice an5 nn5 cn5, ns5, .slice ad5 dn5 cd5, dd5⟩ : RepX)) := OwnRep.below P6.out hb7
      have N7 : Hid (W6.heap.size ≤ w7.heap.size) := hb7.size
      clear t6 x6 y6 b6 O6 P6 hb7 q0 q1 q2 q3 q4 q5 q6 q7 q8 q9 q10 q11 q12 q13
      obtain ⟨d6, n6, v6, o6, l6, r6, ⟨⟨pv6, pn6, ps6, pt6⟩, hs6, ht6⟩, vb6, bs6, vv6, vs6, vx6, ns6, vd6, dd6⟩ := Y6
      obtain ⟨as6, cs6, at6, ct6, e1, e2⟩ := oY6.hi.slices
      obtain ⟨ab6, cb6, e3⟩ := ownSlX oY6.bl
      obtain ⟨av6, cv6, e4⟩ := ownSlX oY6.vo
      obtain ⟨an6, cn6, e5⟩ := ownSlX oY6.nw
      obtain ⟨ad6, cd6, e6⟩ := ownSlX oY6.dn
      simp only at e1 e2 e3 e4 e5 e6 hY6 oY6 ⊢
      generalize ps6.length = sn6 at e1
      generalize pt6.length = tn6 at e2
      generalize bs6.length = bn6 at e3
      generalize vs6.length = vn6 at e4
      generalize ns6.length = nn6 at e5
      generalize dd6.length = dn6 at e6
      subst e1 e2 e3 e4 e5 e6
      have HY6 : Hid (RepX.rep (⟨d6, n6, v6, o6, l6, r6, ⟨⟨pv6, pn6, ps6, pt6⟩, .slice as6 sn6 cs6, .slice at6 tn6 ct6⟩, .slice ab6 bn6 cb6, bs6, .slice av6 vn6 cv6, vs6, .slice an6 nn6 cn6, ns6, .slice ad6 dn6 cd6, dd6⟩ : RepX) = _) := hY6
      clear hY6
      have A6 : Hid (∀ q ∈ repK (⟨d6, n6, v6, o6, l6, r6, ⟨⟨pv6, pn6, ps6, pt6⟩, .slice as6 sn6 cs6, .slice at6 tn6 ct6⟩, .slice ab6 bn6 cb6, bs6, .slice av6 vn6 cv6, vs6, .slice an6 nn6 cn6, ns6, .slice ad6 dn6 cd6, dd6⟩ : RepX), W6.heap.size ≤ q ∧ q < w7.heap.size) := fun q hq => OwnRep.bound oY6 hq
      have z8 := bx_new w7 31 #[.int .i64 d6, .int .i64 n6, .int .i64 v6, .int .i64 o6, .int .i64 l6, .int .i64 r6, .int .i64 pv6, .int .i64 pn6, .slice as6 sn6 cs6, .slice at6 tn6 ct6, .slice ab6 bn6 cb6, .slice av6 vn6 cv6, .slice an6 nn6 cn6, .slice ad6 dn6 cd6]
      have bA := below1 w7 (.cells #[.int .i64 d6, .int .i64 n6, .int .i64 v6, .int .i64 o6, .int .i64 l6, .int .i64 r6, .int .i64 pv6, .int .i64 pn6, .slice as6 sn6 cs6, .slice at6 tn6 ct6, .slice ab6 bn6 cb6, .slice av6 vn6 cv6, .slice an6 nn6 cn6, .slice ad6 dn6 cd6] 31)
      have t8 := t7.below bA
      have x8 := x7.below bA
      have y8 := y7.below bA
      have b8 := b7.trans (bA.mono b7.size)
      have O8 : Hid (OwnRep _ _ _) := OwnRep.below O7.out bA
      have P8 : Hid (OwnRep _ _ (⟨d5, n5, v5, o5, l5, r5, ⟨⟨pv5, pn5, ps5, pt5⟩, .slice as5 sn5 cs5, .slice at5 tn5 ct5⟩, .slice ab5 bn5 cb5, bs5, .slice av5 vn5 cv5, vs5, .slice an5 nn5 cn5, ns5, .slice ad5 dn5 cd5, dd5⟩ : RepX)) := OwnRep.below P7.out bA
      have Q8 : Hid (OwnRep _ _ (⟨d6, n6, v6, o6, l6, r6, ⟨⟨pv6, pn6, ps6, pt6⟩, .slice as6 sn6 cs6, .slice at6 tn6 ct6⟩, .slice ab6 bn6 cb6, bs6, .slice av6 vn6 cv6, vs6, .slice an6 nn6 cn6, ns6, .slice ad6 dn6 cd6, dd6⟩ : RepX)) := OwnRep.below oY6 bA
      clear t7 x7 y7 b7 O7 P7 oY6 bA
      obtain ⟨q0, q1, q2, q3, q4, q5, q6, q7, q8, q9, q10, q11, q12, q13⟩ := z8.c14
      obtain ⟨u_0, u_1, u_2, u_3, u_4, u_5, u_6, u_7, u_8, u_9, u_10, u_11, u_12, u_13⟩ := x8.c14
      go_wp2_with fail
      generalize w7.alloc (.cells #[.int .i64 d6, .int .i64 n6, .int .i64 v6, .int .i64 o6, .int .i64 l6, .int .i64 r6, .int .i64 pv6, .int .i64 pn6, .slice as6 sn6 cs6, .slice at6 tn6 ct6, .slice ab6 bn6 cb6, .slice av6 vn6 cv6, .slice an6 nn6 cn6, .slice ad6 dn6 cd6] 31) = W8 at z8 t8 x8 y8 b8 O8 P8 Q8 q0 q1 q2 q3 q4 q5 q6 q7 q8 q9 q10 q11 q12 q13 u_0 u_1 u_2 u_3 u_4 u_5 u_6 u_7 u_8 u_9 u_10 u_11 u_12 u_13 ⊢
      generalize w7.heap.size = p6 at A6 N7 z8 ⊢
      as_aux_lemma =>
        refine (eqReplica_same (⟨d6, n6, v6, o6, l6, r6, ⟨⟨pv6, pn6, ps6, pt6⟩, .slice as6 sn6 cs6, .slice at6 tn6 ct6⟩, .slice ab6 bn6 cb6, bs6, .slice av6 vn6 cv6, vs6, .slice an6 nn6 cn6, ns6, .slice ad6 dn6 cd6, dd6⟩ : RepX) (⟨d4, n4, v4, o4, l4, r4, ⟨⟨pv4, pn4, ps4, pt4⟩, .slice as4 sn4 cs4, .slice at4 tn4 ct4⟩, .slice ab4 bn4 cb4, bs4, .slice av4 vn4 cv4, vs4, .slice an4 nn4 cn4, ns4, .slice ad4 dn4 cd4, dd4⟩ : RepX) W8 Q8.out.rd O8.out.rd (HY6.out.trans HY4.out.symm)).mono ?_
        rintro e w9 ⟨rfl, hb9⟩
        have t9 := t8.below hb9
        have x9 := x8.below hb9
        have y9 := y8.below hb9
        have z9 := z8.below hb9
        have b9 := b8.trans (hb9.mono b8.size)
        have O9 : Hid (OwnRep _ _ _) := OwnRep.below O8.out hb9
        have P9 : Hid (OwnRep _ _ (⟨d5, n5, v5, o5, l5, r5, ⟨⟨pv5, pn5, ps5, pt5⟩, .slice as5 sn5 cs5, .slice at5 tn5 ct5⟩, .slice ab5 bn5 cb5, bs5, .slice av5 vn5 cv5, vs5, .slice an5 nn5 cn5, ns5, .slice ad5 dn5 cd5, dd5⟩ : RepX)) := OwnRep.below P8.out hb9
        have Q9 : Hid (OwnRep _ _ (⟨d6, n6, v6, o6, l6, r6, ⟨⟨pv6, pn6, ps6, pt6⟩, .slice as6 sn6 cs6, .slice at6 tn6 ct6⟩, .slice ab6 bn6 cb6, bs6, .slice av6 vn6 cv6, vs6, .slice an6 nn6 cn6, ns6, .slice ad6 dn6 cd6, dd6⟩ : RepX)) := OwnRep.below Q8.out hb9
        clear t8 x8 y8 z8 b8 O8 P8 Q8 hb9 q0 q1 q2 q3 q4 q5 q6 q7 q8 q9 q10 q11 q12 q13 u_0 u_1 u_2 u_3 u_4 u_5 u_6 u_7 u_8 u_9 u_10 u_11 u_12 u_13
        as_aux_lemma =>
          go_wp2_with fail
          refine wp_region_noPanic ?_
          refine wp_region_held_drew (S := fun w' => (w'.cell? ⟨w.heap.size, 0, none⟩ = some (.int .i64 X.idn) ∧ w'.cell? ⟨w.heap.size, 1, none⟩ = some (.int .i64 X.n) ∧ w'.cell? ⟨w.heap.size, 2, none⟩ = some (.int .i64 X.vw) ∧ w'.cell? ⟨w.heap.size, 3, none⟩ = some (.int .i64 X.vo) ∧ w'.cell? ⟨w.heap.size, 4, none⟩ = some (.int .i64 X.lo) ∧ w'.cell? ⟨w.heap.size, 5, none⟩ = some (.int .i64 X.pr) ∧ w'.cell? ⟨w.heap.size, 6, none⟩ = some (.int .i64 X.hi.p.vw) ∧ w'.cell? ⟨w.heap.size, 7, none⟩ = some (.int .i64 X.hi.p.nm) ∧ w'.cell? ⟨w.heap.size, 8, none⟩ = some (X.hi.vs) ∧ w'.cell? ⟨w.heap.size, 9, none⟩ = some (X.hi.vt) ∧ w'.cell? ⟨w.heap.size, 10, none⟩ = some (X.vb) ∧ w'.cell? ⟨w.heap.size, 11, none⟩ = some (X.vv) ∧ w'.cell? ⟨w.heap.size, 12, none⟩ = some (X.vn) ∧ w'.cell? ⟨w.heap.size, 13, none⟩ = some (X.vd)) ∧ (w'.cell? ⟨p5, 0, none⟩ = some (.int .i64 d5) ∧ w'.cell? ⟨p5, 1, none⟩ = some (.int .i64 n5) ∧ w'.cell? ⟨p5, 2, none⟩ = some (.int .i64 v5) ∧ w'.cell? ⟨p5, 3, none⟩ = some (.int .i64 o5) ∧ w'.cell? ⟨p5, 4, none⟩ = some (.int .i64 l5) ∧ w'.cell? ⟨p5, 5, none⟩ = some (.int .i64 r5) ∧ w'.cell? ⟨p5, 6, none⟩ = some (.int .i64 pv5) ∧ w'.cell? ⟨p5, 7, none⟩ = some (.int .i64 pn5) ∧ w'.cell? ⟨p5, 8, none⟩ = some (.slice as5 sn5 cs5) ∧ w'.cell? ⟨p5, 9, none⟩ = some (.slice at5 tn5 ct5) ∧ w'.cell? ⟨p5, 10, none⟩ = some (.slice ab5 bn5 cb5) ∧ w'.cell? ⟨p5, 11, none⟩ = some (.slice av5 vn5 cv5) ∧ w'.cell? ⟨p5, 12, none⟩ = some (.slice an5 nn5 cn5) ∧ w'.cell? ⟨p5, 13, none⟩ = some (.slice ad5 dn5 cd5))) (by kernel_rfl) ⟨(t9.below (Below.refl _ _).drew).c14, (y9.below (Below.refl _ _).drew).c14⟩ (fun h0 => ?_)
          refine tkG 0 27 h0 ?_
          try simp only [Act.put, List.setIfInBounds_toArray, List.set_cons_zero, List.set_cons_succ]
          refine tkG 1 28 h0 ?_
          try simp only [Act.put, List.setIfInBounds_toArray, List.set_cons_zero, List.set_cons_succ]
          refine wpAnyH_ready (rs := [2]) (by kernel_rfl) (by simp) ?_
          refine AllReadyH.cons rfl (fun K hK => ?_) AllReadyH.nil
          go_simp
          refine (HTO.out _ (HX.out.below b9.drew)).mono ?_
          rintro e wA ⟨Y8, rfl, hY8, oY8, hbA⟩
          have tA := (t9.below (Below.refl _ _).drew).below hbA
          have xA := (x9.below (Below.refl _ _).drew).below hbA
          have yA := (y9.below (Below.refl _ _).drew).below hbA
          have zA := (z9.below (Below.refl _ _).drew).below hbA
          have OA : Hid (OwnRep _ _ _) := (OwnRep.below O9.out (Below.refl _ _).drew).below hbA
          have PA : Hid (OwnRep _ _ (⟨d5, n5, v5, o5, l5, r5, ⟨⟨pv5, pn5, ps5, pt5⟩, .slice as5 sn5 cs5, .slice at5 tn5 ct5⟩, .slice ab5 bn5 cb5, bs5, .slice av5 vn5 cv5, vs5, .slice an5 nn5 cn5, ns5, .slice ad5 dn5 cd5, dd5⟩ : RepX)) := (OwnRep.below P9.out (Below.refl _ _).drew).below hbA
          have QA : Hid (OwnRep _ _ (⟨d6, n6, v6, o6, l6, r6, ⟨⟨pv6, pn6, ps6, pt6⟩, .slice as6 sn6 cs6, .slice at6 tn6 ct6⟩, .slice ab6 bn6 cb6, bs6, .slice av6 vn6 cv6, vs6, .slice an6 nn6 cn6, ns6, .slice ad6 dn6 cd6, dd6⟩ : RepX)) := (OwnRep.below Q9.out (Below.refl _ _).drew).below hbA
          have bA := b9.drew.trans (hbA.mono b9.drew.size)
          refine hK.out _ _ (⟨tA.c14, yA.c14⟩) (fun h1 => ?_)
          clear hK K
          try simp only [Act.put, List.setIfInBounds_toArray, List.set_cons_zero, List.set_cons_succ]
          clear h0 t9 x9 y9 z9 O9 P9 Q9 b9
          refine wpAnyH_ready (rs := [3]) (by kernel_rfl) (by simp) ?_
          refine AllReadyH.cons rfl (fun K hK => ?_) AllReadyH.nil
          go_simp
          refine (eqReplica_same (⟨d5, n5, v5, o5, l5, r5, ⟨⟨pv5, pn5, ps5, pt5⟩, .slice as5 sn5 cs5, .slice at5 tn5 ct5⟩, .slice ab5 bn5 cb5, bs5, .slice av5 vn5 cv5, vs5, .slice an5 nn5 cn5, ns5, .slice ad5 dn5 cd5, dd5⟩ : RepX) Y8 wA PA.out.rd oY8.rd (HY5.out.trans hY8.symm)).mono ?_
          rintro e wB ⟨rfl, hbB⟩
          have tB := tA.below hbB
          have xB := xA.below hbB
          have yB := yA.below hbB
          have zB := zA.below hbB
          have OB : Hid (OwnRep _ _ _) := OwnRep.below OA.out hbB
          have PB : Hid (OwnRep _ _ (⟨d5, n5, v5, o5, l5, r5, ⟨⟨pv5, pn5, ps5, pt5⟩, .slice as5 sn5 cs5, .slice at5 tn5 ct5⟩, .slice ab5 bn5 cb5, bs5, .slice av5 vn5 cv5, vs5, .slice an5 nn5 cn5, ns5, .slice ad5 dn5 cd5, dd5⟩ : RepX)) := OwnRep.below PA.out hbB
          have QB : Hid (OwnRep _ _ (⟨d6, n6, v6, o6, l6, r6, ⟨⟨pv6, pn6, ps6, pt6⟩, .slice as6 sn6 cs6, .slice at6 tn6 ct6⟩, .slice ab6 bn6 cb6, bs6, .slice av6 vn6 cv6, vs6, .slice an6 nn6 cn6, ns6, .slice ad6 dn6 cd6, dd6⟩ : RepX)) := OwnRep.below QA.out hbB
          have bB := bA.trans (hbB.mono bA.size)
          refine hK.out _ _ (⟨tB.c14, yB.c14⟩) (fun h2 => ?_)
          clear hK K
          try simp only [Act.put, List.setIfInBounds_toArray, List.set_cons_zero, List.set_cons_succ]
          clear h1 tA xA yA zA OA PA QA bA hY8 oY8 hbA hbB
          refine tkG 4 31 h2 ?_
          try simp only [Act.put, List.setIfInBounds_toArray, List.set_cons_zero, List.set_cons_succ]
          refine wpAnyH_done (by kernel_rfl) ?_ _
          refine NoPanic.normal ?_
          clear h2
          as_aux_lemma =>
            obtain ⟨q0, q1, q2, q3, q4, q5, q6, q7, q8, q9, q10, q11, q12, q13⟩ := yB.c14
            go_wp2_with fail
            refine (HMK.out (⟨d5, n5, v5, o5, l5, r5, ⟨⟨pv5, pn5, ps5, pt5⟩, .slice as5 sn5 cs5, .slice at5 tn5 ct5⟩, .slice ab5 bn5 cb5, bs5, .slice av5 vn5 cv5, vs5, .slice an5 nn5 cn5, ns5, .slice ad5 dn5 cd5, dd5⟩ : RepX) _ _ (.inl HY5.out) PB.out).mono ?_
            rintro e wC ⟨rfl, -, TC⟩
            have S4 : Hid (∀ q ∈ repK (⟨d4, n4, v4, o4, l4, r4, ⟨⟨pv4, pn4, ps4, pt4⟩, .slice as4 sn4 cs4, .slice at4 tn4 ct4⟩, .slice ab4 bn4 cb4, bs4, .slice av4 vn4 cv4, vs4, .slice an4 nn4 cn4, ns4, .slice ad4 dn4 cd4, dd4⟩ : RepX), q ∉ repK (⟨d5, n5, v5, o5, l5, r5, ⟨⟨pv5, pn5, ps5, pt5⟩, .slice as5 sn5 cs5, .slice at5 tn5 ct5⟩, .slice ab5 bn5 cb5, bs5, .slice av5 vn5 cv5, vs5, .slice an5 nn5 cn5, ns5, .slice ad5 dn5 cd5, dd5⟩ : RepX)) := fun q h1 h2 => by have := A4.out q h1; have := (A5.out q h2).1; have := N4.out; omega
            have S6 : Hid (∀ q ∈ repK (⟨d6, n6, v6, o6, l6, r6, ⟨⟨pv6, pn6, ps6, pt6⟩, .slice as6 sn6 cs6, .slice at6 tn6 ct6⟩, .slice ab6 bn6 cb6, bs6, .slice av6 vn6 cv6, vs6, .slice an6 nn6 cn6, ns6, .slice ad6 dn6 cd6, dd6⟩ : RepX), q ∉ repK (⟨d5, n5, v5, o5, l5, r5, ⟨⟨pv5, pn5, ps5, pt5⟩, .slice as5 sn5 cs5, .slice at5 tn5 ct5⟩, .slice ab5 bn5 cb5, bs5, .slice av5 vn5 cv5, vs5, .slice an5 nn5 cn5, ns5, .slice ad5 dn5 cd5, dd5⟩ : RepX)) := fun q h1 h2 => by have := (A6.out q h1).1; have := (A5.out q h2).2; have := N6.out; omega
            have S46 : Hid (∀ q ∈ repK (⟨d4, n4, v4, o4, l4, r4, ⟨⟨pv4, pn4, ps4, pt4⟩, .slice as4 sn4 cs4, .slice at4 tn4 ct4⟩, .slice ab4 bn4 cb4, bs4, .slice av4 vn4 cv4, vs4, .slice an4 nn4 cn4, ns4, .slice ad4 dn4 cd4, dd4⟩ : RepX), q ∉ repK (⟨d6, n6, v6, o6, l6, r6, ⟨⟨pv6, pn6, ps6, pt6⟩, .slice as6 sn6 cs6, .slice at6 tn6 ct6⟩, .slice ab6 bn6 cb6, bs6, .slice av6 vn6 cv6, vs6, .slice an6 nn6 cn6, ns6, .slice ad6 dn6 cd6, dd6⟩ : RepX)) := fun q h1 h2 => by have := A4.out q h1; have := (A6.out q h2).1; have := N4.out; have := N5.out; have := N6.out; omega
            have tC := tB.touch TC (fun h2 => by have := (A5.out _ h2).1; have := N3.out; have := N4.out; omega)
            have xC := xB.touch TC (fun h2 => by have := (A5.out _ h2).1; have := N4.out; omega)
            have zC := zB.touch TC (fun h2 => by have := (A5.out _ h2).2; have := N6.out; have := N7.out; omega)
            have OC : Hid (OwnRep _ _ (⟨d4, n4, v4, o4, l4, r4, ⟨⟨pv4, pn4, ps4, pt4⟩, .slice as4 sn4 cs4, .slice at4 tn4 ct4⟩, .slice ab4 bn4 cb4, bs4, .slice av4 vn4 cv4, vs4, .slice an4 nn4 cn4, ns4, .slice ad4 dn4 cd4, dd4⟩ : RepX)) := OwnRep.touch OB.out TC S4.out
            have QC6 : Hid (OwnRep _ _ (⟨d6, n6, v6, o6, l6, r6, ⟨⟨pv6, pn6, ps6, pt6⟩, .slice as6 sn6 cs6, .slice at6 tn6 ct6⟩, .slice ab6 bn6 cb6, bs6, .slice av6 vn6 cv6, vs6, .slice an6 nn6 cn6, ns6, .slice ad6 dn6 cd6, dd6⟩ : RepX)) := OwnRep.touch QB.out TC S6.out
            have bC := TC.below bB (fun q h2 => by have := (A5.out _ h2).1; have := N3.out; have := N4.out; omega)
            generalize 1 + cntRep (⟨d5, n5, v5, o5, l5, r5, ⟨⟨pv5, pn5, ps5, pt5⟩, .slice as5 sn5 cs5, .slice at5 tn5 ct5⟩, .slice ab5 bn5 cb5, bs5, .slice av5 vn5 cv5, vs5, .slice an5 nn5 cn5, ns5, .slice ad5 dn5 cd5, dd5⟩ : RepX) = c5
            have hc5 : ¬ ((c5 : Int) < 0) := by omega
            clear tB xB yB zB OB PB QB bB TC q0 q1 q2 q3 q4 q5 q6 q7 q8 q9 q10 q11 q12 q13
            as_aux_lemma =>
              obtain ⟨q0, q1, q2, q3, q4, q5, q6, q7, q8, q9, q10, q11, q12, q13⟩ := zC.c14
              obtain ⟨u_0, u_1, u_2, u_3, u_4, u_5, u_6, u_7, u_8, u_9, u_10, u_11, u_12, u_13⟩ := xC.c14
              go_wp2_with fail
              refine (eqReplica_same (⟨d6, n6, v6, o6, l6, r6, ⟨⟨pv6, pn6, ps6, pt6⟩, .slice as6 sn6 cs6, .slice at6 tn6 ct6⟩, .slice ab6 bn6 cb6, bs6, .slice av6 vn6 cv6, vs6, .slice an6 nn6 cn6, ns6, .slice ad6 dn6 cd6, dd6⟩ : RepX) (⟨d4, n4, v4, o4, l4, r4, ⟨⟨pv4, pn4, ps4, pt4⟩, .slice as4 sn4 cs4, .slice at4 tn4 ct4⟩, .slice ab4 bn4 cb4, bs4, .slice av4 vn4 cv4, vs4, .slice an4 nn4 cn4, ns4, .slice ad4 dn4 cd4, dd4⟩ : RepX) wC QC6.out.rd OC.out.rd (HY6.out.trans HY4.out.symm)).mono ?_
              rintro e wD ⟨rfl, hbD⟩
              have tD := tC.below hbD
              have xD := xC.below hbD
              have zD := zC.below hbD
              have bD := bC.trans (hbD.mono bC.size)
              have OD : Hid (OwnRep _ _ (⟨d4, n4, v4, o4, l4, r4, ⟨⟨pv4, pn4, ps4, pt4⟩, .slice as4 sn4 cs4, .slice at4 tn4 ct4⟩, .slice ab4 bn4 cb4, bs4, .slice av4 vn4 cv4, vs4, .slice an4 nn4 cn4, ns4, .slice ad4 dn4 cd4, dd4⟩ : RepX)) := OwnRep.below OC.out hbD
              have QD : Hid (OwnRep _ _ (⟨d6, n6, v6, o6, l6, r6, ⟨⟨pv6, pn6, ps6, pt6⟩, .slice as6 sn6 cs6, .slice at6 tn6 ct6⟩, .slice ab6 bn6 cb6, bs6, .slice av6 vn6 cv6, vs6, .slice an6 nn6 cn6, ns6, .slice ad6 dn6 cd6, dd6⟩ : RepX)) := OwnRep.below QC6.out hbD
              clear tC xC zC bC OC QC6 hbD q0 q1 q2 q3 q4 q5 q6 q7 q8 q9 q10 q11 q12 q13 u_0 u_1 u_2 u_3 u_4 u_5 u_6 u_7 u_8 u_9 u_10 u_11 u_12 u_13
              as_aux_lemma =>
                obtain ⟨q0, q1, q2, q3, q4, q5, q6, q7, q8, q9, q10, q11, q12, q13⟩ := zD.c14
                go_wp2_with fail
                refine (HMK.out (⟨d6, n6, v6, o6, l6, r6, ⟨⟨pv6, pn6, ps6, pt6⟩, .slice as6 sn6 cs6, .slice at6 tn6 ct6⟩, .slice ab6 bn6 cb6, bs6, .slice av6 vn6 cv6, vs6, .slice an6 nn6 cn6, ns6, .slice ad6 dn6 cd6, dd6⟩ : RepX) _ _ (.inr HY6.out) QD.out).mono ?_
                rintro e wE ⟨rfl, mE, TE⟩
                have tE := tD.touch TE (fun h2 => by have := (A6.out _ h2).1; have := N3.out; have := N4.out; have := N5.out; have := N6.out; omega)
                have xE := xD.touch TE (fun h2 => by have := (A6.out _ h2).1; have := N4.out; have := N5.out; have := N6.out; omega)
                have zE := zD.touch TE (fun h2 => by have := (A6.out _ h2).2; omega)
                have OE : Hid (OwnRep _ _ (⟨d4, n4, v4, o4, l4, r4, ⟨⟨pv4, pn4, ps4, pt4⟩, .slice as4 sn4 cs4, .slice at4 tn4 ct4⟩, .slice ab4 bn4 cb4, bs4, .slice av4 vn4 cv4, vs4, .slice an4 nn4 cn4, ns4, .slice ad4 dn4 cd4, dd4⟩ : RepX)) := OwnRep.touch OD.out TE S46.out
                have ME : Hid (RdRep wE (mkRep 1 (⟨d6, n6, v6, o6, l6, r6, ⟨⟨pv6, pn6, ps6, pt6⟩, .slice as6 sn6 cs6, .slice at6 tn6 ct6⟩, .slice ab6 bn6 cb6, bs6, .slice av6 vn6 cv6, vs6, .slice an6 nn6 cn6, ns6, .slice ad6 dn6 cd6, dd6⟩ : RepX))) := mE.rd
                have bE := TE.below bD (fun q h2 => by have := (A6.out _ h2).1; have := N3.out; have := N4.out; have := N5.out; have := N6.out; omega)
                have HH : Hid (∀ W, RdRep W (mkRep 1 (⟨d6, n6, v6, o6, l6, r6, ⟨⟨pv6, pn6, ps6, pt6⟩, .slice as6 sn6 cs6, .slice at6 tn6 ct6⟩, .slice ab6 bn6 cb6, bs6, .slice av6 vn6 cv6, vs6, .slice an6 nn6 cn6, ns6, .slice ad6 dn6 cd6, dd6⟩ : RepX)) → Calls Tryz.prog 56 #[.agg #[.int .i64 d6, .int .i64 n6, .int .i64 v6, .int .i64 o6, .int .i64 l6, .int .i64 r6, .int .i64 pv6, .int .i64 pn6, .slice as6 sn6 cs6, .slice at6 tn6 ct6, .slice ab6 bn6 cb6, .slice av6 vn6 cv6, .slice an6 nn6 cn6, .slice ad6 dn6 cd6], .int .i64 1] W fun e w' => e = .returned (.int .i64 ((1 + cntRep (⟨d6, n6, v6, o6, l6, r6, ⟨⟨pv6, pn6, ps6, pt6⟩, .slice as6 sn6 cs6, .slice at6 tn6 ct6⟩, .slice ab6 bn6 cb6, bs6, .slice av6 vn6 cv6, vs6, .slice an6 nn6 cn6, ns6, .slice ad6 dn6 cd6, dd6⟩ : RepX) : Nat) : Int)) ∧ Below W.heap.size W w') := fun W h => HHL.out (⟨d6, n6, v6, o6, l6, r6, ⟨⟨pv6, pn6, ps6, pt6⟩, .slice as6 sn6 cs6, .slice at6 tn6 ct6⟩, .slice ab6 bn6 cb6, bs6, .slice av6 vn6 cv6, vs6, .slice an6 nn6 cn6, ns6, .slice ad6 dn6 cd6, dd6⟩ : RepX) W (.inr HY6.out) h
                generalize 1 + cntRep (⟨d6, n6, v6, o6, l6, r6, ⟨⟨pv6, pn6, ps6, pt6⟩, .slice as6 sn6 cs6, .slice at6 tn6 ct6⟩, .slice ab6 bn6 cb6, bs6, .slice av6 vn6 cv6, vs6, .slice an6 nn6 cn6, ns6, .slice ad6 dn6 cd6, dd6⟩ : RepX) = c6 at HH ⊢
                have hc6 : ¬ ((c6 : Int) < 0) := by omega
                have he6 : ((c6 : Int) != (c6 : Int)) = false := by simp
                clear tD xD zD OD QD bD TE mE q0 q1 q2 q3 q4 q5 q6 q7 q8 q9 q10 q11 q12 q13 hc5 S4 S6 S46
                as_aux_lemma =>
                  obtain ⟨q0, q1, q2, q3, q4, q5, q6, q7, q8, q9, q10, q11, q12, q13⟩ := zE.c14
                  go_wp2_with fail
                  refine (HH.out _ ME.out).mono ?_
                  rintro e wF ⟨rfl, hbF⟩
                  have tF := tE.below hbF
                  have xF := xE.below hbF
                  have zF := zE.below hbF
                  have bF := bE.trans (hbF.mono bE.size)
                  have OF : Hid (OwnRep _ _ (⟨d4, n4, v4, o4, l4, r4, ⟨⟨pv4, pn4, ps4, pt4⟩, .slice as4 sn4 cs4, .slice at4 tn4 ct4⟩, .slice ab4 bn4 cb4, bs4, .slice av4 vn4 cv4, vs4, .slice an4 nn4 cn4, ns4, .slice ad4 dn4 cd4, dd4⟩ : RepX)) := OwnRep.below OE.out hbF
                  have MF : Hid (RdRep wF (mkRep 1 (⟨d6, n6, v6, o6, l6, r6, ⟨⟨pv6, pn6, ps6, pt6⟩, .slice as6 sn6 cs6, .slice at6 tn6 ct6⟩, .slice ab6 bn6 cb6, bs6, .slice av6 vn6 cv6, vs6, .slice an6 nn6 cn6, ns6, .slice ad6 dn6 cd6, dd6⟩ : RepX))) := RdRep.below ME.out hbF
                  clear tE xE zE bE OE ME hbF q0 q1 q2 q3 q4 q5 q6 q7 q8 q9 q10 q11 q12 q13
                  as_aux_lemma =>
                    obtain ⟨q0, q1, q2, q3, q4, q5, q6, q7, q8, q9, q10, q11, q12, q13⟩ := tF.c14
                    go_wp2_with fail
                    refine (HTO.out _ (HX.out.below bF)).mono ?_
                    rintro e wG ⟨Y9, rfl, hY9, oY9, hbG⟩
                    have xG := xF.below hbG
                    have zG := zF.below hbG
                    have bG := bF.trans (hbG.mono bF.size)
                    have OG : Hid (OwnRep _ _ (⟨d4, n4, v4, o4, l4, r4, ⟨⟨pv4, pn4, ps4, pt4⟩, .slice as4 sn4 cs4, .slice at4 tn4 ct4⟩, .slice ab4 bn4 cb4, bs4, .slice av4 vn4 cv4, vs4, .slice an4 nn4 cn4, ns4, .slice ad4 dn4 cd4, dd4⟩ : RepX)) := OwnRep.below OF.out hbG
                    have MG : Hid (RdRep wG (mkRep 1 (⟨d6, n6, v6, o6, l6, r6, ⟨⟨pv6, pn6, ps6, pt6⟩, .slice as6 sn6 cs6, .slice at6 tn6 ct6⟩, .slice ab6 bn6 cb6, bs6, .slice av6 vn6 cv6, vs6, .slice an6 nn6 cn6, ns6, .slice ad6 dn6 cd6, dd6⟩ : RepX))) := RdRep.below MF.out hbG
                    clear tF xF zF bF OF MF hbG q0 q1 q2 q3 q4 q5 q6 q7 q8 q9 q10 q11 q12 q13
                    obtain ⟨d9, n9, v9, o9, l9, r9, ⟨⟨pv9, pn9, ps9, pt9⟩, hs9, ht9⟩, vb9, bs9, vv9, vs9, vx9, ns9, vd9, dd9⟩ := Y9
                    obtain ⟨as9, cs9, at9, ct9, e1, e2⟩ := oY9.hi.slices
                    obtain ⟨ab9, cb9, e3⟩ := ownSlX oY9.bl
                    obtain ⟨av9, cv9, e4⟩ := ownSlX oY9.vo
                    obtain ⟨an9, cn9, e5⟩ := ownSlX oY9.nw
                    obtain ⟨ad9, cd9, e6⟩ := ownSlX oY9.dn
                    simp only at e1 e2 e3 e4 e5 e6 hY9 oY9 ⊢
                    generalize ps9.length = sn9 at e1
                    generalize pt9.length = tn9 at e2
                    generalize bs9.length = bn9 at e3
                    generalize vs9.length = vn9 at e4
                    generalize ns9.length = nn9 at e5
                    generalize dd9.length = dn9 at e6
                    subst e1 e2 e3 e4 e5 e6
                    have HY9 : Hid (RepX.rep (⟨d9, n9, v9, o9, l9, r9, ⟨⟨pv9, pn9, ps9, pt9⟩, .slice as9 sn9 cs9, .slice at9 tn9 ct9⟩, .slice ab9 bn9 cb9, bs9, .slice av9 vn9 cv9, vs9, .slice an9 nn9 cn9, ns9, .slice ad9 dn9 cd9, dd9⟩ : RepX) = _) := hY9
                    clear hY9
                    have O9 : Hid (OwnRep wG _ (⟨d9, n9, v9, o9, l9, r9, ⟨⟨pv9, pn9, ps9, pt9⟩, .slice as9 sn9 cs9, .slice at9 tn9 ct9⟩, .slice ab9 bn9 cb9, bs9, .slice av9 vn9 cv9, vs9, .slice an9 nn9 cn9, ns9, .slice ad9 dn9 cd9, dd9⟩ : RepX)) := oY9
                    clear oY9
                    go_wp2_with fail
                    as_aux_lemma =>
                      refine (HIM.out (⟨d9, n9, v9, o9, l9, r9, ⟨⟨pv9, pn9, ps9, pt9⟩, .slice as9 sn9 cs9, .slice at9 tn9 ct9⟩, .slice ab9 bn9 cb9, bs9, .slice av9 vn9 cv9, vs9, .slice an9 nn9 cn9, ns9, .slice ad9 dn9 cd9, dd9⟩ : RepX) _ _ HY9.out O9.out (HTB.out.on bG)).mono ?_
                      rintro e wH ⟨Y7, rfl, hY7, oY7, hbH⟩
                      have xH := xG.below hbH
                      have zH := zG.below hbH
                      have bH := bG.trans (hbH.mono bG.size)
                      have OH : Hid (OwnRep _ _ (⟨d4, n4, v4, o4, l4, r4, ⟨⟨pv4, pn4, ps4, pt4⟩, .slice as4 sn4 cs4, .slice at4 tn4 ct4⟩, .slice ab4 bn4 cb4, bs4, .slice av4 vn4 cv4, vs4, .slice an4 nn4 cn4, ns4, .slice ad4 dn4 cd4, dd4⟩ : RepX)) := OwnRep.below OG.out hbH
                      have MH : Hid (RdRep wH (mkRep 1 (⟨d6, n6, v6, o6, l6, r6, ⟨⟨pv6, pn6, ps6, pt6⟩, .slice as6 sn6 cs6, .slice at6 tn6 ct6⟩, .slice ab6 bn6 cb6, bs6, .slice av6 vn6 cv6, vs6, .slice an6 nn6 cn6, ns6, .slice ad6 dn6 cd6, dd6⟩ : RepX))) := RdRep.below MG.out hbH
                      clear xG zG bG OG MG hbH O9 HY9 HIM HTO
                      obtain ⟨d7, n7, v7, o7, l7, r7, ⟨⟨pv7, pn7, ps7, pt7⟩, hs7, ht7⟩, vb7, bs7, vv7, vs7, vx7, ns7, vd7, dd7⟩ := Y7
                      obtain ⟨as7, cs7, at7, ct7, e1, e2⟩ := oY7.hi.slices
                      obtain ⟨ab7, cb7, e3⟩ := ownSlX oY7.bl
                      obtain ⟨av7, cv7, e4⟩ := ownSlX oY7.vo
                      obtain ⟨an7, cn7, e5⟩ := ownSlX oY7.nw
                      obtain ⟨ad7, cd7, e6⟩ := ownSlX oY7.dn
                      simp only at e1 e2 e3 e4 e5 e6 hY7 oY7 ⊢
                      generalize ps7.length = sn7 at e1
                      generalize pt7.length = tn7 at e2
                      generalize bs7.length = bn7 at e3
                      generalize vs7.length = vn7 at e4
                      generalize ns7.length = nn7 at e5
                      generalize dd7.length = dn7 at e6
                      subst e1 e2 e3 e4 e5 e6
                      have HY7 : Hid (RepX.rep (⟨d7, n7, v7, o7, l7, r7, ⟨⟨pv7, pn7, ps7, pt7⟩, .slice as7 sn7 cs7, .slice at7 tn7 ct7⟩, .slice ab7 bn7 cb7, bs7, .slice av7 vn7 cv7, vs7, .slice an7 nn7 cn7, ns7, .slice ad7 dn7 cd7, dd7⟩ : RepX) = _) := hY7
                      clear hY7
                      have vI := bx_new wH 31 #[.int .i64 d7, .int .i64 n7, .int .i64 v7, .int .i64 o7, .int .i64 l7, .int .i64 r7, .int .i64 pv7, .int .i64 pn7, .slice as7 sn7 cs7, .slice at7 tn7 ct7, .slice ab7 bn7 cb7, .slice av7 vn7 cv7, .slice an7 nn7 cn7, .slice ad7 dn7 cd7]
                      have bA := below1 wH (.cells #[.int .i64 d7, .int .i64 n7, .int .i64 v7, .int .i64 o7, .int .i64 l7, .int .i64 r7, .int .i64 pv7, .int .i64 pn7, .slice as7 sn7 cs7, .slice at7 tn7 ct7, .slice ab7 bn7 cb7, .slice av7 vn7 cv7, .slice an7 nn7 cn7, .slice ad7 dn7 cd7] 31)
                      have xI := xH.below bA
                      have zI := zH.below bA
                      have bI := bH.trans (bA.mono bH.size)
                      have OI : Hid (OwnRep _ _ (⟨d4, n4, v4, o4, l4, r4, ⟨⟨pv4, pn4, ps4, pt4⟩, .slice as4 sn4 cs4, .slice at4 tn4 ct4⟩, .slice ab4 bn4 cb4, bs4, .slice av4 vn4 cv4, vs4, .slice an4 nn4 cn4, ns4, .slice ad4 dn4 cd4, dd4⟩ : RepX)) := OwnRep.below OH.out bA
                      have SI : Hid (OwnRep _ _ (⟨d7, n7, v7, o7, l7, r7, ⟨⟨pv7, pn7, ps7, pt7⟩, .slice as7 sn7 cs7, .slice at7 tn7 ct7⟩, .slice ab7 bn7 cb7, bs7, .slice av7 vn7 cv7, vs7, .slice an7 nn7 cn7, ns7, .slice ad7 dn7 cd7, dd7⟩ : RepX)) := OwnRep.below oY7 bA
                      have MI : Hid (RdRep _ (mkRep 1 (⟨d6, n6, v6, o6, l6, r6, ⟨⟨pv6, pn6, ps6, pt6⟩, .slice as6 sn6 cs6, .slice at6 tn6 ct6⟩, .slice ab6 bn6 cb6, bs6, .slice av6 vn6 cv6, vs6, .slice an6 nn6 cn6, ns6, .slice ad6 dn6 cd6, dd6⟩ : RepX))) := RdRep.below MH.out bA
                      clear xH zH bH OH MH oY7 bA
                      obtain ⟨q0, q1, q2, q3, q4, q5, q6, q7, q8, q9, q10, q11, q12, q13⟩ := vI.c14
                      obtain ⟨u_0, u_1, u_2, u_3, u_4, u_5, u_6, u_7, u_8, u_9, u_10, u_11, u_12, u_13⟩ := xI.c14
                      go_wp2_with fail
                      generalize wH.alloc (.cells #[.int .i64 d7, .int .i64 n7, .int .i64 v7, .int .i64 o7, .int .i64 l7, .int .i64 r7, .int .i64 pv7, .int .i64 pn7, .slice as7 sn7 cs7, .slice at7 tn7 ct7, .slice ab7 bn7 cb7, .slice av7 vn7 cv7, .slice an7 nn7 cn7, .slice ad7 dn7 cd7] 31) = WI at vI xI zI bI OI SI MI q0 q1 q2 q3 q4 q5 q6 q7 q8 q9 q10 q11 q12 q13 u_0 u_1 u_2 u_3 u_4 u_5 u_6 u_7 u_8 u_9 u_10 u_11 u_12 u_13 ⊢
                      as_aux_lemma =>
                        refine (eqReplica_same (⟨d7, n7, v7, o7, l7, r7, ⟨⟨pv7, pn7, ps7, pt7⟩, .slice as7 sn7 cs7, .slice at7 tn7 ct7⟩, .slice ab7 bn7 cb7, bs7, .slice av7 vn7 cv7, vs7, .slice an7 nn7 cn7, ns7, .slice ad7 dn7 cd7, dd7⟩ : RepX) (⟨d4, n4, v4, o4, l4, r4, ⟨⟨pv4, pn4, ps4, pt4⟩, .slice as4 sn4 cs4, .slice at4 tn4 ct4⟩, .slice ab4 bn4 cb4, bs4, .slice av4 vn4 cv4, vs4, .slice an4 nn4 cn4, ns4, .slice ad4 dn4 cd4, dd4⟩ : RepX) WI SI.out.rd OI.out.rd (HY7.out.trans HY4.out.symm)).mono ?_
                        rintro e wJ ⟨rfl, hbJ⟩
                        have zJ := zI.below hbJ
                        have bJ := bI.trans (hbJ.mono bI.size)
                        have MJ : Hid (RdRep wJ (mkRep 1 (⟨d6, n6, v6, o6, l6, r6, ⟨⟨pv6, pn6, ps6, pt6⟩, .slice as6 sn6 cs6, .slice at6 tn6 ct6⟩, .slice ab6 bn6 cb6, bs6, .slice av6 vn6 cv6, vs6, .slice an6 nn6 cn6, ns6, .slice ad6 dn6 cd6, dd6⟩ : RepX))) := RdRep.below MI.out hbJ
                        clear vI xI zI bI OI SI MI hbJ q0 q1 q2 q3 q4 q5 q6 q7 q8 q9 q10 q11 q12 q13 u_0 u_1 u_2 u_3 u_4 u_5 u_6 u_7 u_8 u_9 u_10 u_11 u_12 u_13
                        obtain ⟨q0, q1, q2, q3, q4, q5, q6, q7, q8, q9, q10, q11, q12, q13⟩ := zJ.c14
                        go_wp2_with fail
                        refine (HH.out _ MJ.out).mono ?_
                        rintro e wK ⟨rfl, hbK⟩
                        have bK := bJ.trans (hbK.mono bJ.size)
                        clear zJ bJ MJ hbK q0 q1 q2 q3 q4 q5 q6 q7 q8 q9 q10 q11 q12 q13 HH
                        go_wp2
                        go_ret
                        exact ⟨rfl, bK⟩
theorem own_fnExactRestart : ownKnob Tryz.prog.godebug = none := by kernel_rfl
theorem laidOut_fnExactRestart : laidOutB Tryz.prog = true := by kernel_rfl
theorem door_fnExactRestart (os : Os) (args : Array Value) : laidMetH Tryz.prog Rows.fnExactRestartRow.laid ((World.doorLaid Tryz.prog 400 os).forCall (fun _ _ => 0) ⟨#[], args, []⟩).memory :=
  laidMetH_of_parts3 (fuel := 8) (laidMet_of_run' 8 (by kernel_rfl) (by kernel_rfl)) (by kernel_rfl) (by kernel_rfl)
set_option maxRecDepth 100000 in
theorem lifted_fnExactRestart (os : Os) (started : os.Started) (H : Type) (enc : TypeId × Value → H) :
    ReturnsInHanded {} Tryz.checked os 7 .any (fun w args => (Rows.fnExactRestartSpec.pre enc Tryz.prog Tryz.f7 [] false w args ∧ laidMetH Tryz.prog Rows.fnExactRestartRow.laid w) ∧ sizedMet enc Tryz.prog Tryz.f7 (OpenSpec.ofChange Rows.fnExactRestartSpec) false w args)
      (Rows.fnExactRestartSpec.post enc Tryz.prog Tryz.f7 false true false false) := by
  refine returnsInHanded_of_change_and (C := Tryz.checked) (X := fun w _ => laidMetH Tryz.prog Rows.fnExactRestartRow.laid w) (fun _ _ _ hh h => h.of_heap hh) own_fnExactRestart started (by kernel_rfl) Tryz.func7
    (ChangeSpec.witness_shaped (enc := enc) (C := Tryz.checked) (os := os) (X := fun w _ => laidMetH Tryz.prog Rows.fnExactRestartRow.laid w) false (World.doorLaid Tryz.prog 400 os) #[.agg #[.int .i64 0, .int .i64 0, .int .i64 0, .int .i64 0, .int .i64 0, .int .i64 0, .int .i64 0, .int .i64 0, .slice none 0 0, .slice none 0 0, .slice none 0 0, .slice none 0 0, .slice none 0 0, .slice none 0 0]] 8 rfl (World.shaped_of_RefB (by kernel_rfl) (by kernel_rfl)) (by kernel_rfl) (by kernel_rfl) (by kernel_rfl) (door_fnExactRestart os _)) ?_
  intro W base args ds gs before hval0 hW _ _ hL _
  have hval : ∀ (j : Nat) t v, Tryz.f7.params[j]? = some t → args[j]? = some v → Value.okWide Tryz.prog W .any base t v := hval0
  have hW' := hW
  obtain ⟨p, q, hA0, hV, rfl, hfz, hnd⟩ := hW
  have hA : DataW.TrodAll enc Tryz.prog W 0 (fun _ => true) true Tryz.f7.params.toList args.toList ds p := hA0
  rw [Tryz.params7] at hA hval
  obtain ⟨v0, vs0, d0, ds0, p0, q0, hargs, rfl, rfl, h0, r0⟩ := trodAll_cons hA
  obtain ⟨rfl, rfl, rfl⟩ := trodAll_nil r0
  obtain rfl : args = #[v0] := by cases args; simp_all
  obtain ⟨rfl, rfl⟩ := trodVars_none hV
  obtain ⟨c0, rfl, _⟩ := okWide_struct Tryz.underlying87 (hval 0 87 v0 rfl rfl)
  have k0 := h0
  have lt0 : ∀ x ∈ p0, x.block < W.heap.size := by obtain ⟨m, hm⟩ := k0; exact DataW.trod_lt m _ _ _ hm
  obtain ⟨X0, hc0, hr0, hh0⟩ : ∃ X : RepX, (Value.agg c0).cells.toList = X.cs ∧ RdRep W X ∧ FitRep X.rep := by obtain ⟨m, hm⟩ := h0; exact open_replica hm
  obtain rfl : c0 = #[.int .i64 X0.idn, .int .i64 X0.n, .int .i64 X0.vw, .int .i64 X0.vo, .int .i64 X0.lo, .int .i64 X0.pr, .int .i64 X0.hi.p.vw, .int .i64 X0.hi.p.nm, X0.hi.vs, X0.hi.vt, X0.vb, X0.vv, X0.vn, X0.vd] := by have h := congrArg List.toArray hc0; simp only [Value.cells, Array.toArray_toList] at h; exact h
  have htab := tab_of_laid hL
  clear hA0 hval0
  refine (lawRestart X0 W hr0 hh0 htab).mono fun e W' ⟨he, bel⟩ => ?_
  subst he
  exact ⟨_, rfl, _, _, _, [], _, [], hW', trodAll_mk1 (shut_bool Tryz.underlying4 _), (trodAll_cons_mk (Below.trod laidOut_fnExactRestart (by kernel_rfl) (of_decide_eq_true (by kernel_rfl)) k0 bel lt0) trodAll_mk0), rfl, bel.frame _, fun h => by cases h⟩
theorem over_fnExactRestart : Rows.fnExactRestartRow.holds Tryz.pinned (OpenSpec.ofChange Rows.fnExactRestartSpec) :=
  OpenClaim.holds_of_wide 7 Tryz.f7 rfl rfl rfl rfl rfl rfl rfl ⟨rfl, rfl, rfl, rfl, rfl⟩ rfl rfl rfl rfl rfl (by kernel_rfl) Tryz.func7 (by kernel_rfl)
    (of_decide_eq_true (by kernel_rfl)) (by unfold Func.isWrapper; first | (rw [if_pos (by decide +kernel)]; kernel_rfl) | (rw [if_neg (by decide +kernel)]; exact ⟨rfl, rfl⟩))
    (fun os started H enc _ => lifted_fnExactRestart os started H enc)
theorem fnExactRestart_holds : Rows.FnExactRestartCardSaid :=
  Claim7.holds_tied_plain_at .later [] [.data, .data, .data] true Rows.fnExactRestartCard.stood.harness Rows.fnExactRestartCard.stood.looks
    over_fnExactRestart (fun _ h => by cases h) (by kernel_rfl) (fun _ h => by cases h) fnExactRestart_row_tie rfl ⟨rfl, rfl⟩ (by kernel_rfl) rfl
    (fun f fn hf hfn => by
      obtain rfl : f = 7 := Option.some.inj ((show Tryz.prog.funcNamed "loop.example/g00217/laws.FnExactRestart" = some 7 by kernel_rfl).symm.trans hf) |>.symm
      obtain rfl : fn = Tryz.f7 := (Option.some.inj (Tryz.func7.symm.trans hfn)).symm
      exact ⟨by kernel_rfl, fun j t ht => by
        rw [Tryz.params7] at ht
        have hm : t ∈ [87] := by simpa using Array.mem_of_getElem? ht
        have hall : ([87].all fun u => !Tryz.prog.wantsStandIn u) = true := by kernel_rfl
        exact (show Tryz.prog.wantsStandIn t = false by simpa using List.all_eq_true.1 hall t hm)⟩)
    (by kernel_rfl)
#print axioms fnExactRestart_holds

end Go.Proofs.YtilhaokiohbeeaaGreatDoor
