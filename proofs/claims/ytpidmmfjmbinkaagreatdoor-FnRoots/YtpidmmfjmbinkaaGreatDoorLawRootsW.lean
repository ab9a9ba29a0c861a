/- The walk of laws.FnRoots. -/
import Derived.Test.YtpidmmfjmbinkaaGreatDoorRows
import Derived.Test.YtpidmmfjmbinkaaGreatDoorSltDraw3
import Derived.Test.YtpidmmfjmbinkaaGreatDoorG35
import Derived.Test.YtpidmmfjmbinkaaGreatDoorG36
import Derived.Test.YtpidmmfjmbinkaaGreatDoorSltMath2
import Derived.Deep.DeepCutAuto
import Derived.BigQuiet
import Derived.ProofKit
import Derived.OpenShut
import Derived.ShutString
import Derived.ChangeOld
import Derived.LaidMore
import Derived.SevenTiedAt
import Derived.Stop.Joined
-- UNF Gen
namespace Go.Proofs.YtpidmmfjmbinkaaGreatDoor
open Go.ChangeShapes Go.WideShapes Go.ChangeAt Go.RowKit
set_option maxHeartbeats 1000000 in
set_option maxRecDepth 100000 in
theorem bigD_any (v : Value) (bs : List UInt8) (w : World) (hr : Rd w v bs) :
    Calls Tryz.prog 4 #[v] w fun e w' => e = .returned (.bool (decide (4096 < (bs.length : Int)))) ∧ w' = w := by
  obtain ⟨a, cap, rfl, hl, hm, _⟩ := hr
  unfold maxLen at hm
  go_enter Tryz.func4, Tryz.ntmps4
  go_wp2
  go_ret
  exact ⟨rfl, rfl⟩
theorem OwnDv.opn {w : World} {B : Nat} {Y : DvX} (h : OwnDv w B Y) : ∃ (sa la : Option Addr) (cs cl : Nat), Y = dvOf sa la cs cl Y.secs Y.late ∧ RdDv w (dvOf sa la cs cl Y.secs Y.late) := by
  have hr := h.rd
  obtain ⟨sa, la, cs, cl, e⟩ := hr.op
  rw [e] at hr
  exact ⟨sa, la, cs, cl, e, hr⟩
theorem SwD.op {w w' : World} {e : Ending} (h : SwD w e w') : ∃ (sa la : Option Addr) (cs cl : Nat) (ss : List ByteArray) (ps : List Pat) (t : ByteArray), e = .returned (.tuple #[.agg #[.slice sa ss.length cs, .slice la ps.length cl], .string t]) ∧ t.size ≤ 400 ∧ RdDv w' (dvOf sa la cs cl ss ps) ∧ Below w.heap.size w w' := by
  obtain ⟨Y, t, rfl, ht, ho, hb⟩ := h
  obtain ⟨sa, la, cs, cl, e, hr⟩ := ho.opn
  exact ⟨sa, la, cs, cl, Y.secs, Y.late, t, by rw [e], ht, hr, hb⟩
theorem HwD.op {w w' : World} {e : Ending} (h : HwD w e w') : ∃ (sa la : Option Addr) (cs cl : Nat) (ss : List ByteArray) (ps : List Pat) (t : ByteArray) (k : Bool), e = .returned (.tuple #[.agg #[.slice sa ss.length cs, .slice la ps.length cl], .string t, .bool k]) ∧ t.size ≤ 400 ∧ RdDv w' (dvOf sa la cs cl ss ps) ∧ Below w.heap.size w w' := by
  obtain ⟨Y, t, k, rfl, ht, ho, hb⟩ := h
  obtain ⟨sa, la, cs, cl, e, hr⟩ := ho.opn
  exact ⟨sa, la, cs, cl, Y.secs, Y.late, t, k, by rw [e], ht, hr, hb⟩
theorem rootD_op {w w' : World} {e : Ending} (h : ∃ Y : DvX, e = .returned (.agg #[Y.vs, Y.vl]) ∧ OwnDv w' w.heap.size Y ∧ Below w.heap.size w w') : ∃ (sa la : Option Addr) (cs cl : Nat) (ss : List ByteArray) (ps : List Pat), e = .returned (.agg #[.slice sa ss.length cs, .slice la ps.length cl]) ∧ RdDv w' (dvOf sa la cs cl ss ps) ∧ Below w.heap.size w w' := by
  obtain ⟨Y, rfl, ho, hb⟩ := h
  obtain ⟨sa, la, cs, cl, e, hr⟩ := ho.opn
  exact ⟨sa, la, cs, cl, Y.secs, Y.late, by rw [e], hr, hb⟩
theorem implRead_one (s : ByteArray) (r : Option (Int × ByteArray)) (a : Addr) (w : World) (hs : s.size ≤ 1048576) (h : RS s r) (he : SEnv w a) :
    Calls Tryz.prog 14 #[.string s] w fun e w' => e = .returned (.tuple #[.int .i64 (rG r), .string (rT r), .bool (rB r)]) ∧ Below w.heap.size w w' := by
  cases r with
  | none => exact implRead_no s a w hs h he
  | some p =>
    obtain ⟨g, t⟩ := p
    obtain ⟨h1, rfl⟩ := h
    exact implRead_yes g t a w h1 he
/-- Where the walk stands: devices in boxes, the listed variables, what was there. -/
structure Q9 (w W : World) (a b : Addr) (l : List (Nat × DvX)) : Prop where
  q : Bx W l
  en : SEnv3 W a b
  bw : Below w.heap.size w W
theorem Q9.on {w W W' : World} {a b : Addr} {l : List (Nat × DvX)} (h : Q9 w W a b l) (hb : Below W.heap.size W W') : Q9 w W' a b l := ⟨h.q.below hb, h.en.on hb, h.bw.trans (hb.mono h.bw.size)⟩
theorem Q9.new {w W : World} {a b : Addr} {l : List (Nat × DvX)} {X : DvX} (h : Q9 w W a b l) (hx : RdDv W X) (t : TypeId) : Q9 w (W.alloc (.cells #[X.vs, X.vl] t)) a b ((W.heap.size, X) :: l) := ⟨h.q.new hx t, h.en.on (below1 _ _), h.bw.trans ((below1 _ _).mono h.bw.size)⟩
theorem half_facts {es : List ByteArray} {ep : List Pat} {s0 s1 t0 t1 : Option (Int × ByteArray)} {tt : ByteArray} {kb : Bool} (h0 : RS (liesL es ep 0) s0) (h1 : RS (liesL es ep 1) s1) (g0 : RS (liesL (hwS es ep (rootD es ep s0 s1) tt kb) [] 0) t0) (g1 : RS (liesL (hwS es ep (rootD es ep s0 s1) tt kb) [] 1) t1) :
    (hwS es ep (rootD es ep s0 s1) tt kb).length = 0 ∨ (1 ≤ (rootD es ep s0 s1).2.1 + 1 ∧ (rootD es ep s0 s1).2.1 + 1 ≤ 1000000) ∧ (kb = true ∧ (rootD (hwS es ep (rootD es ep s0 s1) tt kb) [] t0 t1).2 = ((rootD es ep s0 s1).2.1 + 1, tt) ∨ kb = false ∧ rootD (hwS es ep (rootD es ep s0 s1) tt kb) [] t0 t1 = rootD es ep s0 s1) := by
  by_cases hn : nextB es ep (rootD es ep s0 s1) tt = true
  · obtain ⟨k1, k2, k3, k4⟩ := next_facts hn
    have e1 : hwS es ep (rootD es ep s0 s1) tt kb = if kb then cutL (barS es ep) [⟨nextTo (rootD es ep s0 s1), slotS ((rootD es ep s0 s1).2.1 + 1) tt⟩] (fun _ => true) else barS es ep := by
      rw [← cut_kept kb k4]
      unfold hwS
      rw [if_pos hn]
    refine .inr ⟨⟨k3.1, k3.2.1⟩, ?_⟩
    rw [e1] at g0 g1 ⊢
    cases kb with
    | true => exact .inl ⟨rfl, (root_next h0 h1 hn g0 g1).2⟩
    | false => exact .inr ⟨rfl, root_bar h0 h1 k1 k2 g0 g1⟩
  · refine .inl ?_
    unfold hwS
    rw [if_neg hn]
    rfl
theorem switch_facts {ss : List ByteArray} {ps : List Pat} {r0 r1 q0 q1 : Option (Int × ByteArray)} {t : ByteArray} (h0 : RS (liesL ss ps 0) r0) (h1 : RS (liesL ss ps 1) r1) (hn : nextB ss ps (rootD ss ps r0 r1) t = true)
    (g0 : RS (liesL (swS ss ps (rootD ss ps r0 r1) t) (swL ss ps (rootD ss ps r0 r1) t) 0) q0) (g1 : RS (liesL (swS ss ps (rootD ss ps r0 r1) t) (swL ss ps (rootD ss ps r0 r1) t) 1) q1) :
    (1 ≤ (rootD ss ps r0 r1).2.1 + 1 ∧ (rootD ss ps r0 r1).2.1 + 1 ≤ 1000000) ∧ devOk (swS ss ps (rootD ss ps r0 r1) t) (swL ss ps (rootD ss ps r0 r1) t) = true ∧ (rootD (swS ss ps (rootD ss ps r0 r1) t) (swL ss ps (rootD ss ps r0 r1) t) q0 q1).2 = ((rootD ss ps r0 r1).2.1 + 1, t) := by
  obtain ⟨k1, k2, k3, k4⟩ := next_facts hn
  have e1 : swS ss ps (rootD ss ps r0 r1) t = cutL (barS ss ps) [⟨nextTo (rootD ss ps r0 r1), slotS ((rootD ss ps r0 r1).2.1 + 1) t⟩] (fun _ => true) := by unfold swS; rw [if_pos hn]
  have e2 : swL ss ps (rootD ss ps r0 r1) t = [] := by unfold swL; rw [if_pos hn]
  rw [e1, e2] at g0 g1 ⊢
  exact ⟨⟨k3.1, k3.2.1⟩, root_next h0 h1 hn g0 g1⟩
theorem nil_toList : (⟨#[]⟩ : ByteArray).toList.isEmpty = true := by
  unfold ByteArray.toList
  unfold ByteArray.toList.loop
  rfl
theorem slot_facts {n : Int} {u : ByteArray} (h : (slotS n u).toList.isEmpty = false) : (1 ≤ n ∧ n ≤ 1000000 ∧ u.size ≤ 300) ∧ slotS n u = slotT n u := by
  by_cases hh : 1 ≤ n ∧ n ≤ 1000000 ∧ u.size ≤ 300
  · exact ⟨hh, slotS_yes hh⟩
  · rw [slotS_no hh, nil_toList] at h
    cases h
set_option maxHeartbeats 16000000 in
set_option maxRecDepth 100000 in
theorem lawRootsF (v : Value) (bs : List UInt8) (a b : Addr) (w : World) (hr : Rd w v bs) (he : SEnv3 w a b) :
    Calls Tryz.prog 3 #[v] w fun e w' => e = .returned (.bool true) ∧ Below w.heap.size w w' := by
  by_cases hbig : 4096 < bs.length
  · have hb2 : decide (4096 < (bs.length : Int)) = true := by simp; omega
    go_enter Tryz.func3, Tryz.ntmps3
    go_wp2_with fail
    refine (bigD_any v bs w hr).mono ?_
    rw [hb2]
    rintro e wb ⟨rfl, hwb⟩
    obtain rfl := hwb.symm
    go_wp2
    go_ret
    exact ⟨rfl, Below.refl _ _⟩
  have hb2 : decide (4096 < (bs.length : Int)) = false := by simp; omega
  have HL : Hid (bs.length ≤ 4096) := by unfold Hid; omega
  have Q : Q9 w w a b [] := ⟨bx_nil w, he, Below.refl _ _⟩
  go_enter Tryz.func3, Tryz.ntmps3
  go_wp2_with fail
  refine (bigD_any v bs w hr).mono ?_
  rw [hb2]
  rintro e wb ⟨rfl, hwb⟩
  obtain rfl := hwb.symm
  clear hb2 hbig
  go_wp2_with fail
  refine (drawSwitch_any v bs _ hr HL.out).mono ?_
  rintro e w1 h1
  obtain ⟨da, dl, dc, dk, ds, dp, tx, rfl, htx, hd, b1⟩ := h1.op
  replace Q := Q.on b1
  have HTX : Hid (tx.size ≤ 400) := htx
  clear h1 b1 he htx
  replace Q : Q9 w (w1.alloc (.cells #[.slice da ds.length dc, .slice dl dp.length dk] 27)) a b [(w1.heap.size, dvOf da dl dc dk ds dp)] := Q.new hd 27
  clear hd
  obtain ⟨c0, c0'⟩ := Q.q.at w1.heap.size da dl dc dk ds dp (.head _)
  go_wp2_with fail
  clear c0 c0'
  revert Q
  generalize w1.alloc (.cells #[.slice da ds.length dc, .slice dl dp.length dk] 27) = W1
  intro Q
  obtain ⟨r0, hr0⟩ := rs_ex (liesL ds dp 0)
  have HR0 : Hid (RS (liesL ds dp 0) r0) := hr0
  clear hr0
  obtain ⟨r1, hr1⟩ := rs_ex (liesL ds dp 1)
  have HR1 : Hid (RS (liesL ds dp 1) r1) := hr1
  clear hr1
  obtain ⟨R, hR⟩ : ∃ x, x = rootD ds dp r0 r1 := ⟨_, rfl⟩
  have HR : Hid (R = rootD ds dp r0 r1) := hR
  clear hR
  obtain ⟨xs, hxs⟩ : ∃ x, x = swS ds dp R tx := ⟨_, rfl⟩
  have HXS : Hid (xs = swS ds dp R tx) := hxs
  clear hxs
  obtain ⟨xp, hxp⟩ : ∃ x, x = swL ds dp R tx := ⟨_, rfl⟩
  have HXP : Hid (xp = swL ds dp R tx) := hxp
  clear hxp
  obtain ⟨xo, hxo⟩ : ∃ x, x = nextB ds dp R tx := ⟨_, rfl⟩
  have HXO : Hid (xo = nextB ds dp R tx) := hxo
  clear hxo
  refine (implSwitch_any da dl dc dk ds dp tx r0 r1 a b _ (Q.q.rd w1.heap.size da dl dc dk ds dp (.head _)) (Nat.le_trans HTX.out (by decide)) HR0.out HR1.out Q.en).mono ?_
  rintro e w2 h2
  rw [← HR.out, ← HXS.out, ← HXP.out, ← HXO.out] at h2
  obtain ⟨xa, xl, xc, xk, rfl, hx, b2⟩ := h2.op
  replace Q := Q.on b2
  clear h2 b2
  replace Q : Q9 w (w2.alloc (.cells #[.slice xa xs.length xc, .slice xl xp.length xk] 27)) a b [(w2.heap.size, dvOf xa xl xc xk xs xp), (w1.heap.size, dvOf da dl dc dk ds dp)] := Q.new hx 27
  clear hx
  go_wp2_with fail
  revert Q
  generalize w2.alloc (.cells #[.slice xa xs.length xc, .slice xl xp.length xk] 27) = W2
  intro Q
  refine (drawHalfway_any v bs _ (hr.below Q.bw) HL.out).mono ?_
  rintro e w3 h3
  obtain ⟨ea, el, ec, ek, es, ep, tt, kb, rfl, htt, he, b3⟩ := h3.op
  replace Q := Q.on b3
  have HTT : Hid (tt.size ≤ 400) := htt
  clear h3 b3 htt
  replace Q : Q9 w (w3.alloc (.cells #[.slice ea es.length ec, .slice el ep.length ek] 27)) a b [(w3.heap.size, dvOf ea el ec ek es ep), (w2.heap.size, dvOf xa xl xc xk xs xp), (w1.heap.size, dvOf da dl dc dk ds dp)] := Q.new he 27
  clear he
  obtain ⟨c0, c0'⟩ := Q.q.at w3.heap.size ea el ec ek es ep (.head _)
  go_wp2_with fail
  clear c0 c0'
  revert Q
  generalize w3.alloc (.cells #[.slice ea es.length ec, .slice el ep.length ek] 27) = W3
  intro Q
  obtain ⟨s0, hs0⟩ := rs_ex (liesL es ep 0)
  have HS0 : Hid (RS (liesL es ep 0) s0) := hs0
  clear hs0
  obtain ⟨s1, hs1⟩ := rs_ex (liesL es ep 1)
  have HS1 : Hid (RS (liesL es ep 1) s1) := hs1
  clear hs1
  obtain ⟨RE, hRE⟩ : ∃ x, x = rootD es ep s0 s1 := ⟨_, rfl⟩
  have HRE : Hid (RE = rootD es ep s0 s1) := hRE
  clear hRE
  obtain ⟨hs, hhs⟩ : ∃ x, x = hwS es ep RE tt kb := ⟨_, rfl⟩
  have HHS : Hid (hs = hwS es ep RE tt kb) := hhs
  clear hhs
  refine (implHalfway_any ea el ec ek es ep tt kb s0 s1 a b _ (Q.q.rd w3.heap.size ea el ec ek es ep (.head _)) (Nat.le_trans HTT.out (by decide)) HS0.out HS1.out Q.en).mono ?_
  rintro e w4 h4
  rw [← HRE.out, ← HHS.out] at h4
  obtain ⟨fa, fl, fc, fk, rfl, hh, b4⟩ := h4.op
  replace Q := Q.on b4
  clear h4 b4
  replace Q : Q9 w (w4.alloc (.cells #[.slice fa hs.length fc, .slice fl 0 fk] 27)) a b [(w4.heap.size, dvOf fa fl fc fk hs ([] : List Pat)), (w3.heap.size, dvOf ea el ec ek es ep), (w2.heap.size, dvOf xa xl xc xk xs xp), (w1.heap.size, dvOf da dl dc dk ds dp)] := Q.new hh 27
  clear hh
  go_wp2_with fail
  revert Q
  generalize w4.alloc (.cells #[.slice fa hs.length fc, .slice fl 0 fk] 27) = W4
  intro Q
  refine (drawRoot_any v bs _ (hr.below Q.bw) HL.out).mono ?_
  rintro e w5 h5
  obtain ⟨ra, rl, rc, rk, rs, rp, rfl, hrr, b5⟩ := rootD_op h5
  replace Q := Q.on b5
  clear h5 b5
  replace Q : Q9 w (w5.alloc (.cells #[.slice ra rs.length rc, .slice rl rp.length rk] 27)) a b [(w5.heap.size, dvOf ra rl rc rk rs rp), (w4.heap.size, dvOf fa fl fc fk hs ([] : List Pat)), (w3.heap.size, dvOf ea el ec ek es ep), (w2.heap.size, dvOf xa xl xc xk xs xp), (w1.heap.size, dvOf da dl dc dk ds dp)] := Q.new hrr 27
  clear hrr
  obtain ⟨c0, c0'⟩ := Q.q.at w5.heap.size ra rl rc rk rs rp (.head _)
  go_wp2_with fail
  clear c0 c0'
  revert Q
  generalize w5.alloc (.cells #[.slice ra rs.length rc, .slice rl rp.length rk] 27) = W5
  intro Q
  obtain ⟨u0, hu0⟩ := rs_ex (liesL rs rp 0)
  have HU0 : Hid (RS (liesL rs rp 0) u0) := hu0
  clear hu0
  obtain ⟨u1, hu1⟩ := rs_ex (liesL rs rp 1)
  have HU1 : Hid (RS (liesL rs rp 1) u1) := hu1
  clear hu1
  obtain ⟨G, hG⟩ : ∃ x, x = (rootD rs rp u0 u1).2.1 := ⟨_, rfl⟩
  have HG : Hid (G = (rootD rs rp u0 u1).2.1) := hG
  clear hG
  obtain ⟨S, hS⟩ : ∃ x, x = (rootD rs rp u0 u1).2.2 := ⟨_, rfl⟩
  have HS : Hid (S = (rootD rs rp u0 u1).2.2) := hS
  clear hS
  refine (implRoot_any ra rl rc rk rs rp u0 u1 a b _ (Q.q.rd w5.heap.size ra rl rc rk rs rp (.head _)) HU0.out HU1.out Q.en.two).mono ?_
  rintro e w6 ⟨hee, b⟩
  rw [← HG.out, ← HS.out] at hee
  subst hee
  replace Q := Q.on b
  clear b
  go_wp2_with fail
  refine (drawSlot_any v bs _ (hr.below Q.bw) HL.out).mono ?_
  rintro e w7 ⟨n, u, rfl, hu, b⟩
  replace Q := Q.on b
  have HU : Hid (u.size ≤ 400) := hu
  clear b hu
  go_wp2_with fail
  obtain ⟨C, hC⟩ : ∃ x, x = slotS n u := ⟨_, rfl⟩
  have HC : Hid (C = slotS n u) := hC
  clear hC
  refine (implSlot_any n u _ (Nat.le_trans HU.out (by decide)) Q.en.two.env.tab).mono ?_
  rintro e w8 ⟨hee, b⟩
  rw [← HC.out] at hee
  subst hee
  replace Q := Q.on b
  clear b
  go_wp2_with fail
  refine (drawReadSlot_any v bs _ (hr.below Q.bw) HL.out).mono ?_
  rintro e w9 ⟨sb, rfl, hsb, b⟩
  replace Q := Q.on b
  have HSB : Hid (sb.size ≤ 1000) := hsb
  clear b hsb
  go_wp2_with fail
  obtain ⟨rr, hrr⟩ := rs_ex sb
  have HRR : Hid (RS sb rr) := hrr
  clear hrr
  obtain ⟨M, hM⟩ : ∃ x, x = rG rr := ⟨_, rfl⟩
  have HM : Hid (M = rG rr) := hM
  clear hM
  obtain ⟨V, hV⟩ : ∃ x, x = rT rr := ⟨_, rfl⟩
  have HV : Hid (V = rT rr) := hV
  clear hV
  obtain ⟨SL, hSL⟩ : ∃ x, x = rB rr := ⟨_, rfl⟩
  have HSL : Hid (SL = rB rr) := hSL
  clear hSL
  refine (implRead_one sb rr a _ (Nat.le_trans HSB.out (by decide)) HRR.out Q.en.two.env).mono ?_
  rintro e w10 ⟨hee, b⟩
  rw [← HM.out, ← HV.out, ← HSL.out] at hee
  subst hee
  replace Q := Q.on b
  clear b
  obtain ⟨c0, c0'⟩ := Q.q.at w1.heap.size da dl dc dk ds dp (.tail _ (.tail _ (.tail _ (.tail _ (.head _)))))
  go_wp2_with fail
  clear c0 c0'
  refine (specSwitch_any da dl dc dk ds dp tx r0 r1 _ (Q.q.rd w1.heap.size da dl dc dk ds dp (.tail _ (.tail _ (.tail _ (.tail _ (.head _)))))) (Nat.le_trans HTX.out (by decide)) HR0.out HR1.out).mono ?_
  rintro e w11 h11
  rw [← HR.out, ← HXS.out, ← HXP.out, ← HXO.out] at h11
  obtain ⟨ya, yl, yc, yk, rfl, hy, b11⟩ := h11.op
  replace Q := Q.on b11
  clear h11 b11
  replace Q : Q9 w (w11.alloc (.cells #[.slice ya xs.length yc, .slice yl xp.length yk] 27)) a b [(w11.heap.size, dvOf ya yl yc yk xs xp), (w5.heap.size, dvOf ra rl rc rk rs rp), (w4.heap.size, dvOf fa fl fc fk hs ([] : List Pat)), (w3.heap.size, dvOf ea el ec ek es ep), (w2.heap.size, dvOf xa xl xc xk xs xp), (w1.heap.size, dvOf da dl dc dk ds dp)] := Q.new hy 27
  clear hy
  go_wp2_with fail
  revert Q
  generalize w11.alloc (.cells #[.slice ya xs.length yc, .slice yl xp.length yk] 27) = W11
  intro Q
  as_aux_lemma =>
    have hne : (xo != xo) = false := by simp
    refine wp_region_noPanic ?_
    refine wp_region_held_drew (S := fun W => (W.cell? ⟨w2.heap.size, 0, none⟩ = some (.slice xa xs.length xc) ∧ W.cell? ⟨w2.heap.size, 1, none⟩ = some (.slice xl xp.length xk)) ∧ (W.cell? ⟨w3.heap.size, 0, none⟩ = some (.slice ea es.length ec) ∧ W.cell? ⟨w3.heap.size, 1, none⟩ = some (.slice el ep.length ek)) ∧ (W.cell? ⟨w4.heap.size, 0, none⟩ = some (.slice fa hs.length fc) ∧ W.cell? ⟨w4.heap.size, 1, none⟩ = some (.slice fl 0 fk)) ∧ (W.cell? ⟨w11.heap.size, 0, none⟩ = some (.slice ya xs.length yc) ∧ W.cell? ⟨w11.heap.size, 1, none⟩ = some (.slice yl xp.length yk))) (by kernel_rfl) ⟨Q.q.at w2.heap.size xa xl xc xk xs xp (.tail _ (.tail _ (.tail _ (.tail _ (.head _))))), Q.q.at w3.heap.size ea el ec ek es ep (.tail _ (.tail _ (.tail _ (.head _)))), Q.q.at w4.heap.size fa fl fc fk hs ([] : List Pat) (.tail _ (.tail _ (.head _))), Q.q.at w11.heap.size ya yl yc yk xs xp (.head _)⟩ (fun hH => ?_)
    replace Q := Q.on (Below.refl W11.heap.size W11).drew
    revert hH Q
    generalize W11.drew = V0
    intro hH Q
    refine tkG 0 91 hH ?_
    try simp only [Act.put, List.setIfInBounds_toArray, List.set_cons_zero, List.set_cons_succ]
    refine tkG 1 92 hH ?_
    try simp only [Act.put, List.setIfInBounds_toArray, List.set_cons_zero, List.set_cons_succ]
    refine tkG 2 93 hH ?_
    try simp only [Act.put, List.setIfInBounds_toArray, List.set_cons_zero, List.set_cons_succ]
    refine tkG 3 94 hH ?_
    try simp only [Act.put, List.setIfInBounds_toArray, List.set_cons_zero, List.set_cons_succ]
    refine tkG 4 95 hH ?_
    try simp only [Act.put, List.setIfInBounds_toArray, List.set_cons_zero, List.set_cons_succ]
    refine tkG 5 96 hH ?_
    try simp only [Act.put, List.setIfInBounds_toArray, List.set_cons_zero, List.set_cons_succ]
    refine wpAnyH_ready (rs := [6]) (by kernel_rfl) (by simp) ?_
    refine AllReadyH.cons rfl (fun K hK => ?_) AllReadyH.nil
    go_simp
    refine (likeDev_same (dvOf xa xl xc xk xs xp) (dvOf ya yl yc yk xs xp) _ (Q.q.rd w2.heap.size xa xl xc xk xs xp (.tail _ (.tail _ (.tail _ (.tail _ (.head _)))))) (Q.q.rd w11.heap.size ya yl yc yk xs xp (.head _)) rfl rfl).mono ?_
    rintro e V1 ⟨rfl, hb⟩
    replace Q := Q.on hb
    refine hK.out _ _ ⟨Q.q.at w2.heap.size xa xl xc xk xs xp (.tail _ (.tail _ (.tail _ (.tail _ (.head _))))), Q.q.at w3.heap.size ea el ec ek es ep (.tail _ (.tail _ (.tail _ (.head _)))), Q.q.at w4.heap.size fa fl fc fk hs ([] : List Pat) (.tail _ (.tail _ (.head _))), Q.q.at w11.heap.size ya yl yc yk xs xp (.head _)⟩ (fun hG => ?_)
    clear hK K
    try simp only [Act.put, List.setIfInBounds_toArray, List.set_cons_zero, List.set_cons_succ]
    clear hb hH
    have hH := hG
    clear hG
    refine tkG 7 98 hH ?_
    try simp only [Act.put, List.setIfInBounds_toArray, List.set_cons_zero, List.set_cons_succ]
    refine tkG 8 99 hH ?_
    try simp only [Act.put, List.setIfInBounds_toArray, List.set_cons_zero, List.set_cons_succ]
    refine tkG 9 100 hH ?_
    try simp only [Act.put, List.setIfInBounds_toArray, List.set_cons_zero, List.set_cons_succ]
    refine tkG 10 101 hH ?_
    try simp only [Act.put, List.setIfInBounds_toArray, List.set_cons_zero, List.set_cons_succ]
    refine tkG 11 102 hH ?_
    try simp only [Act.put, List.setIfInBounds_toArray, List.set_cons_zero, List.set_cons_succ]
    refine tkG 12 103 hH ?_
    try simp only [Act.put, List.setIfInBounds_toArray, List.set_cons_zero, List.set_cons_succ]
    refine tkG 13 104 hH ?_
    try simp only [Act.put, List.setIfInBounds_toArray, List.set_cons_zero, List.set_cons_succ]
    refine wpAnyH_ready (rs := [14]) (by kernel_rfl) (by simp) ?_
    refine AllReadyH.cons rfl (fun K hK => ?_) AllReadyH.nil
    go_simp
    refine (specHalfway_any ea el ec ek es ep tt kb s0 s1 _ (Q.q.rd w3.heap.size ea el ec ek es ep (.tail _ (.tail _ (.tail _ (.head _))))) (Nat.le_trans HTT.out (by decide)) HS0.out HS1.out).mono ?_
    rintro e V2 hc
    rw [← HRE.out, ← HHS.out] at hc
    obtain ⟨ca, cl, cc, ck, rfl, hc, hb⟩ := hc.op
    replace Q := Q.on hb
    refine hK.out _ _ ⟨Q.q.at w2.heap.size xa xl xc xk xs xp (.tail _ (.tail _ (.tail _ (.tail _ (.head _))))), Q.q.at w3.heap.size ea el ec ek es ep (.tail _ (.tail _ (.tail _ (.head _)))), Q.q.at w4.heap.size fa fl fc fk hs ([] : List Pat) (.tail _ (.tail _ (.head _))), Q.q.at w11.heap.size ya yl yc yk xs xp (.head _)⟩ (fun hG => ?_)
    clear hK K
    try simp only [Act.put, List.setIfInBounds_toArray, List.set_cons_zero, List.set_cons_succ]
    clear hb hH
    have hH := hG
    clear hG
    refine wpAnyH_ready (rs := [15]) (by kernel_rfl) (by simp) ?_
    refine AllReadyH.cons rfl (fun K hK => ?_) AllReadyH.nil
    go_simp
    refine (likeDev_same (dvOf fa fl fc fk hs ([] : List Pat)) (dvOf ca cl cc ck hs []) _ (Q.q.rd w4.heap.size fa fl fc fk hs ([] : List Pat) (.tail _ (.tail _ (.head _)))) hc rfl rfl).mono ?_
    rintro e V3 ⟨rfl, hb⟩
    replace Q := Q.on hb
    refine hK.out _ _ ⟨Q.q.at w2.heap.size xa xl xc xk xs xp (.tail _ (.tail _ (.tail _ (.tail _ (.head _))))), Q.q.at w3.heap.size ea el ec ek es ep (.tail _ (.tail _ (.tail _ (.head _)))), Q.q.at w4.heap.size fa fl fc fk hs ([] : List Pat) (.tail _ (.tail _ (.head _))), Q.q.at w11.heap.size ya yl yc yk xs xp (.head _)⟩ (fun hG => ?_)
    clear hK K
    try simp only [Act.put, List.setIfInBounds_toArray, List.set_cons_zero, List.set_cons_succ]
    clear hb hH
    have hH := hG
    clear hG
    clear hc
    refine tkG 16 107 hH ?_
    try simp only [Act.put, List.setIfInBounds_toArray, List.set_cons_zero, List.set_cons_succ]
    refine tkG 17 108 hH ?_
    try simp only [Act.put, List.setIfInBounds_toArray, List.set_cons_zero, List.set_cons_succ]
    refine tkG 18 109 hH ?_
    try simp only [Act.put, List.setIfInBounds_toArray, List.set_cons_zero, List.set_cons_succ]
    refine tkG 19 110 hH ?_
    try simp only [Act.put, List.setIfInBounds_toArray, List.set_cons_zero, List.set_cons_succ]
    refine tkG 20 111 hH ?_
    try simp only [Act.put, List.setIfInBounds_toArray, List.set_cons_zero, List.set_cons_succ]
    refine tkG 21 112 hH ?_
    try simp only [Act.put, List.setIfInBounds_toArray, List.set_cons_zero, List.set_cons_succ]
    refine wpAnyH_ready (rs := [22]) (by kernel_rfl) (by simp) ?_
    refine AllReadyH.cons rfl (fun K hK => ?_) AllReadyH.nil
    go_simp
    refine (specSlot_any n u _ (Nat.le_trans HU.out (by decide))).mono ?_
    rintro e V4 ⟨hee, hb⟩
    rw [← HC.out] at hee
    subst hee
    replace Q := Q.on hb
    refine hK.out _ _ ⟨Q.q.at w2.heap.size xa xl xc xk xs xp (.tail _ (.tail _ (.tail _ (.tail _ (.head _))))), Q.q.at w3.heap.size ea el ec ek es ep (.tail _ (.tail _ (.tail _ (.head _)))), Q.q.at w4.heap.size fa fl fc fk hs ([] : List Pat) (.tail _ (.tail _ (.head _))), Q.q.at w11.heap.size ya yl yc yk xs xp (.head _)⟩ (fun hG => ?_)
    clear hK K
    try simp only [Act.put, List.setIfInBounds_toArray, List.set_cons_zero, List.set_cons_succ]
    clear hb hH
    have hH := hG
    clear hG
    refine tkG 23 114 hH ?_
    try simp only [Act.put, List.setIfInBounds_toArray, List.set_cons_zero, List.set_cons_succ]
    refine tkG 24 115 hH ?_
    try simp only [Act.put, List.setIfInBounds_toArray, List.set_cons_zero, List.set_cons_succ]
    refine wpAnyH_done (by kernel_rfl) ?_ _
    refine NoPanic.normal ?_
    clear hne
    as_aux_lemma =>
      obtain ⟨c0, c0'⟩ := Q.q.at w5.heap.size ra rl rc rk rs rp (.tail _ (.head _))
      go_wp2_with fail
      clear c0 c0'
      refine (specRoot_any ra rl rc rk rs rp u0 u1 _ (Q.q.rd w5.heap.size ra rl rc rk rs rp (.tail _ (.head _))) HU0.out HU1.out).mono ?_
      rintro e w12 ⟨hee, b⟩
      rw [← HG.out, ← HS.out] at hee
      subst hee
      replace Q := Q.on b
      clear b
      go_wp2_with fail
      refine (readSpec_any sb rr _ (Nat.le_trans HSB.out (by decide)) HRR.out).mono ?_
      rintro e w13 ⟨hee, b⟩
      rw [← HM.out, ← HV.out, ← HSL.out] at hee
      subst hee
      replace Q := Q.on b
      clear b
      have hns : (SL != SL) = false := by cases SL <;> rfl
      go_upto_region 20 with fail
      go_cut [157] (fun t157 W => t157 = .bool false ∧ Q9 w W a b [(w11.heap.size, dvOf ya yl yc yk xs xp), (w5.heap.size, dvOf ra rl rc rk rs rp), (w4.heap.size, dvOf fa fl fc fk hs ([] : List Pat)), (w3.heap.size, dvOf ea el ec ek es ep), (w2.heap.size, dvOf xa xl xc xk xs xp), (w1.heap.size, dvOf da dl dc dk ds dp)])
      case first =>
        as_aux_lemma =>
          cases rr with
          | none =>
            have e1 : SL = false := HSL.out
            subst e1
            go_wp2
            go_meet
            case rel => exact ⟨rfl, Q⟩
          | some p =>
            obtain ⟨g, t⟩ := p
            have e1 : SL = true := HSL.out
            have e2 : M = g := HM.out
            have e3 : V = t := HV.out
            subst e1 e2 e3
            have HT : Hid (slotS M V = sb) := (slotS_yes HRR.out.1).trans HRR.out.2.symm
            have HV3 : Hid (V.size ≤ 300) := HRR.out.1.2.2
            go_wp2_with fail
            refine (implSlot_any M V _ (Nat.le_trans HV3.out (by decide)) Q.en.two.env.tab).mono ?_
            rintro e w14 ⟨hee, b⟩
            rw [HT.out] at hee
            subst hee
            replace Q := Q.on b
            clear b HT HV3 HRR HM HV HSL HSB
            go_wp2
            go_meet
            case rel => exact ⟨rfl, Q⟩
      case rest =>
        clear Q hns
        obtain ⟨rfl, Q⟩ := hcut
        go_upto_if 159 with fail
        go_cut [2] (fun t2 W => t2 = .bool false ∧ Q9 w W a b [(w11.heap.size, dvOf ya yl yc yk xs xp), (w5.heap.size, dvOf ra rl rc rk rs rp), (w4.heap.size, dvOf fa fl fc fk hs ([] : List Pat)), (w3.heap.size, dvOf ea el ec ek es ep), (w2.heap.size, dvOf xa xl xc xk xs xp), (w1.heap.size, dvOf da dl dc dk ds dp)])
        case first =>
          as_aux_lemma =>
            cases hC : C.toList.isEmpty with
            | true =>
              go_wp2
              go_meet
              case rel => exact ⟨rfl, Q⟩
            | false =>
              obtain ⟨k1, k2⟩ := slot_facts (n := n) (u := u) (by rw [← HC.out]; exact hC)
              have HK : Hid (1 ≤ n ∧ n ≤ 1000000 ∧ u.size ≤ 300) := k1
              have HC2 : Hid (C = slotT n u) := HC.out.trans k2
              have HI : Hid (∀ W, SEnv W a → Calls Tryz.prog 14 #[.string C] W fun e w' => e = .returned (.tuple #[.int .i64 n, .string u, .bool true]) ∧ Below W.heap.size W w') := fun W h => by rw [HC2.out]; exact implRead_yes n u a W HK.out h
              clear k1 k2 HK HC2
              go_wp2_with fail
              refine (HI.out _ Q.en.two.env).mono ?_
              rintro e w14 ⟨rfl, b⟩
              replace Q := Q.on b
              clear b HI
              go_wp2
              go_meet
              case rel => exact ⟨rfl, Q⟩
        case rest =>
          clear Q
          obtain ⟨rfl, Q⟩ := hcut
          as_aux_lemma =>
            obtain ⟨c0, c0'⟩ := Q.q.at w3.heap.size ea el ec ek es ep (.tail _ (.tail _ (.tail _ (.head _))))
            go_wp2_with fail
            clear c0 c0'
            obtain ⟨O, hO⟩ : ∃ x, x = (rootD es ep s0 s1).2.1 := ⟨_, rfl⟩
            have HO : Hid (O = (rootD es ep s0 s1).2.1) := hO
            clear hO
            obtain ⟨Bf, hBf⟩ : ∃ x, x = (rootD es ep s0 s1).2.2 := ⟨_, rfl⟩
            have HBF : Hid (Bf = (rootD es ep s0 s1).2.2) := hBf
            clear hBf
            refine (specRoot_any ea el ec ek es ep s0 s1 _ (Q.q.rd w3.heap.size ea el ec ek es ep (.tail _ (.tail _ (.tail _ (.head _))))) HS0.out HS1.out).mono ?_
            rintro e w15 ⟨hee, b⟩
            rw [← HO.out, ← HBF.out] at hee
            subst hee
            replace Q := Q.on b
            clear b
            obtain ⟨c0, c0'⟩ := Q.q.at w4.heap.size fa fl fc fk hs ([] : List Pat) (.tail _ (.tail _ (.head _)))
            go_wp2_with fail
            clear c0 c0'
            obtain ⟨t0, ht0⟩ := rs_ex (liesL hs [] 0)
            have HT0 : Hid (RS (liesL hs [] 0) t0) := ht0
            clear ht0
            obtain ⟨t1, ht1⟩ := rs_ex (liesL hs [] 1)
            have HT1 : Hid (RS (liesL hs [] 1) t1) := ht1
            clear ht1
            obtain ⟨N, hN⟩ : ∃ x, x = (rootD hs [] t0 t1).2.1 := ⟨_, rfl⟩
            have HN : Hid (N = (rootD hs [] t0 t1).2.1) := hN
            clear hN
            obtain ⟨Af, hAf⟩ : ∃ x, x = (rootD hs [] t0 t1).2.2 := ⟨_, rfl⟩
            have HAF : Hid (Af = (rootD hs [] t0 t1).2.2) := hAf
            clear hAf
            refine (implRoot_any fa fl fc fk hs ([] : List Pat) t0 t1 a b _ (Q.q.rd w4.heap.size fa fl fc fk hs ([] : List Pat) (.tail _ (.tail _ (.head _)))) HT0.out HT1.out Q.en.two).mono ?_
            rintro e w16 ⟨hee, b⟩
            rw [← HN.out, ← HAF.out] at hee
            subst hee
            replace Q := Q.on b
            clear b
            have HF : Hid (hs.length = 0 ∨ (1 ≤ O + 1 ∧ O + 1 ≤ 1000000) ∧ (kb = true ∧ N = O + 1 ∧ Af = tt ∨ kb = false ∧ N = O ∧ Af = Bf)) := by
              have g0 := HT0.out
              have g1 := HT1.out
              have eh : hs = hwS es ep (rootD es ep s0 s1) tt kb := by rw [← HRE.out]; exact HHS.out
              have eN := HN.out
              have eA := HAF.out
              have eO := HO.out
              have eB := HBF.out
              subst eh
              rcases half_facts HS0.out HS1.out g0 g1 with h | ⟨h1, ⟨h2, h3⟩ | ⟨h2, h3⟩⟩
              · exact .inl h
              · exact .inr ⟨by rw [eO]; exact h1, .inl ⟨h2, by rw [eN, h3, eO], by rw [eA, h3]⟩⟩
              · exact .inr ⟨by rw [eO]; exact h1, .inr ⟨h2, by rw [eN, h3, eO], by rw [eA, h3, eB]⟩⟩
            clear HN HAF HO HBF HT0 HT1
            go_upto_region 28 with fail
            go_cut [215] (fun t215 W => t215 = .bool false ∧ Q9 w W a b [(w11.heap.size, dvOf ya yl yc yk xs xp), (w5.heap.size, dvOf ra rl rc rk rs rp), (w4.heap.size, dvOf fa fl fc fk hs ([] : List Pat)), (w3.heap.size, dvOf ea el ec ek es ep), (w2.heap.size, dvOf xa xl xc xk xs xp), (w1.heap.size, dvOf da dl dc dk ds dp)])
            case first =>
              as_aux_lemma =>
                obtain ⟨c0, c0'⟩ := Q.q.at w4.heap.size fa fl fc fk hs ([] : List Pat) (.tail _ (.tail _ (.head _)))
                rcases HF.out with hl0 | ⟨hO, hk⟩
                · rw [hl0] at c0
                  go_wp2
                  go_meet
                  case rel => exact ⟨rfl, Q⟩
                · have hw : IntKind.i64.wrap (O + 1) = O + 1 := by rw [IntKind.wrap_i64]; omega
                  by_cases hl0 : hs.length = 0
                  · rw [hl0] at c0
                    clear hk
                    go_wp2
                    go_meet
                    case rel => exact ⟨rfl, Q⟩
                  have hl1 : (0 : Int) < (hs.length : Int) := by omega
                  rcases hk with ⟨rfl, rfl, rfl⟩ | ⟨rfl, rfl, rfl⟩
                  · go_wp2
                    go_meet
                    case rel => exact ⟨rfl, Q⟩
                  · go_wp2
                    go_meet
                    case rel => exact ⟨rfl, Q⟩
            case rest =>
              clear Q HF
              obtain ⟨rfl, Q⟩ := hcut
              cases xo with
              | true =>
                as_aux_lemma =>
                  obtain ⟨c0, c0'⟩ := Q.q.at w1.heap.size da dl dc dk ds dp (.tail _ (.tail _ (.tail _ (.tail _ (.tail _ (.head _))))))
                  go_wp2_with fail
                  clear c0 c0'
                  obtain ⟨L, hL⟩ : ∃ x, x = (rootD ds dp r0 r1).2.1 := ⟨_, rfl⟩
                  have HLL : Hid (L = (rootD ds dp r0 r1).2.1) := hL
                  clear hL
                  obtain ⟨L2, hL2⟩ : ∃ x, x = (rootD ds dp r0 r1).2.2 := ⟨_, rfl⟩
                  have HL2 : Hid (L2 = (rootD ds dp r0 r1).2.2) := hL2
                  clear hL2
                  refine (specRoot_any da dl dc dk ds dp r0 r1 _ (Q.q.rd w1.heap.size da dl dc dk ds dp (.tail _ (.tail _ (.tail _ (.tail _ (.tail _ (.head _))))))) HR0.out HR1.out).mono ?_
                  rintro e w17 ⟨hee, b⟩
                  rw [← HLL.out, ← HL2.out] at hee
                  subst hee
                  replace Q := Q.on b
                  clear b
                  obtain ⟨c0, c0'⟩ := Q.q.at w2.heap.size xa xl xc xk xs xp (.tail _ (.tail _ (.tail _ (.tail _ (.head _)))))
                  go_wp2_with fail
                  clear c0 c0'
                  obtain ⟨q0, hq0⟩ := rs_ex (liesL xs xp 0)
                  have HQ0 : Hid (RS (liesL xs xp 0) q0) := hq0
                  clear hq0
                  obtain ⟨q1, hq1⟩ := rs_ex (liesL xs xp 1)
                  have HQ1 : Hid (RS (liesL xs xp 1) q1) := hq1
                  clear hq1
                  have HF : Hid ((1 ≤ L + 1 ∧ L + 1 ≤ 1000000) ∧ devOk xs xp = true ∧ (rootD xs xp q0 q1).2 = (L + 1, tx)) := by
                    have g0 := HQ0.out
                    have g1 := HQ1.out
                    have e1 := HXS.out
                    have e2 := HXP.out
                    have e3 := HXO.out
                    have e4 := HLL.out
                    rw [HR.out] at e1 e2 e3
                    rw [e4]
                    subst e1 e2
                    exact switch_facts HR0.out HR1.out e3.symm g0 g1
                  have HF1 : Hid ((rootD xs xp q0 q1).2.1 = L + 1) := by unfold Hid; rw [HF.out.2.2]
                  have HF2 : Hid ((rootD xs xp q0 q1).2.2 = tx) := by unfold Hid; rw [HF.out.2.2]
                  have HF3 : Hid (devOk xs xp = true) := HF.out.2.1
                  have hw : IntKind.i64.wrap (L + 1) = L + 1 := by have := HF.out.1; rw [IntKind.wrap_i64]; omega
                  clear HF HLL HL2
                  refine (implRoot_any xa xl xc xk xs xp q0 q1 a b _ (Q.q.rd w2.heap.size xa xl xc xk xs xp (.tail _ (.tail _ (.tail _ (.tail _ (.head _)))))) HQ0.out HQ1.out Q.en.two).mono ?_
                  rintro e w18 ⟨hee, b⟩
                  rw [HF1.out, HF2.out] at hee
                  subst hee
                  replace Q := Q.on b
                  clear b
                  obtain ⟨c0, c0'⟩ := Q.q.at w2.heap.size xa xl xc xk xs xp (.tail _ (.tail _ (.tail _ (.tail _ (.head _)))))
                  go_wp2_with fail
                  clear c0 c0'
                  refine (implDeviceOk_any (dvOf xa xl xc xk xs xp) _ (Q.q.rd w2.heap.size xa xl xc xk xs xp (.tail _ (.tail _ (.tail _ (.tail _ (.head _))))))).mono ?_
                  rintro e w19 ⟨he, b⟩
                  replace he : e = .returned (.bool true) := by rw [he]; exact congrArg (fun x => Ending.returned (.bool x)) HF3.out
                  subst he
                  replace Q := Q.on b
                  go_wp2
                  go_ret
                  exact ⟨rfl, Q.bw⟩
              | false =>
                as_aux_lemma =>
                  by_cases hD : devOk ds dp = true
                  · obtain rfl : xs = ds := by rw [HXS.out]; unfold swS; rw [← HXO.out, hD]; rfl
                    obtain rfl : xp = dp := by rw [HXP.out]; unfold swL; rw [← HXO.out, hD]; rfl
                    clear HXS HXP
                    obtain ⟨c0, c0'⟩ := Q.q.at w2.heap.size xa xl xc xk xs xp (.tail _ (.tail _ (.tail _ (.tail _ (.head _)))))
                    obtain ⟨c1, c1'⟩ := Q.q.at w1.heap.size da dl dc dk xs xp (.tail _ (.tail _ (.tail _ (.tail _ (.tail _ (.head _))))))
                    go_wp2_with fail
                    clear c0 c0'
                    clear c1 c1'
                    refine (likeDev_same (dvOf xa xl xc xk xs xp) (dvOf da dl dc dk xs xp) _ (Q.q.rd w2.heap.size xa xl xc xk xs xp (.tail _ (.tail _ (.tail _ (.tail _ (.head _)))))) (Q.q.rd w1.heap.size da dl dc dk xs xp (.tail _ (.tail _ (.tail _ (.tail _ (.tail _ (.head _))))))) rfl rfl).mono ?_
                    rintro e w17 ⟨rfl, b⟩
                    replace Q := Q.on b
                    clear b
                    go_wp2
                    go_ret
                    exact ⟨rfl, Q.bw⟩
                  · obtain rfl : xs = [] := by rw [HXS.out]; unfold swS; rw [← HXO.out, if_neg hD]; rfl
                    obtain rfl : xp = [] := by rw [HXP.out]; unfold swL; rw [← HXO.out, if_neg hD]; rfl
                    clear HXS HXP
                    obtain ⟨c0, c0'⟩ := Q.q.at w2.heap.size xa xl xc xk [] [] (.tail _ (.tail _ (.tail _ (.tail _ (.head _)))))
                    rw [List.length_nil] at c0 c0'
                    obtain ⟨c1, c1'⟩ := Q.q.at w1.heap.size da dl dc dk ds dp (.tail _ (.tail _ (.tail _ (.tail _ (.tail _ (.head _))))))
                    go_wp2_with fail
                    clear c0 c0' c1 c1'
                    refine (likeDev_zero xa xl xc xk da dl dc dk ds dp _ (Q.q.rd w1.heap.size da dl dc dk ds dp (.tail _ (.tail _ (.tail _ (.tail _ (.tail _ (.head _)))))))).mono ?_
                    rintro e w17 ⟨⟨bb, rfl⟩, b⟩
                    replace Q := Q.on b
                    clear b
                    cases bb with
                    | true =>
                      go_wp2
                      go_ret
                      exact ⟨rfl, Q.bw⟩
                    | false =>
                      obtain ⟨c0, c0'⟩ := Q.q.at w2.heap.size xa xl xc xk [] [] (.tail _ (.tail _ (.tail _ (.tail _ (.head _)))))
                      rw [List.length_nil] at c0 c0'
                      go_wp2_with fail
                      clear c0 c0'
                      refine (likeDev_same (dvOf xa xl xc xk [] []) (dvOf none none 0 0 [] []) _ (Q.q.rd w2.heap.size xa xl xc xk [] [] (.tail _ (.tail _ (.tail _ (.tail _ (.head _)))))) (ownDv_zero _ 0).rd rfl rfl).mono ?_
                      rintro e w18 ⟨rfl, b⟩
                      replace Q := Q.on b
                      clear b
                      go_wp2
                      go_ret
                      exact ⟨rfl, Q.bw⟩
end Go.Proofs.YtpidmmfjmbinkaaGreatDoor
