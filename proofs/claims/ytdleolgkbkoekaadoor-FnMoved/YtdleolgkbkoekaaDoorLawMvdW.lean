/- The walk of FnMoved: money moves and its total stays, nobody has less than nothing, and a move is done once. -/
-- UNF Gen
import Derived.Test.YtdleolgkbkoekaaDoorMovLike
import Derived.Test.YtdleolgkbkoekaaDoorMovDrw5
import Derived.Test.YtdleolgkbkoekaaDoorBnkTot
import Derived.Deep.RegionWith
import Derived.Deep.DeepCutAuto
namespace Go.Proofs.YtdleolgkbkoekaaDoor
open Go.RowKit
/-- Where the walk stands: boxes of banks, boxes of moves, rows of numbers, rows of texts, all of which can be read. -/
structure FQ (w W : World) (bl : List (Nat × BkX)) (ml : List (Nat × Mov)) (il : List (Value × List Int)) (tl : List (Value × List ByteArray)) : Prop where
  bel : Below w.heap.size w W
  bx : ∀ i ∈ bl, BoxBk W i.1 i.2.vm i.2.vc
  rb : ∀ i ∈ bl, RdBk W i.2
  mx : ∀ i ∈ ml, Box4 W i.1 28 i.2
  ri : ∀ i ∈ il, RdI W i.1 i.2
  rt : ∀ i ∈ tl, RdS W i.1 i.2
theorem FQ.below {w W W' : World} {bl : List (Nat × BkX)} {ml : List (Nat × Mov)} {il : List (Value × List Int)} {tl : List (Value × List ByteArray)} (h : FQ w W bl ml il tl) (hb : Below W.heap.size W W') : FQ w W' bl ml il tl :=
  ⟨h.bel.trans (hb.mono h.bel.size), fun i hi => (h.bx i hi).below hb, fun i hi => (h.rb i hi).below hb, fun i hi => (h.mx i hi).below hb, fun i hi => (h.ri i hi).below hb, fun i hi => (h.rt i hi).below hb⟩
theorem FQ.putB {w W : World} {bl : List (Nat × BkX)} {ml : List (Nat × Mov)} {il : List (Value × List Int)} {tl : List (Value × List ByteArray)} (h : FQ w W bl ml il tl) {b : Nat} {X : BkX} (hb : BoxBk W b X.vm X.vc) (hr : RdBk W X) : FQ w W ((b, X) :: bl) ml il tl :=
  ⟨h.bel, fun i hi => by rcases List.mem_cons.1 hi with rfl | hi; exact hb; exact h.bx i hi, fun i hi => by rcases List.mem_cons.1 hi with rfl | hi; exact hr; exact h.rb i hi, h.mx, h.ri, h.rt⟩
theorem FQ.putM {w W : World} {bl : List (Nat × BkX)} {ml : List (Nat × Mov)} {il : List (Value × List Int)} {tl : List (Value × List ByteArray)} (h : FQ w W bl ml il tl) {b : Nat} {m : Mov} (hb : Box4 W b 28 m) : FQ w W bl ((b, m) :: ml) il tl :=
  ⟨h.bel, h.bx, h.rb, fun i hi => by rcases List.mem_cons.1 hi with rfl | hi; exact hb; exact h.mx i hi, h.ri, h.rt⟩
theorem FQ.putI {w W : World} {bl : List (Nat × BkX)} {ml : List (Nat × Mov)} {il : List (Value × List Int)} {tl : List (Value × List ByteArray)} (h : FQ w W bl ml il tl) {v : Value} {ns : List Int} (hb : RdI W v ns) : FQ w W bl ml ((v, ns) :: il) tl :=
  ⟨h.bel, h.bx, h.rb, h.mx, fun i hi => by rcases List.mem_cons.1 hi with rfl | hi; exact hb; exact h.ri i hi, h.rt⟩
theorem FQ.putT {w W : World} {bl : List (Nat × BkX)} {ml : List (Nat × Mov)} {il : List (Value × List Int)} {tl : List (Value × List ByteArray)} (h : FQ w W bl ml il tl) {v : Value} {ss : List ByteArray} (hb : RdS W v ss) : FQ w W bl ml il ((v, ss) :: tl) :=
  ⟨h.bel, h.bx, h.rb, h.mx, h.ri, fun i hi => by rcases List.mem_cons.1 hi with rfl | hi; exact hb; exact h.rt i hi⟩
theorem FQ.sub {w W : World} {bl bl' : List (Nat × BkX)} {ml : List (Nat × Mov)} {il : List (Value × List Int)} {tl : List (Value × List ByteArray)} (h : FQ w W bl ml il tl) (hs : ∀ i ∈ bl', i ∈ bl) : FQ w W bl' ml [] [] :=
  ⟨h.bel, fun i hi => h.bx i (hs i hi), fun i hi => h.rb i (hs i hi), h.mx, (fun i hi => by cases hi), (fun i hi => by cases hi)⟩
theorem rdBk_zero (w : World) : RdBk w ⟨.slice none 0 0, .slice none 0 0, [], []⟩ := (ownBk_zero w 0).rd
theorem rdI_len {w : World} {a : Option Addr} {n c : Nat} {ns : List Int} (h : RdI w (.slice a n c) ns) : n = ns.length := by
  obtain ⟨a', c', e, _⟩ := h
  injection e
theorem rdI_cell {W : World} {q o n c : Nat} {ns : List Int} (h : RdI W (.slice (some ⟨q, o, none⟩) n c) ns) {i : Nat} (hi : i < ns.length) : W.cell? ⟨q, o + i, none⟩ = some (.int .i64 (nthI ns i)) := by
  obtain ⟨b, off, e, k⟩ := h.nth i hi
  injection e with e
  injection e with e1 e2 e3
  subst e1
  subst e2
  exact k
theorem payM_at {ms : List Int} {f t : Nat} {s : Int} (hl : ms.length = 8) (hf : f < 8) (ht : t < 8) : nthI (payM ms f t s) f = if f = t then nthI ms f else nthI ms f - s := by
  unfold payM
  rw [nthI_set (by rw [List.length_set]; omega), nthI_set (by omega)]
  by_cases e : f = t
  · subst e
    rw [if_pos rfl, if_pos rfl, if_pos rfl]
    omega
  · rw [if_neg e, nthI_set (by omega), if_pos rfl, if_neg e]
theorem payC_at {cs : List Int} {f : Nat} (hl : cs.length = 8) (hf : f < 8) : nthI (payC cs f) f = nthI cs f + 1 := by
  unfold payC
  rw [nthI_set (by omega), if_pos rfl]
/-- A move that was done is not done again. -/
theorem cod_again {ms cs : List Int} {f t : Nat} {s c : Int} (hb : BankP ms cs) (hm : MovP ⟨(f : Int), (t : Int), s, c⟩) (hf : f < 8) (h0 : codR ms cs ⟨(f : Int), (t : Int), s, c⟩ = 0) : codR (movM ms cs ⟨(f : Int), (t : Int), s, c⟩) (movC ms cs ⟨(f : Int), (t : Int), s, c⟩) ⟨(f : Int), (t : Int), s, c⟩ = 2 := by
  have hk := (mov_ok hb hm).1
  have hc : c = nthI cs f := by
    by_cases h : c = nthI cs f
    · exact h
    · have := (codR_two hb hm h).1
      rw [h0] at this
      cases this
  have h3 : ¬ nthI ms f < s := fun h => by
    have := (codR_three hb hm hc h).1
    rw [h0] at this
    cases this
  have e := (codR_done hb hm hc h3).2.2
  refine (codR_two hk hm ?_).1
  rw [e, payC_at hb.2.1.1 hf]
  omega
theorem all_tot {ms cs : List Int} {ss : List ByteArray} {rs : List (Mov × Bool)} (hb : BankP ms cs) (h : RmAll ss rs) : totR (allR ms cs rs).mon (allR ms cs rs).cnt = totR ms cs ∧ bankOk (allR ms cs rs).mon (allR ms cs rs).cnt = true ∧ (allR ms cs rs).cod.length = ss.length := by
  obtain ⟨h1, h2⟩ := allR_ok hb h
  refine ⟨by rw [totR_yes (bankOk_iff.2 h1), totR_yes (bankOk_iff.2 hb), h2], bankOk_iff.2 h1, ?_⟩
  rw [allR_yes hb, ← h.1]
  have h3 := nthA_len ⟨ms, cs, []⟩ rs rs.length (Nat.le_refl _)
  rw [nthA_all] at h3
  simpa using h3.2.2
set_option maxHeartbeats 16000000 in
set_option maxRecDepth 100000 in
theorem lawMoved13 (v : Value) (bs : List UInt8) (w : World) (hr : Rd w v bs) (he : MEnv w) :
    Calls Tryd.prog 3 #[v] w fun e w' => e = .returned (.bool true) ∧ Below w.heap.size w w' := by
  have HE : Hid (MEnv w) := he
  obtain ⟨va, vc, hv, -⟩ := id hr
  subst hv
  have HRD : Hid (Rd w (.slice va bs.length vc) bs) := hr
  clear hr he
  go_enter Tryd.func3, Tryd.ntmps3
  go_wp2_with fail
  refine (bigM_any _ bs _ HRD.out).mono ?_
  rintro e w1 ⟨rfl, hw1⟩
  obtain rfl := hw1.symm
  by_cases hbig : 4096 < bs.length
  · have hd : decide (4096 < (bs.length : Int)) = true := by simp; omega
    rw [hd]
    go_wp2
    go_ret
    exact ⟨rfl, Below.refl _ _⟩
  have hd : decide (4096 < (bs.length : Int)) = false := by simp; omega
  rw [hd]
  have HB : Hid (bs.length ≤ 4096) := by unfold Hid; omega
  clear hd hbig
  go_wp2_with fail
  refine (drawMoved_any _ bs _ HRD.out HB.out).mono ?_
  rintro e w2 ⟨Y, m, rfl, ry, hy1, hy2, bel⟩
  obtain ⟨yvm, yvc, yms, ycs⟩ := Y
  obtain ⟨ya, yc, e1, -, -⟩ := rdI_slice ry.mon
  obtain ⟨yd, ye, e2, -, -⟩ := rdI_slice ry.cnt
  simp only at e1 e2 hy1 hy2
  have HY : Hid (yms.length + ycs.length ≤ 1048576) := by unfold Hid; omega
  generalize yms.length = yn at e1
  generalize ycs.length = ym at e2
  subst e1
  subst e2
  clear hy1 hy2
  have b3 := boxBk_new w2 (.slice ya yn yc) (.slice yd ym ye)
  have h3 := below1 w2 (.cells #[.slice ya yn yc, .slice yd ym ye] 26)
  have h4 := below1 (w2.alloc (.cells #[.slice ya yn yc, .slice yd ym ye] 26)) (.cells #[.int .i64 m.fr, .int .i64 m.to', .int .i64 m.sum, .int .i64 m.cou] 28)
  have b4 := box4_new (w2.alloc (.cells #[.slice ya yn yc, .slice yd ym ye] 26)) 28 m
  rw [show (w2.alloc (.cells #[.slice ya yn yc, .slice yd ym ye] 26)).heap.size = w2.heap.size + 1 from by simp] at b4
  have h34 := h3.trans (h4.mono h3.size)
  have Q : FQ w ((w2.alloc (.cells #[.slice ya yn yc, .slice yd ym ye] 26)).alloc (.cells #[.int .i64 m.fr, .int .i64 m.to', .int .i64 m.sum, .int .i64 m.cou] 28)) [(w2.heap.size, ⟨.slice ya yn yc, .slice yd ym ye, yms, ycs⟩)] [(w2.heap.size + 1, m)] [] [] :=
    ⟨bel.trans (h34.mono bel.size), (fun i hi => by obtain rfl := List.mem_singleton.1 hi; exact b3.below h4), (fun i hi => by obtain rfl := List.mem_singleton.1 hi; exact ry.below h34), (fun i hi => by obtain rfl := List.mem_singleton.1 hi; exact b4), (fun i hi => by cases hi), (fun i hi => by cases hi)⟩
  clear b3 b4 h3 h4 h34 ry bel
  generalize hW : (w2.alloc (.cells #[.slice ya yn yc, .slice yd ym ye] 26)).alloc (.cells #[.int .i64 m.fr, .int .i64 m.to', .int .i64 m.sum, .int .i64 m.cou] 28) = W2 at Q
  have HW : Hid ((w2.alloc (.cells #[.slice ya yn yc, .slice yd ym ye] 26)).alloc (.cells #[.int .i64 m.fr, .int .i64 m.to', .int .i64 m.sum, .int .i64 m.cou] 28) = W2) := hW
  obtain ⟨b3, hb3⟩ : ∃ b3, w2.heap.size = b3 := ⟨_, rfl⟩
  rw [hb3] at Q
  have HB3 : Hid (w2.heap.size = b3) := hb3
  obtain ⟨c0, c1, -, -⟩ := (Q.bx _ (List.mem_cons_self ..)).facts
  obtain ⟨p0, p1, p2, p3⟩ := (Q.mx _ (List.mem_cons_self ..)).facts
  simp only at c0 c1 p0 p1 p2 p3
  rw [← hW, ← hb3] at c0 c1 p0 p1 p2 p3
  clear hW hb3
  obtain ⟨xms, hxms⟩ : ∃ x, x = movM yms ycs m := ⟨_, rfl⟩
  obtain ⟨xcs, hxcs⟩ : ∃ x, x = movC yms ycs m := ⟨_, rfl⟩
  obtain ⟨kk, hkk0⟩ : ∃ x, x = codR yms ycs m := ⟨_, rfl⟩
  have HIM : Hid (∀ W, RdBk W ⟨.slice ya yn yc, .slice yd ym ye, yms, ycs⟩ → Calls Tryd.prog 6 #[.agg #[.slice ya yn yc, .slice yd ym ye], .agg #[.int .i64 m.fr, .int .i64 m.to', .int .i64 m.sum, .int .i64 m.cou]] W fun e w' => MovRes W xms xcs kk e w') := fun W h => by rw [hxms, hxcs, hkk0]; exact implMoved_any ⟨.slice ya yn yc, .slice yd ym ye, yms, ycs⟩ m W h HY.out
  have HSM : Hid (∀ W, RdBk W ⟨.slice ya yn yc, .slice yd ym ye, yms, ycs⟩ → Calls Tryd.prog 9 #[.agg #[.slice ya yn yc, .slice yd ym ye], .agg #[.int .i64 m.fr, .int .i64 m.to', .int .i64 m.sum, .int .i64 m.cou]] W fun e w' => MovRes W xms xcs kk e w') := fun W h => by rw [hxms, hxcs, hkk0]; exact specMoved_any ⟨.slice ya yn yc, .slice yd ym ye, yms, ycs⟩ m W h
  have HX : Hid (xms = movM yms ycs m ∧ xcs = movC yms ycs m ∧ kk = codR yms ycs m) := ⟨hxms, hxcs, hkk0⟩
  clear hxms hxcs hkk0
  go_wp2_with fail
  rw [HW.out, HB3.out]
  clear HW HB3 c0 c1 p0 p1 p2 p3
  refine (HIM.out _ (Q.rb _ (List.mem_cons_self ..))).mono ?_
  intro e w3 h2
  obtain ⟨xa, xn, xc, xd, xm, xe, rfl, oX, hb⟩ := h2.open
  replace Q := Q.below hb
  clear h2 hb
  have hb := below1 w3 (.cells #[.slice xa xn xc, .slice xd xm xe] 26)
  replace Q := (Q.below hb).putB (X := ⟨.slice xa xn xc, .slice xd xm xe, xms, xcs⟩) (boxBk_new _ _ _) (oX.rd.below hb)
  generalize hW : w3.alloc (.cells #[.slice xa xn xc, .slice xd xm xe] 26) = W3 at Q
  have HW : Hid (w3.alloc (.cells #[.slice xa xn xc, .slice xd xm xe] 26) = W3) := hW
  obtain ⟨b5, hbb⟩ : ∃ b5, w3.heap.size = b5 := ⟨_, rfl⟩
  rw [hbb] at Q
  have HBB : Hid (w3.heap.size = b5) := hbb
  clear hb
  clear hW hbb
  go_wp2_with fail
  rw [HW.out, HBB.out]
  clear HW HBB 
  clear oX
  refine (drawMovedAll_any _ bs _ (HRD.out.below Q.bel) HB.out).mono ?_
  rintro e w4 ⟨A, q, c, ss, rfl, rA, ha1, ha2, rl, hl5, hsz, hb⟩
  obtain ⟨avm, avc, ams, acs⟩ := A
  obtain ⟨aa, ac, e1, -, -⟩ := rdI_slice rA.mon
  obtain ⟨ad, ae, e2, -, -⟩ := rdI_slice rA.cnt
  simp only at e1 e2 ha1 ha2
  have HA : Hid (ams.length + acs.length ≤ 1048576) := by unfold Hid; omega
  generalize ams.length = an at e1
  generalize acs.length = am at e2
  subst e1
  subst e2
  replace Q := (Q.below hb).putT rl
  have HSZ : Hid (∀ k (h : k < ss.length), ss[k].size ≤ 1048576) := fun k h => by have := hsz _ (List.getElem_mem h); omega
  have HL5 : Hid (ss.length ≤ 5) := hl5
  obtain ⟨rs, hR⟩ := rmAll_ex ss
  have HRS : Hid (RmAll ss rs) := hR
  obtain ⟨R, hRR⟩ : ∃ R, R = allR ams acs rs := ⟨_, rfl⟩
  have HRA : Hid (R = allR ams acs rs) := hRR
  obtain ⟨ln, hln⟩ : ∃ ln, ln = ss.length := ⟨_, rfl⟩
  have HLN : Hid (ln = ss.length) := hln
  rw [← hln] at Q ⊢
  have HI : Hid (∀ W, RdBk W ⟨.slice aa an ac, .slice ad am ae, ams, acs⟩ → RdS W (.slice (some ⟨q, 0, none⟩) ln c) ss → MEnv W → Calls Tryd.prog 8 #[.agg #[.slice aa an ac, .slice ad am ae], (.slice (some ⟨q, 0, none⟩) ln c)] W fun e w' => AllRes W R e w') := fun W h1 h2 h3 => by rw [hRR]; exact implMovedAll_any ⟨.slice aa an ac, .slice ad am ae, ams, acs⟩ _ ss rs W h1 h2 HSZ.out (by have := HL5.out; omega) HRS.out HA.out h3
  have HS : Hid (∀ W, RdBk W ⟨.slice aa an ac, .slice ad am ae, ams, acs⟩ → RdS W (.slice (some ⟨q, 0, none⟩) ln c) ss → Calls Tryd.prog 15 #[.agg #[.slice aa an ac, .slice ad am ae], (.slice (some ⟨q, 0, none⟩) ln c)] W fun e w' => AllRes W R e w') := fun W h1 h2 => by rw [hRR]; exact specMovedAll_any ⟨.slice aa an ac, .slice ad am ae, ams, acs⟩ _ ss rs W h1 h2 HSZ.out (by have := HL5.out; omega) HRS.out HA.out
  clear hb hl5 hsz hR hRR hln ha1 ha2 rl
  have hb := below1 w4 (.cells #[.slice aa an ac, .slice ad am ae] 26)
  replace Q := (Q.below hb).putB (X := ⟨.slice aa an ac, .slice ad am ae, ams, acs⟩) (boxBk_new _ _ _) (rA.below hb)
  generalize hW : w4.alloc (.cells #[.slice aa an ac, .slice ad am ae] 26) = W4 at Q
  have HW : Hid (w4.alloc (.cells #[.slice aa an ac, .slice ad am ae] 26) = W4) := hW
  obtain ⟨b7, hbb⟩ : ∃ b7, w4.heap.size = b7 := ⟨_, rfl⟩
  rw [hbb] at Q
  have HBB : Hid (w4.heap.size = b7) := hbb
  clear hb
  obtain ⟨c00, c01, -, -⟩ := (Q.bx (b7, ⟨.slice aa an ac, .slice ad am ae, ams, acs⟩) (by simp)).facts
  simp only at c00 c01
  rw [← hW] at c00 c01
  rw [← hbb] at c00 c01
  clear hW hbb
  go_wp2_with fail
  rw [HW.out, HBB.out]
  clear HW HBB c00 c01
  clear rA
  refine (HI.out _ (Q.rb (b7, ⟨.slice aa an ac, .slice ad am ae, ams, acs⟩) (by simp)) (Q.rt _ (List.mem_cons_self ..)) (HE.out.on Q.bel)).mono ?_
  intro e w5 h2
  obtain ⟨ra, rn, rc, rd, rm, re, rf, rg, rh, rfl, oR, cR, -, hb⟩ := h2.open
  replace Q := (Q.below hb).putI cR.rd
  clear h2 hb
  have hb := below1 w5 (.cells #[.slice ra rn rc, .slice rd rm re] 26)
  replace Q := (Q.below hb).putB (X := ⟨.slice ra rn rc, .slice rd rm re, R.mon, R.cnt⟩) (boxBk_new _ _ _) (oR.rd.below hb)
  generalize hW : w5.alloc (.cells #[.slice ra rn rc, .slice rd rm re] 26) = W5 at Q
  have HW : Hid (w5.alloc (.cells #[.slice ra rn rc, .slice rd rm re] 26) = W5) := hW
  obtain ⟨b9, hbb⟩ : ∃ b9, w5.heap.size = b9 := ⟨_, rfl⟩
  rw [hbb] at Q
  have HBB : Hid (w5.heap.size = b9) := hbb
  clear hb
  obtain ⟨c00, c01, -, -⟩ := (Q.bx (b3, ⟨.slice ya yn yc, .slice yd ym ye, yms, ycs⟩) (by simp)).facts
  obtain ⟨p0, p1, p2, p3⟩ := (Q.mx ((b3 + 1), m) (by simp)).facts
  simp only at c00 c01 p0 p1 p2 p3
  rw [← hW] at c00 c01 p0 p1 p2 p3
  clear hW hbb
  go_wp2_with fail
  rw [HW.out, HBB.out]
  clear HW HBB c00 c01 p0 p1 p2 p3
  clear oR cR
  refine (HSM.out _ (Q.rb (b3, ⟨.slice ya yn yc, .slice yd ym ye, yms, ycs⟩) (by simp))).mono ?_
  intro e w6 h2
  obtain ⟨za, zn, zc, zd, zm, ze, rfl, oZ, hb⟩ := h2.open
  replace Q := Q.below hb
  clear h2 hb
  have hb := below1 w6 (.cells #[.slice za zn zc, .slice zd zm ze] 26)
  replace Q := (Q.below hb).putB (X := ⟨.slice za zn zc, .slice zd zm ze, xms, xcs⟩) (boxBk_new _ _ _) (oZ.rd.below hb)
  generalize hW : w6.alloc (.cells #[.slice za zn zc, .slice zd zm ze] 26) = W6 at Q
  have HW : Hid (w6.alloc (.cells #[.slice za zn zc, .slice zd zm ze] 26) = W6) := hW
  obtain ⟨b11, hbb⟩ : ∃ b11, w6.heap.size = b11 := ⟨_, rfl⟩
  rw [hbb] at Q
  have HBB : Hid (w6.heap.size = b11) := hbb
  clear hb
  clear hW hbb
  go_upto_region 8 with fail
  rw [HW.out, HBB.out]
  clear HW HBB oZ
  have hkk : (kk != kk) = false := by simp
  have hok : (bankOk yms ycs != bankOk yms ycs) = false := by cases bankOk yms ycs <;> rfl
  have hmo : (movOk m != movOk m) = false := by cases movOk m <;> rfl
  have HBI : Hid (∀ W, RdBk W ⟨.slice ya yn yc, .slice yd ym ye, yms, ycs⟩ → Calls Tryd.prog 11 #[.agg #[.slice ya yn yc, .slice yd ym ye]] W fun e w' => e = .returned (.bool (bankOk yms ycs)) ∧ Below W.heap.size W w') := fun W h => implBankOk_any ⟨.slice ya yn yc, .slice yd ym ye, yms, ycs⟩ W h
  have HBS : Hid (∀ W, RdBk W ⟨.slice ya yn yc, .slice yd ym ye, yms, ycs⟩ → Calls Tryd.prog 12 #[.agg #[.slice ya yn yc, .slice yd ym ye]] W fun e w' => e = .returned (.bool (bankOk yms ycs)) ∧ Below W.heap.size W w') := fun W h => specBankOk_any ⟨.slice ya yn yc, .slice yd ym ye, yms, ycs⟩ W h
  have HOI : Hid (∀ W, Calls Tryd.prog 13 #[.agg #[.int .i64 m.fr, .int .i64 m.to', .int .i64 m.sum, .int .i64 m.cou]] W fun e w' => e = .returned (.bool (movOk m)) ∧ Below W.heap.size W w') := fun W => implMoveOk_any m W
  have HOS : Hid (∀ W, Calls Tryd.prog 14 #[.agg #[.int .i64 m.fr, .int .i64 m.to', .int .i64 m.sum, .int .i64 m.cou]] W fun e w' => e = .returned (.bool (movOk m)) ∧ Below W.heap.size W w') := fun W => specMoveOk_any m W
  generalize bankOk yms ycs = okY at hok HBI HBS
  generalize movOk m = okM at hmo HOI HOS
  refine wp_region_noPanic ?_
  refine wp_region_held_drew (S := fun W => (W.cell? ⟨b5, 0, none⟩ = some (.slice xa xn xc) ∧ W.cell? ⟨b5, 1, none⟩ = some (.slice xd xm xe)) ∧ (W.cell? ⟨b11, 0, none⟩ = some (.slice za zn zc) ∧ W.cell? ⟨b11, 1, none⟩ = some (.slice zd zm ze)) ∧ (W.cell? ⟨b3, 0, none⟩ = some (.slice ya yn yc) ∧ W.cell? ⟨b3, 1, none⟩ = some (.slice yd ym ye)) ∧ (W.cell? ⟨b3 + 1, 0, none⟩ = some (.int .i64 m.fr) ∧ W.cell? ⟨b3 + 1, 1, none⟩ = some (.int .i64 m.to') ∧ W.cell? ⟨b3 + 1, 2, none⟩ = some (.int .i64 m.sum) ∧ W.cell? ⟨b3 + 1, 3, none⟩ = some (.int .i64 m.cou))) (by kernel_rfl) ⟨⟨(Q.bx (b5, ⟨.slice xa xn xc, .slice xd xm xe, xms, xcs⟩) (by simp)).facts.1, (Q.bx (b5, ⟨.slice xa xn xc, .slice xd xm xe, xms, xcs⟩) (by simp)).facts.2.1⟩, ⟨(Q.bx (b11, ⟨.slice za zn zc, .slice zd zm ze, xms, xcs⟩) (by simp)).facts.1, (Q.bx (b11, ⟨.slice za zn zc, .slice zd zm ze, xms, xcs⟩) (by simp)).facts.2.1⟩, ⟨(Q.bx (b3, ⟨.slice ya yn yc, .slice yd ym ye, yms, ycs⟩) (by simp)).facts.1, (Q.bx (b3, ⟨.slice ya yn yc, .slice yd ym ye, yms, ycs⟩) (by simp)).facts.2.1⟩, (Q.mx (b3 + 1, m) (by simp)).facts⟩ (fun hS => ?_)
  replace Q := Q.below ((Below.refl _ _).drew)
  revert hS
  revert Q
  generalize W6.drew = V
  intro Q hS
  refine tkG 0 48 hS ?_
  try simp only [Act.put, List.setIfInBounds_toArray, List.set_cons_zero, List.set_cons_succ]
  refine tkG 1 49 hS ?_
  try simp only [Act.put, List.setIfInBounds_toArray, List.set_cons_zero, List.set_cons_succ]
  refine tkG 2 50 hS ?_
  try simp only [Act.put, List.setIfInBounds_toArray, List.set_cons_zero, List.set_cons_succ]
  refine tkG 3 51 hS ?_
  try simp only [Act.put, List.setIfInBounds_toArray, List.set_cons_zero, List.set_cons_succ]
  refine tkG 4 52 hS ?_
  try simp only [Act.put, List.setIfInBounds_toArray, List.set_cons_zero, List.set_cons_succ]
  refine tkG 5 53 hS ?_
  try simp only [Act.put, List.setIfInBounds_toArray, List.set_cons_zero, List.set_cons_succ]
  refine wpAnyH_ready (rs := [6]) (by kernel_rfl) (by simp) ?_
  refine AllReadyH.cons rfl (fun K hK => ?_) AllReadyH.nil
  go_simp
  refine (likeBank_same ⟨.slice xa xn xc, .slice xd xm xe, xms, xcs⟩ ⟨.slice za zn zc, .slice zd zm ze, xms, xcs⟩ _ (Q.rb (b5, ⟨.slice xa xn xc, .slice xd xm xe, xms, xcs⟩) (by simp)) (Q.rb (b11, ⟨.slice za zn zc, .slice zd zm ze, xms, xcs⟩) (by simp)) rfl rfl).mono ?_
  rintro e V1 ⟨rfl, hb⟩
  replace Q := Q.below hb
  clear hb
  refine hK.out _ _ ⟨⟨(Q.bx (b5, ⟨.slice xa xn xc, .slice xd xm xe, xms, xcs⟩) (by simp)).facts.1, (Q.bx (b5, ⟨.slice xa xn xc, .slice xd xm xe, xms, xcs⟩) (by simp)).facts.2.1⟩, ⟨(Q.bx (b11, ⟨.slice za zn zc, .slice zd zm ze, xms, xcs⟩) (by simp)).facts.1, (Q.bx (b11, ⟨.slice za zn zc, .slice zd zm ze, xms, xcs⟩) (by simp)).facts.2.1⟩, ⟨(Q.bx (b3, ⟨.slice ya yn yc, .slice yd ym ye, yms, ycs⟩) (by simp)).facts.1, (Q.bx (b3, ⟨.slice ya yn yc, .slice yd ym ye, yms, ycs⟩) (by simp)).facts.2.1⟩, (Q.mx (b3 + 1, m) (by simp)).facts⟩ (fun hS2 => ?_)
  clear hK K hS
  have hS := hS2
  clear hS2
  try simp only [List.setIfInBounds_toArray, List.set_cons_zero, List.set_cons_succ]
  refine tkG 7 55 hS ?_
  try simp only [Act.put, List.setIfInBounds_toArray, List.set_cons_zero, List.set_cons_succ]
  refine tkG 8 56 hS ?_
  try simp only [Act.put, List.setIfInBounds_toArray, List.set_cons_zero, List.set_cons_succ]
  refine tkG 9 57 hS ?_
  try simp only [Act.put, List.setIfInBounds_toArray, List.set_cons_zero, List.set_cons_succ]
  refine tkG 10 58 hS ?_
  try simp only [Act.put, List.setIfInBounds_toArray, List.set_cons_zero, List.set_cons_succ]
  refine tkG 12 60 hS ?_
  try simp only [Act.put, List.setIfInBounds_toArray, List.set_cons_zero, List.set_cons_succ]
  refine wpAnyH_ready (rs := [11]) (by kernel_rfl) (by simp) ?_
  refine AllReadyH.cons rfl (fun K hK => ?_) AllReadyH.nil
  go_simp
  refine (HBI.out _ (Q.rb (b3, ⟨.slice ya yn yc, .slice yd ym ye, yms, ycs⟩) (by simp))).mono ?_
  rintro e V1 ⟨rfl, hb⟩
  replace Q := Q.below hb
  clear hb
  refine hK.out _ _ ⟨⟨(Q.bx (b5, ⟨.slice xa xn xc, .slice xd xm xe, xms, xcs⟩) (by simp)).facts.1, (Q.bx (b5, ⟨.slice xa xn xc, .slice xd xm xe, xms, xcs⟩) (by simp)).facts.2.1⟩, ⟨(Q.bx (b11, ⟨.slice za zn zc, .slice zd zm ze, xms, xcs⟩) (by simp)).facts.1, (Q.bx (b11, ⟨.slice za zn zc, .slice zd zm ze, xms, xcs⟩) (by simp)).facts.2.1⟩, ⟨(Q.bx (b3, ⟨.slice ya yn yc, .slice yd ym ye, yms, ycs⟩) (by simp)).facts.1, (Q.bx (b3, ⟨.slice ya yn yc, .slice yd ym ye, yms, ycs⟩) (by simp)).facts.2.1⟩, (Q.mx (b3 + 1, m) (by simp)).facts⟩ (fun hS2 => ?_)
  clear hK K hS
  have hS := hS2
  clear hS2
  try simp only [List.setIfInBounds_toArray, List.set_cons_zero, List.set_cons_succ]
  refine wpAnyH_ready (rs := [13]) (by kernel_rfl) (by simp) ?_
  refine AllReadyH.cons rfl (fun K hK => ?_) AllReadyH.nil
  go_simp
  refine (HBS.out _ (Q.rb (b3, ⟨.slice ya yn yc, .slice yd ym ye, yms, ycs⟩) (by simp))).mono ?_
  rintro e V1 ⟨rfl, hb⟩
  replace Q := Q.below hb
  clear hb
  refine hK.out _ _ ⟨⟨(Q.bx (b5, ⟨.slice xa xn xc, .slice xd xm xe, xms, xcs⟩) (by simp)).facts.1, (Q.bx (b5, ⟨.slice xa xn xc, .slice xd xm xe, xms, xcs⟩) (by simp)).facts.2.1⟩, ⟨(Q.bx (b11, ⟨.slice za zn zc, .slice zd zm ze, xms, xcs⟩) (by simp)).facts.1, (Q.bx (b11, ⟨.slice za zn zc, .slice zd zm ze, xms, xcs⟩) (by simp)).facts.2.1⟩, ⟨(Q.bx (b3, ⟨.slice ya yn yc, .slice yd ym ye, yms, ycs⟩) (by simp)).facts.1, (Q.bx (b3, ⟨.slice ya yn yc, .slice yd ym ye, yms, ycs⟩) (by simp)).facts.2.1⟩, (Q.mx (b3 + 1, m) (by simp)).facts⟩ (fun hS2 => ?_)
  clear hK K hS
  have hS := hS2
  clear hS2
  try simp only [List.setIfInBounds_toArray, List.set_cons_zero, List.set_cons_succ]
  refine tkG 14 62 hS ?_
  try simp only [Act.put, List.setIfInBounds_toArray, List.set_cons_zero, List.set_cons_succ]
  refine tkG 15 63 hS ?_
  try simp only [Act.put, List.setIfInBounds_toArray, List.set_cons_zero, List.set_cons_succ]
  refine tkG 16 64 hS ?_
  try simp only [Act.put, List.setIfInBounds_toArray, List.set_cons_zero, List.set_cons_succ]
  refine tkG 17 65 hS ?_
  try simp only [Act.put, List.setIfInBounds_toArray, List.set_cons_zero, List.set_cons_succ]
  refine tkG 19 67 hS ?_
  try simp only [Act.put, List.setIfInBounds_toArray, List.set_cons_zero, List.set_cons_succ]
  refine wpAnyH_ready (rs := [18]) (by kernel_rfl) (by simp) ?_
  refine AllReadyH.cons rfl (fun K hK => ?_) AllReadyH.nil
  go_simp
  refine (HOI.out _).mono ?_
  rintro e V1 ⟨rfl, hb⟩
  replace Q := Q.below hb
  clear hb
  refine hK.out _ _ ⟨⟨(Q.bx (b5, ⟨.slice xa xn xc, .slice xd xm xe, xms, xcs⟩) (by simp)).facts.1, (Q.bx (b5, ⟨.slice xa xn xc, .slice xd xm xe, xms, xcs⟩) (by simp)).facts.2.1⟩, ⟨(Q.bx (b11, ⟨.slice za zn zc, .slice zd zm ze, xms, xcs⟩) (by simp)).facts.1, (Q.bx (b11, ⟨.slice za zn zc, .slice zd zm ze, xms, xcs⟩) (by simp)).facts.2.1⟩, ⟨(Q.bx (b3, ⟨.slice ya yn yc, .slice yd ym ye, yms, ycs⟩) (by simp)).facts.1, (Q.bx (b3, ⟨.slice ya yn yc, .slice yd ym ye, yms, ycs⟩) (by simp)).facts.2.1⟩, (Q.mx (b3 + 1, m) (by simp)).facts⟩ (fun hS2 => ?_)
  clear hK K hS
  have hS := hS2
  clear hS2
  try simp only [List.setIfInBounds_toArray, List.set_cons_zero, List.set_cons_succ]
  refine wpAnyH_ready (rs := [20]) (by kernel_rfl) (by simp) ?_
  refine AllReadyH.cons rfl (fun K hK => ?_) AllReadyH.nil
  go_simp
  refine (HOS.out _).mono ?_
  rintro e V1 ⟨rfl, hb⟩
  replace Q := Q.below hb
  clear hb
  refine hK.out _ _ ⟨⟨(Q.bx (b5, ⟨.slice xa xn xc, .slice xd xm xe, xms, xcs⟩) (by simp)).facts.1, (Q.bx (b5, ⟨.slice xa xn xc, .slice xd xm xe, xms, xcs⟩) (by simp)).facts.2.1⟩, ⟨(Q.bx (b11, ⟨.slice za zn zc, .slice zd zm ze, xms, xcs⟩) (by simp)).facts.1, (Q.bx (b11, ⟨.slice za zn zc, .slice zd zm ze, xms, xcs⟩) (by simp)).facts.2.1⟩, ⟨(Q.bx (b3, ⟨.slice ya yn yc, .slice yd ym ye, yms, ycs⟩) (by simp)).facts.1, (Q.bx (b3, ⟨.slice ya yn yc, .slice yd ym ye, yms, ycs⟩) (by simp)).facts.2.1⟩, (Q.mx (b3 + 1, m) (by simp)).facts⟩ (fun hS2 => ?_)
  clear hK K hS
  have hS := hS2
  clear hS2
  try simp only [List.setIfInBounds_toArray, List.set_cons_zero, List.set_cons_succ]
  refine tkG 21 69 hS ?_
  try simp only [Act.put, List.setIfInBounds_toArray, List.set_cons_zero, List.set_cons_succ]
  refine tkG 22 70 hS ?_
  try simp only [Act.put, List.setIfInBounds_toArray, List.set_cons_zero, List.set_cons_succ]
  refine wpAnyH_done (by kernel_rfl) ?_ _
  refine NoPanic.normal ?_
  clear hS
  clear hkk hok hmo HBI HBS HOI HOS
  obtain ⟨c0, c1, -, -⟩ := (Q.bx (b7, ⟨.slice aa an ac, .slice ad am ae, ams, acs⟩) (by simp)).facts
  simp only at c0 c1
  go_wp2_with fail
  refine (HS.out _ (Q.rb (b7, ⟨.slice aa an ac, .slice ad am ae, ams, acs⟩) (by simp)) (Q.rt ((.slice (some ⟨q, 0, none⟩) ln c), ss) (by simp))).mono ?_
  intro e w7 h2
  obtain ⟨ta, tn, tc, td, tm, te, tf, tg, th, rfl, oT, cT, -, hb⟩ := h2.open
  replace Q := (Q.below hb).putI cT.rd
  clear h2 hb c0 c1 HS
  have hb := below1 w7 (.cells #[.slice ta tn tc, .slice td tm te] 26)
  replace Q := (Q.below hb).putB (X := ⟨.slice ta tn tc, .slice td tm te, R.mon, R.cnt⟩) (boxBk_new _ _ _) (oT.rd.below hb)
  generalize hW : w7.alloc (.cells #[.slice ta tn tc, .slice td tm te] 26) = W7 at Q
  have HW : Hid (w7.alloc (.cells #[.slice ta tn tc, .slice td tm te] 26) = W7) := hW
  obtain ⟨b13, hbb⟩ : ∃ b13, w7.heap.size = b13 := ⟨_, rfl⟩
  rw [hbb] at Q
  have HBB : Hid (w7.heap.size = b13) := hbb
  clear hb
  clear hW hbb
  go_upto_region 11 with fail
  rw [HW.out, HBB.out]
  clear HW HBB oT cT
  have HTI : Hid (∀ W, RdBk W ⟨.slice aa an ac, .slice ad am ae, ams, acs⟩ → Calls Tryd.prog 17 #[.agg #[.slice aa an ac, .slice ad am ae]] W fun e w' => e = .returned (.int .i64 (totR ams acs)) ∧ Below W.heap.size W w') := fun W h => implTotal_any ⟨.slice aa an ac, .slice ad am ae, ams, acs⟩ W h
  have HTS : Hid (∀ W, RdBk W ⟨.slice aa an ac, .slice ad am ae, ams, acs⟩ → Calls Tryd.prog 18 #[.agg #[.slice aa an ac, .slice ad am ae]] W fun e w' => e = .returned (.int .i64 (totR ams acs)) ∧ Below W.heap.size W w') := fun W h => specTotal_any ⟨.slice aa an ac, .slice ad am ae, ams, acs⟩ W h
  have htt : (totR ams acs != totR ams acs) = false := by simp
  generalize htA : totR ams acs = tA at HTI HTS htt
  have HTA : Hid (totR ams acs = tA) := htA
  clear htA
  refine wp_region_noPanic ?_
  refine wp_region_held_drew (S := fun W => (W.cell? ⟨b9, 0, none⟩ = some (.slice ra rn rc) ∧ W.cell? ⟨b9, 1, none⟩ = some (.slice rd rm re)) ∧ (W.cell? ⟨b13, 0, none⟩ = some (.slice ta tn tc) ∧ W.cell? ⟨b13, 1, none⟩ = some (.slice td tm te)) ∧ (W.cell? ⟨b7, 0, none⟩ = some (.slice aa an ac) ∧ W.cell? ⟨b7, 1, none⟩ = some (.slice ad am ae))) (by kernel_rfl) ⟨⟨(Q.bx (b9, ⟨.slice ra rn rc, .slice rd rm re, R.mon, R.cnt⟩) (by simp)).facts.1, (Q.bx (b9, ⟨.slice ra rn rc, .slice rd rm re, R.mon, R.cnt⟩) (by simp)).facts.2.1⟩, ⟨(Q.bx (b13, ⟨.slice ta tn tc, .slice td tm te, R.mon, R.cnt⟩) (by simp)).facts.1, (Q.bx (b13, ⟨.slice ta tn tc, .slice td tm te, R.mon, R.cnt⟩) (by simp)).facts.2.1⟩, ⟨(Q.bx (b7, ⟨.slice aa an ac, .slice ad am ae, ams, acs⟩) (by simp)).facts.1, (Q.bx (b7, ⟨.slice aa an ac, .slice ad am ae, ams, acs⟩) (by simp)).facts.2.1⟩⟩ (fun hS => ?_)
  replace Q := Q.below ((Below.refl _ _).drew)
  revert hS
  revert Q
  generalize W7.drew = V
  intro Q hS
  refine tkG 0 77 hS ?_
  try simp only [Act.put, List.setIfInBounds_toArray, List.set_cons_zero, List.set_cons_succ]
  refine tkG 1 78 hS ?_
  try simp only [Act.put, List.setIfInBounds_toArray, List.set_cons_zero, List.set_cons_succ]
  refine wpAnyH_ready (rs := [2]) (by kernel_rfl) (by simp) ?_
  refine AllReadyH.cons rfl (fun K hK => ?_) AllReadyH.nil
  go_simp
  refine (likeI_same (.slice rf rg rh) (.slice tf tg th) R.cod _ (Q.ri (.slice rf rg rh, R.cod) (by simp)) (Q.ri (.slice tf tg th, R.cod) (by simp))).mono ?_
  rintro e V1 ⟨rfl, hb⟩
  replace Q := Q.below hb
  clear hb
  refine hK.out _ _ ⟨⟨(Q.bx (b9, ⟨.slice ra rn rc, .slice rd rm re, R.mon, R.cnt⟩) (by simp)).facts.1, (Q.bx (b9, ⟨.slice ra rn rc, .slice rd rm re, R.mon, R.cnt⟩) (by simp)).facts.2.1⟩, ⟨(Q.bx (b13, ⟨.slice ta tn tc, .slice td tm te, R.mon, R.cnt⟩) (by simp)).facts.1, (Q.bx (b13, ⟨.slice ta tn tc, .slice td tm te, R.mon, R.cnt⟩) (by simp)).facts.2.1⟩, ⟨(Q.bx (b7, ⟨.slice aa an ac, .slice ad am ae, ams, acs⟩) (by simp)).facts.1, (Q.bx (b7, ⟨.slice aa an ac, .slice ad am ae, ams, acs⟩) (by simp)).facts.2.1⟩⟩ (fun hS2 => ?_)
  clear hK K hS
  have hS := hS2
  clear hS2
  try simp only [List.setIfInBounds_toArray, List.set_cons_zero, List.set_cons_succ]
  refine tkG 3 80 hS ?_
  try simp only [Act.put, List.setIfInBounds_toArray, List.set_cons_zero, List.set_cons_succ]
  refine tkG 4 81 hS ?_
  try simp only [Act.put, List.setIfInBounds_toArray, List.set_cons_zero, List.set_cons_succ]
  refine tkG 5 82 hS ?_
  try simp only [Act.put, List.setIfInBounds_toArray, List.set_cons_zero, List.set_cons_succ]
  refine tkG 6 83 hS ?_
  try simp only [Act.put, List.setIfInBounds_toArray, List.set_cons_zero, List.set_cons_succ]
  refine wpAnyH_ready (rs := [7]) (by kernel_rfl) (by simp) ?_
  refine AllReadyH.cons rfl (fun K hK => ?_) AllReadyH.nil
  go_simp
  refine (likeBank_same ⟨.slice ra rn rc, .slice rd rm re, R.mon, R.cnt⟩ ⟨.slice ta tn tc, .slice td tm te, R.mon, R.cnt⟩ _ (Q.rb (b9, ⟨.slice ra rn rc, .slice rd rm re, R.mon, R.cnt⟩) (by simp)) (Q.rb (b13, ⟨.slice ta tn tc, .slice td tm te, R.mon, R.cnt⟩) (by simp)) rfl rfl).mono ?_
  rintro e V1 ⟨rfl, hb⟩
  replace Q := Q.below hb
  clear hb
  refine hK.out _ _ ⟨⟨(Q.bx (b9, ⟨.slice ra rn rc, .slice rd rm re, R.mon, R.cnt⟩) (by simp)).facts.1, (Q.bx (b9, ⟨.slice ra rn rc, .slice rd rm re, R.mon, R.cnt⟩) (by simp)).facts.2.1⟩, ⟨(Q.bx (b13, ⟨.slice ta tn tc, .slice td tm te, R.mon, R.cnt⟩) (by simp)).facts.1, (Q.bx (b13, ⟨.slice ta tn tc, .slice td tm te, R.mon, R.cnt⟩) (by simp)).facts.2.1⟩, ⟨(Q.bx (b7, ⟨.slice aa an ac, .slice ad am ae, ams, acs⟩) (by simp)).facts.1, (Q.bx (b7, ⟨.slice aa an ac, .slice ad am ae, ams, acs⟩) (by simp)).facts.2.1⟩⟩ (fun hS2 => ?_)
  clear hK K hS
  have hS := hS2
  clear hS2
  try simp only [List.setIfInBounds_toArray, List.set_cons_zero, List.set_cons_succ]
  refine tkG 8 85 hS ?_
  try simp only [Act.put, List.setIfInBounds_toArray, List.set_cons_zero, List.set_cons_succ]
  refine tkG 9 86 hS ?_
  try simp only [Act.put, List.setIfInBounds_toArray, List.set_cons_zero, List.set_cons_succ]
  refine tkG 10 87 hS ?_
  try simp only [Act.put, List.setIfInBounds_toArray, List.set_cons_zero, List.set_cons_succ]
  refine tkG 11 88 hS ?_
  try simp only [Act.put, List.setIfInBounds_toArray, List.set_cons_zero, List.set_cons_succ]
  refine tkG 13 90 hS ?_
  try simp only [Act.put, List.setIfInBounds_toArray, List.set_cons_zero, List.set_cons_succ]
  refine wpAnyH_ready (rs := [12]) (by kernel_rfl) (by simp) ?_
  refine AllReadyH.cons rfl (fun K hK => ?_) AllReadyH.nil
  go_simp
  refine (HTI.out _ (Q.rb (b7, ⟨.slice aa an ac, .slice ad am ae, ams, acs⟩) (by simp))).mono ?_
  rintro e V1 ⟨rfl, hb⟩
  replace Q := Q.below hb
  clear hb
  refine hK.out _ _ ⟨⟨(Q.bx (b9, ⟨.slice ra rn rc, .slice rd rm re, R.mon, R.cnt⟩) (by simp)).facts.1, (Q.bx (b9, ⟨.slice ra rn rc, .slice rd rm re, R.mon, R.cnt⟩) (by simp)).facts.2.1⟩, ⟨(Q.bx (b13, ⟨.slice ta tn tc, .slice td tm te, R.mon, R.cnt⟩) (by simp)).facts.1, (Q.bx (b13, ⟨.slice ta tn tc, .slice td tm te, R.mon, R.cnt⟩) (by simp)).facts.2.1⟩, ⟨(Q.bx (b7, ⟨.slice aa an ac, .slice ad am ae, ams, acs⟩) (by simp)).facts.1, (Q.bx (b7, ⟨.slice aa an ac, .slice ad am ae, ams, acs⟩) (by simp)).facts.2.1⟩⟩ (fun hS2 => ?_)
  clear hK K hS
  have hS := hS2
  clear hS2
  try simp only [List.setIfInBounds_toArray, List.set_cons_zero, List.set_cons_succ]
  refine wpAnyH_ready (rs := [14]) (by kernel_rfl) (by simp) ?_
  refine AllReadyH.cons rfl (fun K hK => ?_) AllReadyH.nil
  go_simp
  refine (HTS.out _ (Q.rb (b7, ⟨.slice aa an ac, .slice ad am ae, ams, acs⟩) (by simp))).mono ?_
  rintro e V1 ⟨rfl, hb⟩
  replace Q := Q.below hb
  clear hb
  refine hK.out _ _ ⟨⟨(Q.bx (b9, ⟨.slice ra rn rc, .slice rd rm re, R.mon, R.cnt⟩) (by simp)).facts.1, (Q.bx (b9, ⟨.slice ra rn rc, .slice rd rm re, R.mon, R.cnt⟩) (by simp)).facts.2.1⟩, ⟨(Q.bx (b13, ⟨.slice ta tn tc, .slice td tm te, R.mon, R.cnt⟩) (by simp)).facts.1, (Q.bx (b13, ⟨.slice ta tn tc, .slice td tm te, R.mon, R.cnt⟩) (by simp)).facts.2.1⟩, ⟨(Q.bx (b7, ⟨.slice aa an ac, .slice ad am ae, ams, acs⟩) (by simp)).facts.1, (Q.bx (b7, ⟨.slice aa an ac, .slice ad am ae, ams, acs⟩) (by simp)).facts.2.1⟩⟩ (fun hS2 => ?_)
  clear hK K hS
  have hS := hS2
  clear hS2
  try simp only [List.setIfInBounds_toArray, List.set_cons_zero, List.set_cons_succ]
  refine tkG 15 92 hS ?_
  try simp only [Act.put, List.setIfInBounds_toArray, List.set_cons_zero, List.set_cons_succ]
  refine tkG 16 93 hS ?_
  try simp only [Act.put, List.setIfInBounds_toArray, List.set_cons_zero, List.set_cons_succ]
  refine tkG 17 94 hS ?_
  try simp only [Act.put, List.setIfInBounds_toArray, List.set_cons_zero, List.set_cons_succ]
  refine wpAnyH_ready (rs := [18]) (by kernel_rfl) (by simp) ?_
  refine AllReadyH.cons rfl (fun K hK => ?_) AllReadyH.nil
  go_simp
  refine (implNewBank_any _).mono ?_
  intro e V1 h2
  obtain ⟨na, nn, nc, nd, nm, ne, rfl, oN, hb⟩ := h2.open
  replace Q := Q.below hb
  replace oN := oN.rd
  clear h2 hb
  refine hK.out _ _ ⟨⟨(Q.bx (b9, ⟨.slice ra rn rc, .slice rd rm re, R.mon, R.cnt⟩) (by simp)).facts.1, (Q.bx (b9, ⟨.slice ra rn rc, .slice rd rm re, R.mon, R.cnt⟩) (by simp)).facts.2.1⟩, ⟨(Q.bx (b13, ⟨.slice ta tn tc, .slice td tm te, R.mon, R.cnt⟩) (by simp)).facts.1, (Q.bx (b13, ⟨.slice ta tn tc, .slice td tm te, R.mon, R.cnt⟩) (by simp)).facts.2.1⟩, ⟨(Q.bx (b7, ⟨.slice aa an ac, .slice ad am ae, ams, acs⟩) (by simp)).facts.1, (Q.bx (b7, ⟨.slice aa an ac, .slice ad am ae, ams, acs⟩) (by simp)).facts.2.1⟩⟩ (fun hS2 => ?_)
  clear hK K hS
  have hS := hS2
  clear hS2
  try simp only [List.setIfInBounds_toArray, List.set_cons_zero, List.set_cons_succ]
  refine wpAnyH_ready (rs := [19]) (by kernel_rfl) (by simp) ?_
  refine AllReadyH.cons rfl (fun K hK => ?_) AllReadyH.nil
  go_simp
  refine (specNewBank_any _).mono ?_
  intro e V2 h2
  obtain ⟨ka, kn, kc, kd, km, ke, rfl, oK, hb⟩ := h2.open
  replace Q := Q.below hb
  replace oN := oN.below hb
  replace oK := oK.rd
  clear h2 hb
  refine hK.out _ _ ⟨⟨(Q.bx (b9, ⟨.slice ra rn rc, .slice rd rm re, R.mon, R.cnt⟩) (by simp)).facts.1, (Q.bx (b9, ⟨.slice ra rn rc, .slice rd rm re, R.mon, R.cnt⟩) (by simp)).facts.2.1⟩, ⟨(Q.bx (b13, ⟨.slice ta tn tc, .slice td tm te, R.mon, R.cnt⟩) (by simp)).facts.1, (Q.bx (b13, ⟨.slice ta tn tc, .slice td tm te, R.mon, R.cnt⟩) (by simp)).facts.2.1⟩, ⟨(Q.bx (b7, ⟨.slice aa an ac, .slice ad am ae, ams, acs⟩) (by simp)).facts.1, (Q.bx (b7, ⟨.slice aa an ac, .slice ad am ae, ams, acs⟩) (by simp)).facts.2.1⟩⟩ (fun hS2 => ?_)
  clear hK K hS
  have hS := hS2
  clear hS2
  try simp only [List.setIfInBounds_toArray, List.set_cons_zero, List.set_cons_succ]
  refine wpAnyH_ready (rs := [20]) (by kernel_rfl) (by simp) ?_
  refine AllReadyH.cons rfl (fun K hK => ?_) AllReadyH.nil
  go_simp
  refine (likeBank_same ⟨.slice na nn nc, .slice nd nm ne, newM, newC⟩ ⟨.slice ka kn kc, .slice kd km ke, newM, newC⟩ _ oN oK rfl rfl).mono ?_
  rintro e V1 ⟨rfl, hb⟩
  replace Q := Q.below hb
  clear oN oK
  clear hb
  refine hK.out _ _ ⟨⟨(Q.bx (b9, ⟨.slice ra rn rc, .slice rd rm re, R.mon, R.cnt⟩) (by simp)).facts.1, (Q.bx (b9, ⟨.slice ra rn rc, .slice rd rm re, R.mon, R.cnt⟩) (by simp)).facts.2.1⟩, ⟨(Q.bx (b13, ⟨.slice ta tn tc, .slice td tm te, R.mon, R.cnt⟩) (by simp)).facts.1, (Q.bx (b13, ⟨.slice ta tn tc, .slice td tm te, R.mon, R.cnt⟩) (by simp)).facts.2.1⟩, ⟨(Q.bx (b7, ⟨.slice aa an ac, .slice ad am ae, ams, acs⟩) (by simp)).facts.1, (Q.bx (b7, ⟨.slice aa an ac, .slice ad am ae, ams, acs⟩) (by simp)).facts.2.1⟩⟩ (fun hS2 => ?_)
  clear hK K hS
  have hS := hS2
  clear hS2
  try simp only [List.setIfInBounds_toArray, List.set_cons_zero, List.set_cons_succ]
  refine tkG 21 98 hS ?_
  try simp only [Act.put, List.setIfInBounds_toArray, List.set_cons_zero, List.set_cons_succ]
  refine tkG 22 99 hS ?_
  try simp only [Act.put, List.setIfInBounds_toArray, List.set_cons_zero, List.set_cons_succ]
  refine wpAnyH_done (by kernel_rfl) ?_ _
  refine NoPanic.normal ?_
  clear hS
  clear HTS htt
  go_upto_region 13 with fail
  go_cut [120] (fun t120 W => t120 = .bool false ∧ FQ w W [(b5, ⟨.slice xa xn xc, .slice xd xm xe, xms, xcs⟩), (b3, ⟨.slice ya yn yc, .slice yd ym ye, yms, ycs⟩)] [(b3 + 1, m)] [] [])
  case first =>
    have HSA : Hid (∀ W, RdBk W ⟨.slice aa an ac, .slice ad am ae, ams, acs⟩ → Calls Tryd.prog 12 #[.agg #[.slice aa an ac, .slice ad am ae]] W fun e w' => e = .returned (.bool (bankOk ams acs)) ∧ Below W.heap.size W w') := fun W h => specBankOk_any ⟨.slice aa an ac, .slice ad am ae, ams, acs⟩ W h
    cases hoA : bankOk ams acs with
    | false =>
      rw [hoA] at HSA
      clear hoA
      refine wp_region_noPanic ?_
      refine wp_region_held_drew (S := fun W => (W.cell? ⟨b7, 0, none⟩ = some (.slice aa an ac) ∧ W.cell? ⟨b7, 1, none⟩ = some (.slice ad am ae)) ∧ (W.cell? ⟨b9, 0, none⟩ = some (.slice ra rn rc) ∧ W.cell? ⟨b9, 1, none⟩ = some (.slice rd rm re))) (by kernel_rfl) ⟨⟨(Q.bx (b7, ⟨.slice aa an ac, .slice ad am ae, ams, acs⟩) (by simp)).facts.1, (Q.bx (b7, ⟨.slice aa an ac, .slice ad am ae, ams, acs⟩) (by simp)).facts.2.1⟩, ⟨(Q.bx (b9, ⟨.slice ra rn rc, .slice rd rm re, R.mon, R.cnt⟩) (by simp)).facts.1, (Q.bx (b9, ⟨.slice ra rn rc, .slice rd rm re, R.mon, R.cnt⟩) (by simp)).facts.2.1⟩⟩ (fun hS => ?_)
      replace Q := Q.below ((Below.refl _ _).drew)
      revert hS
      revert Q
      generalize V1.drew = V
      intro Q hS
      refine tkG 0 100 hS ?_
      try simp only [Act.put, List.setIfInBounds_toArray, List.set_cons_zero, List.set_cons_succ]
      refine wpAnyH_ready (rs := [1]) (by kernel_rfl) (by simp) ?_
      refine AllReadyH.cons rfl (fun K hK => ?_) AllReadyH.nil
      go_simp
      refine (HSA.out _ (Q.rb (b7, ⟨.slice aa an ac, .slice ad am ae, ams, acs⟩) (by simp))).mono ?_
      rintro e V1 ⟨rfl, hb⟩
      replace Q := Q.below hb
      clear hb
      refine hK.out _ _ ⟨⟨(Q.bx (b7, ⟨.slice aa an ac, .slice ad am ae, ams, acs⟩) (by simp)).facts.1, (Q.bx (b7, ⟨.slice aa an ac, .slice ad am ae, ams, acs⟩) (by simp)).facts.2.1⟩, ⟨(Q.bx (b9, ⟨.slice ra rn rc, .slice rd rm re, R.mon, R.cnt⟩) (by simp)).facts.1, (Q.bx (b9, ⟨.slice ra rn rc, .slice rd rm re, R.mon, R.cnt⟩) (by simp)).facts.2.1⟩⟩ (fun hS2 => ?_)
      clear hK K hS
      have hS := hS2
      clear hS2
      try simp only [List.setIfInBounds_toArray, List.set_cons_zero, List.set_cons_succ]
      refine tkG 2 102 hS ?_
      try simp only [Act.put, List.setIfInBounds_toArray, List.set_cons_zero, List.set_cons_succ]
      refine tkS 3 103 hS ?_
      try simp only [Act.put, List.setIfInBounds_toArray, List.set_cons_zero, List.set_cons_succ]
      refine tkS 4 104 hS ?_
      try simp only [Act.put, List.setIfInBounds_toArray, List.set_cons_zero, List.set_cons_succ]
      refine tkS 5 105 hS ?_
      try simp only [Act.put, List.setIfInBounds_toArray, List.set_cons_zero, List.set_cons_succ]
      refine tkS 6 106 hS ?_
      try simp only [Act.put, List.setIfInBounds_toArray, List.set_cons_zero, List.set_cons_succ]
      refine tkS 7 107 hS ?_
      try simp only [Act.put, List.setIfInBounds_toArray, List.set_cons_zero, List.set_cons_succ]
      refine tkS 8 108 hS ?_
      try simp only [Act.put, List.setIfInBounds_toArray, List.set_cons_zero, List.set_cons_succ]
      refine tkS 9 109 hS ?_
      try simp only [Act.put, List.setIfInBounds_toArray, List.set_cons_zero, List.set_cons_succ]
      refine tkS 10 110 hS ?_
      try simp only [Act.put, List.setIfInBounds_toArray, List.set_cons_zero, List.set_cons_succ]
      refine tkS 11 111 hS ?_
      try simp only [Act.put, List.setIfInBounds_toArray, List.set_cons_zero, List.set_cons_succ]
      refine tkS 12 112 hS ?_
      try simp only [Act.put, List.setIfInBounds_toArray, List.set_cons_zero, List.set_cons_succ]
      refine tkS 13 113 hS ?_
      try simp only [Act.put, List.setIfInBounds_toArray, List.set_cons_zero, List.set_cons_succ]
      refine tkS 14 114 hS ?_
      try simp only [Act.put, List.setIfInBounds_toArray, List.set_cons_zero, List.set_cons_succ]
      refine tkS 15 115 hS ?_
      try simp only [Act.put, List.setIfInBounds_toArray, List.set_cons_zero, List.set_cons_succ]
      refine tkS 16 116 hS ?_
      try simp only [Act.put, List.setIfInBounds_toArray, List.set_cons_zero, List.set_cons_succ]
      refine tkS 17 117 hS ?_
      try simp only [Act.put, List.setIfInBounds_toArray, List.set_cons_zero, List.set_cons_succ]
      refine tkS 18 118 hS ?_
      try simp only [Act.put, List.setIfInBounds_toArray, List.set_cons_zero, List.set_cons_succ]
      refine tkS 19 119 hS ?_
      try simp only [Act.put, List.setIfInBounds_toArray, List.set_cons_zero, List.set_cons_succ]
      refine tkG 20 120 hS ?_
      try simp only [Act.put, List.setIfInBounds_toArray, List.set_cons_zero, List.set_cons_succ]
      refine wpAnyH_done (by kernel_rfl) ?_ _
      refine NoPanic.normal ?_
      clear hS
      go_wp2
      go_meet
      case rel => exact ⟨rfl, Q.sub (by simp)⟩
    | true =>
      rw [hoA] at HSA
      obtain ⟨t1, t2, t3⟩ := all_tot (bankOk_iff.1 hoA) HRS.out
      rw [← HRA.out] at t1 t2 t3
      rw [HTA.out] at t1
      have HTR : Hid (∀ W, RdBk W ⟨.slice ra rn rc, .slice rd rm re, R.mon, R.cnt⟩ → Calls Tryd.prog 17 #[.agg #[.slice ra rn rc, .slice rd rm re]] W fun e w' => e = .returned (.int .i64 tA) ∧ Below W.heap.size W w') := fun W h => by have := implTotal_any ⟨.slice ra rn rc, .slice rd rm re, R.mon, R.cnt⟩ W h; rw [t1] at this; exact this
      have HBR : Hid (∀ W, RdBk W ⟨.slice ra rn rc, .slice rd rm re, R.mon, R.cnt⟩ → Calls Tryd.prog 11 #[.agg #[.slice ra rn rc, .slice rd rm re]] W fun e w' => e = .returned (.bool true) ∧ Below W.heap.size W w') := fun W h => by have := implBankOk_any ⟨.slice ra rn rc, .slice rd rm re, R.mon, R.cnt⟩ W h; rw [t2] at this; exact this
      have hrg : ((rg : Int) != (ln : Int)) = false := by
        have h1 := rdI_len (Q.ri (.slice rf rg rh, R.cod) (by simp))
        have h2 := HLN.out
        simp only at h1
        simp
        omega
      have htt : (tA != tA) = false := by simp
      clear t1 t2 t3 hoA
      refine wp_region_noPanic ?_
      refine wp_region_held_drew (S := fun W => (W.cell? ⟨b7, 0, none⟩ = some (.slice aa an ac) ∧ W.cell? ⟨b7, 1, none⟩ = some (.slice ad am ae)) ∧ (W.cell? ⟨b9, 0, none⟩ = some (.slice ra rn rc) ∧ W.cell? ⟨b9, 1, none⟩ = some (.slice rd rm re))) (by kernel_rfl) ⟨⟨(Q.bx (b7, ⟨.slice aa an ac, .slice ad am ae, ams, acs⟩) (by simp)).facts.1, (Q.bx (b7, ⟨.slice aa an ac, .slice ad am ae, ams, acs⟩) (by simp)).facts.2.1⟩, ⟨(Q.bx (b9, ⟨.slice ra rn rc, .slice rd rm re, R.mon, R.cnt⟩) (by simp)).facts.1, (Q.bx (b9, ⟨.slice ra rn rc, .slice rd rm re, R.mon, R.cnt⟩) (by simp)).facts.2.1⟩⟩ (fun hS => ?_)
      replace Q := Q.below ((Below.refl _ _).drew)
      revert hS
      revert Q
      generalize V1.drew = V
      intro Q hS
      refine tkG 0 100 hS ?_
      try simp only [Act.put, List.setIfInBounds_toArray, List.set_cons_zero, List.set_cons_succ]
      refine wpAnyH_ready (rs := [1]) (by kernel_rfl) (by simp) ?_
      refine AllReadyH.cons rfl (fun K hK => ?_) AllReadyH.nil
      go_simp
      refine (HSA.out _ (Q.rb (b7, ⟨.slice aa an ac, .slice ad am ae, ams, acs⟩) (by simp))).mono ?_
      rintro e V1 ⟨rfl, hb⟩
      replace Q := Q.below hb
      clear hb
      refine hK.out _ _ ⟨⟨(Q.bx (b7, ⟨.slice aa an ac, .slice ad am ae, ams, acs⟩) (by simp)).facts.1, (Q.bx (b7, ⟨.slice aa an ac, .slice ad am ae, ams, acs⟩) (by simp)).facts.2.1⟩, ⟨(Q.bx (b9, ⟨.slice ra rn rc, .slice rd rm re, R.mon, R.cnt⟩) (by simp)).facts.1, (Q.bx (b9, ⟨.slice ra rn rc, .slice rd rm re, R.mon, R.cnt⟩) (by simp)).facts.2.1⟩⟩ (fun hS2 => ?_)
      clear hK K hS
      have hS := hS2
      clear hS2
      try simp only [List.setIfInBounds_toArray, List.set_cons_zero, List.set_cons_succ]
      refine tkG 2 102 hS ?_
      try simp only [Act.put, List.setIfInBounds_toArray, List.set_cons_zero, List.set_cons_succ]
      refine tkG 3 103 hS ?_
      try simp only [Act.put, List.setIfInBounds_toArray, List.set_cons_zero, List.set_cons_succ]
      refine tkG 5 105 hS ?_
      try simp only [Act.put, List.setIfInBounds_toArray, List.set_cons_zero, List.set_cons_succ]
      refine wpAnyH_ready (rs := [4]) (by kernel_rfl) (by simp) ?_
      refine AllReadyH.cons rfl (fun K hK => ?_) AllReadyH.nil
      go_simp
      refine (HTR.out _ (Q.rb (b9, ⟨.slice ra rn rc, .slice rd rm re, R.mon, R.cnt⟩) (by simp))).mono ?_
      rintro e V1 ⟨rfl, hb⟩
      replace Q := Q.below hb
      clear hb
      refine hK.out _ _ ⟨⟨(Q.bx (b7, ⟨.slice aa an ac, .slice ad am ae, ams, acs⟩) (by simp)).facts.1, (Q.bx (b7, ⟨.slice aa an ac, .slice ad am ae, ams, acs⟩) (by simp)).facts.2.1⟩, ⟨(Q.bx (b9, ⟨.slice ra rn rc, .slice rd rm re, R.mon, R.cnt⟩) (by simp)).facts.1, (Q.bx (b9, ⟨.slice ra rn rc, .slice rd rm re, R.mon, R.cnt⟩) (by simp)).facts.2.1⟩⟩ (fun hS2 => ?_)
      clear hK K hS
      have hS := hS2
      clear hS2
      try simp only [List.setIfInBounds_toArray, List.set_cons_zero, List.set_cons_succ]
      refine wpAnyH_ready (rs := [6]) (by kernel_rfl) (by simp) ?_
      refine AllReadyH.cons rfl (fun K hK => ?_) AllReadyH.nil
      go_simp
      refine (HTI.out _ (Q.rb (b7, ⟨.slice aa an ac, .slice ad am ae, ams, acs⟩) (by simp))).mono ?_
      rintro e V1 ⟨rfl, hb⟩
      replace Q := Q.below hb
      clear hb
      refine hK.out _ _ ⟨⟨(Q.bx (b7, ⟨.slice aa an ac, .slice ad am ae, ams, acs⟩) (by simp)).facts.1, (Q.bx (b7, ⟨.slice aa an ac, .slice ad am ae, ams, acs⟩) (by simp)).facts.2.1⟩, ⟨(Q.bx (b9, ⟨.slice ra rn rc, .slice rd rm re, R.mon, R.cnt⟩) (by simp)).facts.1, (Q.bx (b9, ⟨.slice ra rn rc, .slice rd rm re, R.mon, R.cnt⟩) (by simp)).facts.2.1⟩⟩ (fun hS2 => ?_)
      clear hK K hS
      have hS := hS2
      clear hS2
      try simp only [List.setIfInBounds_toArray, List.set_cons_zero, List.set_cons_succ]
      refine tkG 7 107 hS ?_
      try simp only [Act.put, List.setIfInBounds_toArray, List.set_cons_zero, List.set_cons_succ]
      refine tkG 8 108 hS ?_
      try simp only [Act.put, List.setIfInBounds_toArray, List.set_cons_zero, List.set_cons_succ]
      refine tkG 9 109 hS ?_
      try simp only [Act.put, List.setIfInBounds_toArray, List.set_cons_zero, List.set_cons_succ]
      refine wpAnyH_ready (rs := [10]) (by kernel_rfl) (by simp) ?_
      refine AllReadyH.cons rfl (fun K hK => ?_) AllReadyH.nil
      go_simp
      refine (HBR.out _ (Q.rb (b9, ⟨.slice ra rn rc, .slice rd rm re, R.mon, R.cnt⟩) (by simp))).mono ?_
      rintro e V1 ⟨rfl, hb⟩
      replace Q := Q.below hb
      clear hb
      refine hK.out _ _ ⟨⟨(Q.bx (b7, ⟨.slice aa an ac, .slice ad am ae, ams, acs⟩) (by simp)).facts.1, (Q.bx (b7, ⟨.slice aa an ac, .slice ad am ae, ams, acs⟩) (by simp)).facts.2.1⟩, ⟨(Q.bx (b9, ⟨.slice ra rn rc, .slice rd rm re, R.mon, R.cnt⟩) (by simp)).facts.1, (Q.bx (b9, ⟨.slice ra rn rc, .slice rd rm re, R.mon, R.cnt⟩) (by simp)).facts.2.1⟩⟩ (fun hS2 => ?_)
      clear hK K hS
      have hS := hS2
      clear hS2
      try simp only [List.setIfInBounds_toArray, List.set_cons_zero, List.set_cons_succ]
      refine tkG 11 111 hS ?_
      try simp only [Act.put, List.setIfInBounds_toArray, List.set_cons_zero, List.set_cons_succ]
      refine tkG 12 112 hS ?_
      try simp only [Act.put, List.setIfInBounds_toArray, List.set_cons_zero, List.set_cons_succ]
      refine tkG 13 113 hS ?_
      try simp only [Act.put, List.setIfInBounds_toArray, List.set_cons_zero, List.set_cons_succ]
      refine tkG 14 114 hS ?_
      try simp only [Act.put, List.setIfInBounds_toArray, List.set_cons_zero, List.set_cons_succ]
      refine tkG 15 115 hS ?_
      try simp only [Act.put, List.setIfInBounds_toArray, List.set_cons_zero, List.set_cons_succ]
      refine tkG 16 116 hS ?_
      try simp only [Act.put, List.setIfInBounds_toArray, List.set_cons_zero, List.set_cons_succ]
      refine tkG 17 117 hS ?_
      try simp only [Act.put, List.setIfInBounds_toArray, List.set_cons_zero, List.set_cons_succ]
      refine tkG 18 118 hS ?_
      try simp only [Act.put, List.setIfInBounds_toArray, List.set_cons_zero, List.set_cons_succ]
      refine tkG 19 119 hS ?_
      try simp only [Act.put, List.setIfInBounds_toArray, List.set_cons_zero, List.set_cons_succ]
      refine tkG 20 120 hS ?_
      try simp only [Act.put, List.setIfInBounds_toArray, List.set_cons_zero, List.set_cons_succ]
      refine wpAnyH_done (by kernel_rfl) ?_ _
      refine NoPanic.normal ?_
      clear hS
      clear hrg htt
      go_wp2
      go_meet
      case rel => exact ⟨rfl, Q.sub (by simp)⟩
  case rest =>
    clear Q HTI HTA HRA HRS HSZ HL5 HLN HA HI
    obtain ⟨rfl, Q⟩ := hcut
    have HCOD : Hid _ := cod_all yms ycs m
    rcases HCOD.out with ⟨h1, h2, h3⟩ | ⟨h1, h2, h3⟩ | ⟨h1, hbp, hmp, h2, h3⟩
    · obtain ⟨g1, g2, g3⟩ := HX.out
      rw [h1] at g3
      rw [h2] at g1
      rw [h3] at g2
      subst g1
      subst g2
      subst g3
      clear HCOD h1 h2 h3 HX HIM HSM
      obtain ⟨c0, c1, -, -⟩ := (Q.bx (b5, ⟨.slice xa xn xc, .slice xd xm xe, [], []⟩) (by simp)).facts
      try simp only at c0 c1
      go_wp2_with fail
      refine (likeBank_same ⟨.slice xa xn xc, .slice xd xm xe, [], []⟩ ⟨.slice none 0 0, .slice none 0 0, [], []⟩ _ (Q.rb (b5, ⟨.slice xa xn xc, .slice xd xm xe, [], []⟩) (by simp)) (rdBk_zero _) rfl rfl).mono ?_
      rintro e w9 ⟨rfl, hb⟩
      have bel := Q.bel.trans (hb.mono Q.bel.size)
      clear hb c0 c1 Q
      go_wp2
      go_ret
      exact ⟨rfl, bel⟩
    · obtain ⟨g1, g2, g3⟩ := HX.out
      rw [h2] at g1
      rw [h3] at g2
      obtain rfl := g1.symm
      obtain rfl := g2.symm
      have hk1 : (kk == 1) = false := by rw [g3]; rcases h1 with h | h <;> rw [h] <;> rfl
      have hk2 : (kk != 0) = true := by rw [g3]; rcases h1 with h | h <;> rw [h] <;> rfl
      clear HCOD h1 h2 h3 HX HIM HSM g3
      obtain ⟨c0, c1, -, -⟩ := (Q.bx (b5, ⟨.slice xa xn xc, .slice xd xm xe, yms, ycs⟩) (by simp)).facts
      obtain ⟨d0, d1, -, -⟩ := (Q.bx (b3, ⟨.slice ya yn yc, .slice yd ym ye, yms, ycs⟩) (by simp)).facts
      try simp only at c0 c1 d0 d1
      go_wp2_with fail
      refine (likeBank_same ⟨.slice xa xn xc, .slice xd xm xe, yms, ycs⟩ ⟨.slice ya yn yc, .slice yd ym ye, yms, ycs⟩ _ (Q.rb (b5, ⟨.slice xa xn xc, .slice xd xm xe, yms, ycs⟩) (by simp)) (Q.rb (b3, ⟨.slice ya yn yc, .slice yd ym ye, yms, ycs⟩) (by simp)) rfl rfl).mono ?_
      rintro e w9 ⟨rfl, hb⟩
      have bel := Q.bel.trans (hb.mono Q.bel.size)
      clear hb c0 c1 d0 d1 Q
      go_wp2
      go_ret
      exact ⟨rfl, bel⟩
    · obtain ⟨g1, g2, g3⟩ := HX.out
      have hk0 : codR yms ycs m = 0 := h1
      rw [h1] at g3
      subst g3
      obtain ⟨f, t, hf, ht, he⟩ := mov_nat hmp
      obtain ⟨mf, mt, ms, mc⟩ := m
      simp only [Mov.mk.injEq, and_true] at he
      obtain ⟨rfl, rfl⟩ := he
      simp only [Int.toNat_natCast] at h2 h3
      have hag := cod_again hbp hmp hf hk0
      have hko := mov_ok hbp hmp
      rw [← g1, ← g2] at hag hko
      have hxl : xms.length = 8 := hko.1.1.1
      have hxl2 : xcs.length = 8 := hko.1.2.1.1
      have hpm : nthI xms f = if f = t then nthI yms f else nthI yms f - ms := by rw [g1, h2]; exact payM_at hbp.1.1 hf ht
      have hpc : nthI xcs f = nthI ycs f + 1 := by rw [g2, h3]; exact payC_at hbp.2.1.1 hf
      have hb1 := hbp.1.2 f hf
      have hb2 := hbp.2.1.2 f hf
      have hms := hmp.2.2.1
      try simp only at hms
      have HAG : Hid (∀ W, RdBk W ⟨.slice xa xn xc, .slice xd xm xe, xms, xcs⟩ → Calls Tryd.prog 6 #[.agg #[.slice xa xn xc, .slice xd xm xe], .agg #[.int .i64 (f : Int), .int .i64 (t : Int), .int .i64 ms, .int .i64 mc]] W fun e w' => MovRes W (movM xms xcs ⟨(f : Int), (t : Int), ms, mc⟩) (movC xms xcs ⟨(f : Int), (t : Int), ms, mc⟩) 2 e w') := fun W h => by
        have h9 := implMoved_any ⟨.slice xa xn xc, .slice xd xm xe, xms, xcs⟩ ⟨(f : Int), (t : Int), ms, mc⟩ W h (by simp only; omega)
        simp only at h9
        rw [hag] at h9
        exact h9
      have HTX : Hid (∀ W, RdBk W ⟨.slice xa xn xc, .slice xd xm xe, xms, xcs⟩ → Calls Tryd.prog 17 #[.agg #[.slice xa xn xc, .slice xd xm xe]] W fun e w' => e = .returned (.int .i64 (sumTo yms 8)) ∧ Below W.heap.size W w') := fun W h => by
        have h9 := implTotal_any ⟨.slice xa xn xc, .slice xd xm xe, xms, xcs⟩ W h
        simp only at h9
        rw [totR_yes (bankOk_iff.2 hko.1), hko.2] at h9
        exact h9
      have HTB : Hid (∀ W, RdBk W ⟨.slice ya yn yc, .slice yd ym ye, yms, ycs⟩ → Calls Tryd.prog 17 #[.agg #[.slice ya yn yc, .slice yd ym ye]] W fun e w' => e = .returned (.int .i64 (sumTo yms 8)) ∧ Below W.heap.size W w') := fun W h => by
        have h9 := implTotal_any ⟨.slice ya yn yc, .slice yd ym ye, yms, ycs⟩ W h
        simp only at h9
        rw [totR_yes (bankOk_iff.2 hbp)] at h9
        exact h9
      have HBX : Hid (∀ W, RdBk W ⟨.slice xa xn xc, .slice xd xm xe, xms, xcs⟩ → Calls Tryd.prog 11 #[.agg #[.slice xa xn xc, .slice xd xm xe]] W fun e w' => e = .returned (.bool true) ∧ Below W.heap.size W w') := fun W h => by
        have h9 := implBankOk_any ⟨.slice xa xn xc, .slice xd xm xe, xms, xcs⟩ W h
        simp only at h9
        rw [bankOk_iff.2 hko.1] at h9
        exact h9
      have hss : (sumTo yms 8 == sumTo yms 8) = true := by simp
      have exn := rdI_len (Q.rb (b5, ⟨.slice xa xn xc, .slice xd xm xe, xms, xcs⟩) (by simp)).mon
      have exm := rdI_len (Q.rb (b5, ⟨.slice xa xn xc, .slice xd xm xe, xms, xcs⟩) (by simp)).cnt
      have eyn := rdI_len (Q.rb (b3, ⟨.slice ya yn yc, .slice yd ym ye, yms, ycs⟩) (by simp)).mon
      have eym := rdI_len (Q.rb (b3, ⟨.slice ya yn yc, .slice yd ym ye, yms, ycs⟩) (by simp)).cnt
      try simp only at exn exm eyn eym
      rw [hxl] at exn
      rw [hxl2] at exm
      rw [hbp.1.1] at eyn
      rw [hbp.2.1.1] at eym
      subst exn
      subst exm
      subst eyn
      subst eym
      obtain ⟨q0, o0, e0, k0⟩ := (Q.rb (b5, ⟨.slice xa 8 xc, .slice xd 8 xe, xms, xcs⟩) (by simp)).mon.nth f (by simp only; omega)
      obtain ⟨q1, o1, e1, k1⟩ := (Q.rb (b5, ⟨.slice xa 8 xc, .slice xd 8 xe, xms, xcs⟩) (by simp)).cnt.nth f (by simp only; omega)
      obtain ⟨q2, o2, e2, k2⟩ := (Q.rb (b3, ⟨.slice ya 8 yc, .slice yd 8 ye, yms, ycs⟩) (by simp)).mon.nth f (by simp only; rw [hbp.1.1]; omega)
      obtain ⟨q3, o3, e3, k3⟩ := (Q.rb (b3, ⟨.slice ya 8 yc, .slice yd 8 ye, yms, ycs⟩) (by simp)).cnt.nth f (by simp only; rw [hbp.2.1.1]; omega)
      subst e0
      subst e1
      subst e2
      subst e3
      have lx0 : f < xms.length := by omega
      have lx1 : f < xcs.length := by omega
      have ly0 : f < yms.length := by rw [hbp.1.1]; exact hf
      have ly1 : f < ycs.length := by rw [hbp.2.1.1]; exact hf
      clear k0 k1 k2 k3 hko hag hk0 g1 g2 h1 h2 h3 hbp hmp HX HIM HSM HCOD hxl hxl2
      obtain ⟨vy, hvy⟩ : ∃ z, z = nthI yms f := ⟨_, rfl⟩
      obtain ⟨cy, hcy⟩ : ∃ z, z = nthI ycs f := ⟨_, rfl⟩
      rw [← hvy] at hpm hb1
      rw [← hcy] at hpc hb2
      have HVY : Hid (nthI yms f = vy) := hvy.symm
      have HCY : Hid (nthI ycs f = cy) := hcy.symm
      have HCX : Hid (nthI xcs f = cy + 1) := hpc
      have HVX : Hid (nthI xms f = if f = t then vy else vy - ms) := hpm
      have hwv : IntKind.i64.wrap (vy - ms) = vy - ms := by rw [IntKind.wrap_i64]; omega
      have hwc : IntKind.i64.wrap (cy + 1) = cy + 1 := by rw [IntKind.wrap_i64]; omega
      have hfl : (f : Int) < 8 := by omega
      have hec : (cy + 1 == cy + 1) = true := by simp
      clear hvy hcy hpm hpc
      obtain ⟨c0, c1, -, -⟩ := (Q.bx (b5, ⟨.slice (some ⟨q0, o0, none⟩) 8 xc, .slice (some ⟨q1, o1, none⟩) 8 xe, xms, xcs⟩) (by simp)).facts
      obtain ⟨p0, p1, p2, p3⟩ := (Q.mx (b3 + 1, ⟨(f : Int), (t : Int), ms, mc⟩) (by simp)).facts
      simp only at c0 c1 p0 p1 p2 p3
      go_wp2_with fail
      refine (HAG.out _ (Q.rb (b5, ⟨.slice (some ⟨q0, o0, none⟩) 8 xc, .slice (some ⟨q1, o1, none⟩) 8 xe, xms, xcs⟩) (by simp))).mono ?_
      intro e w9 h2
      obtain ⟨ua, un, uc, ud, um, ue, rfl, -, hb⟩ := h2.open
      replace Q := Q.below hb
      clear h2 hb c0 c1 p0 p1 p2 p3 HAG
      replace Q := Q.below (below1 w9 (.cells #[.slice ua un uc, .slice ud um ue] 26))
      go_wp2_with fail
      generalize w9.alloc (.cells #[.slice ua un uc, .slice ud um ue] 26) = W9 at Q ⊢
      refine wp_region_noPanic ?_
      refine wp_region_held_drew (S := fun W => W.cell? ⟨b3, 0, none⟩ = some (.slice (some ⟨q2, o2, none⟩) 8 yc) ∧ W.cell? ⟨b3 + 1, 0, none⟩ = some (.int .i64 (f : Int)) ∧ W.cell? ⟨b3 + 1, 2, none⟩ = some (.int .i64 ms) ∧ W.cell? ⟨q2, o2 + f, none⟩ = some (.int .i64 vy)) (by kernel_rfl) ⟨(Q.bx (b3, ⟨.slice (some ⟨q2, o2, none⟩) 8 yc, .slice (some ⟨q3, o3, none⟩) 8 ye, yms, ycs⟩) (by simp)).facts.1, (Q.mx (b3 + 1, ⟨(f : Int), (t : Int), ms, mc⟩) (by simp)).facts.1, (Q.mx (b3 + 1, ⟨(f : Int), (t : Int), ms, mc⟩) (by simp)).facts.2.2.1, ((rdI_cell (Q.rb (b3, ⟨.slice (some ⟨q2, o2, none⟩) 8 yc, .slice (some ⟨q3, o3, none⟩) 8 ye, yms, ycs⟩) (by simp)).mon ly0).trans (by rw [HVY.out]))⟩ (fun hS => ?_)
      replace Q := Q.below ((Below.refl _ _).drew)
      revert hS
      revert Q
      generalize W9.drew = V9
      intro Q hS
      refine tkG 0 137 hS ?_
      try simp only [Act.put, List.setIfInBounds_toArray, List.set_cons_zero, List.set_cons_succ]
      refine tkG 1 138 hS ?_
      try simp only [Act.put, List.setIfInBounds_toArray, List.set_cons_zero, List.set_cons_succ]
      refine tkG 2 139 hS ?_
      try simp only [Act.put, List.setIfInBounds_toArray, List.set_cons_zero, List.set_cons_succ]
      refine tkG 3 140 hS ?_
      try simp only [Act.put, List.setIfInBounds_toArray, List.set_cons_zero, List.set_cons_succ]
      refine tkG 4 141 hS ?_
      try simp only [Act.put, List.setIfInBounds_toArray, List.set_cons_zero, List.set_cons_succ]
      refine tkG 5 142 hS ?_
      try simp only [Act.put, List.setIfInBounds_toArray, List.set_cons_zero, List.set_cons_succ]
      refine tkG 6 143 hS ?_
      try simp only [Act.put, List.setIfInBounds_toArray, List.set_cons_zero, List.set_cons_succ]
      refine tkG 7 144 hS ?_
      try simp only [Act.put, List.setIfInBounds_toArray, List.set_cons_zero, List.set_cons_succ]
      refine tkG 8 145 hS ?_
      try simp only [Act.put, List.setIfInBounds_toArray, List.set_cons_zero, List.set_cons_succ]
      refine tkG 9 17 hS ?_
      try simp only [Act.put, List.setIfInBounds_toArray, List.set_cons_zero, List.set_cons_succ]
      refine wpAnyH_done (by kernel_rfl) ?_ _
      refine NoPanic.normal ?_
      clear hS
      by_cases hft : f = t
      · subst hft
        have HVX2 : Hid (nthI xms f = vy) := by rw [HVX.out, if_pos rfl]; rfl
        have hev : (vy == vy) = true := by simp
        obtain ⟨p0, p1, -, -⟩ := (Q.mx (b3 + 1, ⟨(f : Int), (f : Int), ms, mc⟩) (by simp)).facts
        have d0 := (Q.bx (b3, ⟨.slice (some ⟨q2, o2, none⟩) 8 yc, .slice (some ⟨q3, o3, none⟩) 8 ye, yms, ycs⟩) (by simp)).facts.1
        have k2 := rdI_cell (Q.rb (b3, ⟨.slice (some ⟨q2, o2, none⟩) 8 yc, .slice (some ⟨q3, o3, none⟩) 8 ye, yms, ycs⟩) (by simp)).mon ly0
        rw [HVY.out] at k2
        simp only at p0 p1 d0
        go_wp2_with fail
        clear p0 p1 d0 k2
        refine wp_region_noPanic ?_
        refine wp_region_held_drew (S := fun W => W.cell? ⟨b5, 0, none⟩ = some (.slice (some ⟨q0, o0, none⟩) 8 xc) ∧ W.cell? ⟨b5, 1, none⟩ = some (.slice (some ⟨q1, o1, none⟩) 8 xe) ∧ W.cell? ⟨b3, 0, none⟩ = some (.slice (some ⟨q2, o2, none⟩) 8 yc) ∧ W.cell? ⟨b3, 1, none⟩ = some (.slice (some ⟨q3, o3, none⟩) 8 ye) ∧ W.cell? ⟨b3 + 1, 0, none⟩ = some (.int .i64 (f : Int)) ∧ W.cell? ⟨q0, o0 + f, none⟩ = some (.int .i64 (vy)) ∧ W.cell? ⟨q1, o1 + f, none⟩ = some (.int .i64 (cy + 1)) ∧ W.cell? ⟨q3, o3 + f, none⟩ = some (.int .i64 cy)) (by kernel_rfl) ⟨(Q.bx (b5, ⟨.slice (some ⟨q0, o0, none⟩) 8 xc, .slice (some ⟨q1, o1, none⟩) 8 xe, xms, xcs⟩) (by simp)).facts.1, (Q.bx (b5, ⟨.slice (some ⟨q0, o0, none⟩) 8 xc, .slice (some ⟨q1, o1, none⟩) 8 xe, xms, xcs⟩) (by simp)).facts.2.1, (Q.bx (b3, ⟨.slice (some ⟨q2, o2, none⟩) 8 yc, .slice (some ⟨q3, o3, none⟩) 8 ye, yms, ycs⟩) (by simp)).facts.1, (Q.bx (b3, ⟨.slice (some ⟨q2, o2, none⟩) 8 yc, .slice (some ⟨q3, o3, none⟩) 8 ye, yms, ycs⟩) (by simp)).facts.2.1, (Q.mx (b3 + 1, ⟨(f : Int), (f : Int), ms, mc⟩) (by simp)).facts.1, ((rdI_cell (Q.rb (b5, ⟨.slice (some ⟨q0, o0, none⟩) 8 xc, .slice (some ⟨q1, o1, none⟩) 8 xe, xms, xcs⟩) (by simp)).mon lx0).trans (by rw [HVX2.out])), ((rdI_cell (Q.rb (b5, ⟨.slice (some ⟨q0, o0, none⟩) 8 xc, .slice (some ⟨q1, o1, none⟩) 8 xe, xms, xcs⟩) (by simp)).cnt lx1).trans (by rw [HCX.out])), ((rdI_cell (Q.rb (b3, ⟨.slice (some ⟨q2, o2, none⟩) 8 yc, .slice (some ⟨q3, o3, none⟩) 8 ye, yms, ycs⟩) (by simp)).cnt ly1).trans (by rw [HCY.out]))⟩ (fun hS => ?_)
        replace Q := Q.below ((Below.refl _ _).drew)
        revert hS
        revert Q
        generalize V9.drew = V9b
        intro Q hS
        refine tkG 0 157 hS ?_
        try simp only [Act.put, List.setIfInBounds_toArray, List.set_cons_zero, List.set_cons_succ]
        refine wpAnyH_ready (rs := [1]) (by kernel_rfl) (by simp) ?_
        refine AllReadyH.cons rfl (fun K hK => ?_) AllReadyH.nil
        go_simp
        refine (HBX.out _ (Q.rb (b5, ⟨.slice (some ⟨q0, o0, none⟩) 8 xc, .slice (some ⟨q1, o1, none⟩) 8 xe, xms, xcs⟩) (by simp))).mono ?_
        rintro e V1 ⟨rfl, hb⟩
        replace Q := Q.below hb
        clear hb
        refine hK.out _ _ ⟨(Q.bx (b5, ⟨.slice (some ⟨q0, o0, none⟩) 8 xc, .slice (some ⟨q1, o1, none⟩) 8 xe, xms, xcs⟩) (by simp)).facts.1, (Q.bx (b5, ⟨.slice (some ⟨q0, o0, none⟩) 8 xc, .slice (some ⟨q1, o1, none⟩) 8 xe, xms, xcs⟩) (by simp)).facts.2.1, (Q.bx (b3, ⟨.slice (some ⟨q2, o2, none⟩) 8 yc, .slice (some ⟨q3, o3, none⟩) 8 ye, yms, ycs⟩) (by simp)).facts.1, (Q.bx (b3, ⟨.slice (some ⟨q2, o2, none⟩) 8 yc, .slice (some ⟨q3, o3, none⟩) 8 ye, yms, ycs⟩) (by simp)).facts.2.1, (Q.mx (b3 + 1, ⟨(f : Int), (f : Int), ms, mc⟩) (by simp)).facts.1, ((rdI_cell (Q.rb (b5, ⟨.slice (some ⟨q0, o0, none⟩) 8 xc, .slice (some ⟨q1, o1, none⟩) 8 xe, xms, xcs⟩) (by simp)).mon lx0).trans (by rw [HVX2.out])), ((rdI_cell (Q.rb (b5, ⟨.slice (some ⟨q0, o0, none⟩) 8 xc, .slice (some ⟨q1, o1, none⟩) 8 xe, xms, xcs⟩) (by simp)).cnt lx1).trans (by rw [HCX.out])), ((rdI_cell (Q.rb (b3, ⟨.slice (some ⟨q2, o2, none⟩) 8 yc, .slice (some ⟨q3, o3, none⟩) 8 ye, yms, ycs⟩) (by simp)).cnt ly1).trans (by rw [HCY.out]))⟩ (fun hS2 => ?_)
        clear hK K hS
        have hS := hS2
        clear hS2
        try simp only [List.setIfInBounds_toArray, List.set_cons_zero, List.set_cons_succ]
        refine tkG 2 159 hS ?_
        try simp only [Act.put, List.setIfInBounds_toArray, List.set_cons_zero, List.set_cons_succ]
        refine tkG 3 160 hS ?_
        try simp only [Act.put, List.setIfInBounds_toArray, List.set_cons_zero, List.set_cons_succ]
        refine tkG 5 162 hS ?_
        try simp only [Act.put, List.setIfInBounds_toArray, List.set_cons_zero, List.set_cons_succ]
        refine wpAnyH_ready (rs := [4]) (by kernel_rfl) (by simp) ?_
        refine AllReadyH.cons rfl (fun K hK => ?_) AllReadyH.nil
        go_simp
        refine (HTX.out _ (Q.rb (b5, ⟨.slice (some ⟨q0, o0, none⟩) 8 xc, .slice (some ⟨q1, o1, none⟩) 8 xe, xms, xcs⟩) (by simp))).mono ?_
        rintro e V1 ⟨rfl, hb⟩
        replace Q := Q.below hb
        clear hb
        refine hK.out _ _ ⟨(Q.bx (b5, ⟨.slice (some ⟨q0, o0, none⟩) 8 xc, .slice (some ⟨q1, o1, none⟩) 8 xe, xms, xcs⟩) (by simp)).facts.1, (Q.bx (b5, ⟨.slice (some ⟨q0, o0, none⟩) 8 xc, .slice (some ⟨q1, o1, none⟩) 8 xe, xms, xcs⟩) (by simp)).facts.2.1, (Q.bx (b3, ⟨.slice (some ⟨q2, o2, none⟩) 8 yc, .slice (some ⟨q3, o3, none⟩) 8 ye, yms, ycs⟩) (by simp)).facts.1, (Q.bx (b3, ⟨.slice (some ⟨q2, o2, none⟩) 8 yc, .slice (some ⟨q3, o3, none⟩) 8 ye, yms, ycs⟩) (by simp)).facts.2.1, (Q.mx (b3 + 1, ⟨(f : Int), (f : Int), ms, mc⟩) (by simp)).facts.1, ((rdI_cell (Q.rb (b5, ⟨.slice (some ⟨q0, o0, none⟩) 8 xc, .slice (some ⟨q1, o1, none⟩) 8 xe, xms, xcs⟩) (by simp)).mon lx0).trans (by rw [HVX2.out])), ((rdI_cell (Q.rb (b5, ⟨.slice (some ⟨q0, o0, none⟩) 8 xc, .slice (some ⟨q1, o1, none⟩) 8 xe, xms, xcs⟩) (by simp)).cnt lx1).trans (by rw [HCX.out])), ((rdI_cell (Q.rb (b3, ⟨.slice (some ⟨q2, o2, none⟩) 8 yc, .slice (some ⟨q3, o3, none⟩) 8 ye, yms, ycs⟩) (by simp)).cnt ly1).trans (by rw [HCY.out]))⟩ (fun hS2 => ?_)
        clear hK K hS
        have hS := hS2
        clear hS2
        try simp only [List.setIfInBounds_toArray, List.set_cons_zero, List.set_cons_succ]
        refine wpAnyH_ready (rs := [6]) (by kernel_rfl) (by simp) ?_
        refine AllReadyH.cons rfl (fun K hK => ?_) AllReadyH.nil
        go_simp
        refine (HTB.out _ (Q.rb (b3, ⟨.slice (some ⟨q2, o2, none⟩) 8 yc, .slice (some ⟨q3, o3, none⟩) 8 ye, yms, ycs⟩) (by simp))).mono ?_
        rintro e V1 ⟨rfl, hb⟩
        replace Q := Q.below hb
        clear hb
        refine hK.out _ _ ⟨(Q.bx (b5, ⟨.slice (some ⟨q0, o0, none⟩) 8 xc, .slice (some ⟨q1, o1, none⟩) 8 xe, xms, xcs⟩) (by simp)).facts.1, (Q.bx (b5, ⟨.slice (some ⟨q0, o0, none⟩) 8 xc, .slice (some ⟨q1, o1, none⟩) 8 xe, xms, xcs⟩) (by simp)).facts.2.1, (Q.bx (b3, ⟨.slice (some ⟨q2, o2, none⟩) 8 yc, .slice (some ⟨q3, o3, none⟩) 8 ye, yms, ycs⟩) (by simp)).facts.1, (Q.bx (b3, ⟨.slice (some ⟨q2, o2, none⟩) 8 yc, .slice (some ⟨q3, o3, none⟩) 8 ye, yms, ycs⟩) (by simp)).facts.2.1, (Q.mx (b3 + 1, ⟨(f : Int), (f : Int), ms, mc⟩) (by simp)).facts.1, ((rdI_cell (Q.rb (b5, ⟨.slice (some ⟨q0, o0, none⟩) 8 xc, .slice (some ⟨q1, o1, none⟩) 8 xe, xms, xcs⟩) (by simp)).mon lx0).trans (by rw [HVX2.out])), ((rdI_cell (Q.rb (b5, ⟨.slice (some ⟨q0, o0, none⟩) 8 xc, .slice (some ⟨q1, o1, none⟩) 8 xe, xms, xcs⟩) (by simp)).cnt lx1).trans (by rw [HCX.out])), ((rdI_cell (Q.rb (b3, ⟨.slice (some ⟨q2, o2, none⟩) 8 yc, .slice (some ⟨q3, o3, none⟩) 8 ye, yms, ycs⟩) (by simp)).cnt ly1).trans (by rw [HCY.out]))⟩ (fun hS2 => ?_)
        clear hK K hS
        have hS := hS2
        clear hS2
        try simp only [List.setIfInBounds_toArray, List.set_cons_zero, List.set_cons_succ]
        refine tkG 7 164 hS ?_
        try simp only [Act.put, List.setIfInBounds_toArray, List.set_cons_zero, List.set_cons_succ]
        refine tkG 8 165 hS ?_
        try simp only [Act.put, List.setIfInBounds_toArray, List.set_cons_zero, List.set_cons_succ]
        refine tkG 9 166 hS ?_
        try simp only [Act.put, List.setIfInBounds_toArray, List.set_cons_zero, List.set_cons_succ]
        refine tkG 10 167 hS ?_
        try simp only [Act.put, List.setIfInBounds_toArray, List.set_cons_zero, List.set_cons_succ]
        refine tkG 11 168 hS ?_
        try simp only [Act.put, List.setIfInBounds_toArray, List.set_cons_zero, List.set_cons_succ]
        refine tkG 12 169 hS ?_
        try simp only [Act.put, List.setIfInBounds_toArray, List.set_cons_zero, List.set_cons_succ]
        refine tkG 13 170 hS ?_
        try simp only [Act.put, List.setIfInBounds_toArray, List.set_cons_zero, List.set_cons_succ]
        refine tkG 14 171 hS ?_
        try simp only [Act.put, List.setIfInBounds_toArray, List.set_cons_zero, List.set_cons_succ]
        refine tkG 15 172 hS ?_
        try simp only [Act.put, List.setIfInBounds_toArray, List.set_cons_zero, List.set_cons_succ]
        refine tkG 16 173 hS ?_
        try simp only [Act.put, List.setIfInBounds_toArray, List.set_cons_zero, List.set_cons_succ]
        refine tkG 17 174 hS ?_
        try simp only [Act.put, List.setIfInBounds_toArray, List.set_cons_zero, List.set_cons_succ]
        refine tkG 18 175 hS ?_
        try simp only [Act.put, List.setIfInBounds_toArray, List.set_cons_zero, List.set_cons_succ]
        refine tkG 19 176 hS ?_
        try simp only [Act.put, List.setIfInBounds_toArray, List.set_cons_zero, List.set_cons_succ]
        refine tkG 20 177 hS ?_
        try simp only [Act.put, List.setIfInBounds_toArray, List.set_cons_zero, List.set_cons_succ]
        refine tkG 21 178 hS ?_
        try simp only [Act.put, List.setIfInBounds_toArray, List.set_cons_zero, List.set_cons_succ]
        refine tkG 22 179 hS ?_
        try simp only [Act.put, List.setIfInBounds_toArray, List.set_cons_zero, List.set_cons_succ]
        refine tkG 23 180 hS ?_
        try simp only [Act.put, List.setIfInBounds_toArray, List.set_cons_zero, List.set_cons_succ]
        refine tkG 24 181 hS ?_
        try simp only [Act.put, List.setIfInBounds_toArray, List.set_cons_zero, List.set_cons_succ]
        refine tkG 25 182 hS ?_
        try simp only [Act.put, List.setIfInBounds_toArray, List.set_cons_zero, List.set_cons_succ]
        refine tkG 26 183 hS ?_
        try simp only [Act.put, List.setIfInBounds_toArray, List.set_cons_zero, List.set_cons_succ]
        refine tkG 27 184 hS ?_
        try simp only [Act.put, List.setIfInBounds_toArray, List.set_cons_zero, List.set_cons_succ]
        refine tkG 28 185 hS ?_
        try simp only [Act.put, List.setIfInBounds_toArray, List.set_cons_zero, List.set_cons_succ]
        refine tkG 29 186 hS ?_
        try simp only [Act.put, List.setIfInBounds_toArray, List.set_cons_zero, List.set_cons_succ]
        refine tkG 30 187 hS ?_
        try simp only [Act.put, List.setIfInBounds_toArray, List.set_cons_zero, List.set_cons_succ]
        refine tkG 31 188 hS ?_
        try simp only [Act.put, List.setIfInBounds_toArray, List.set_cons_zero, List.set_cons_succ]
        refine tkG 32 189 hS ?_
        try simp only [Act.put, List.setIfInBounds_toArray, List.set_cons_zero, List.set_cons_succ]
        refine tkG 33 190 hS ?_
        try simp only [Act.put, List.setIfInBounds_toArray, List.set_cons_zero, List.set_cons_succ]
        refine tkG 34 191 hS ?_
        try simp only [Act.put, List.setIfInBounds_toArray, List.set_cons_zero, List.set_cons_succ]
        refine tkG 35 192 hS ?_
        try simp only [Act.put, List.setIfInBounds_toArray, List.set_cons_zero, List.set_cons_succ]
        refine tkG 36 193 hS ?_
        try simp only [Act.put, List.setIfInBounds_toArray, List.set_cons_zero, List.set_cons_succ]
        refine tkG 37 194 hS ?_
        try simp only [Act.put, List.setIfInBounds_toArray, List.set_cons_zero, List.set_cons_succ]
        refine tkG 38 195 hS ?_
        try simp only [Act.put, List.setIfInBounds_toArray, List.set_cons_zero, List.set_cons_succ]
        refine tkG 39 2 hS ?_
        try simp only [Act.put, List.setIfInBounds_toArray, List.set_cons_zero, List.set_cons_succ]
        refine wpAnyH_done (by kernel_rfl) ?_ _
        refine NoPanic.normal ?_
        clear hS
        have bel := Q.bel
        clear Q
        go_wp2
        go_ret
        exact ⟨rfl, bel⟩
      · have HVX2 : Hid (nthI xms f = vy - ms) := by rw [HVX.out, if_neg hft]; rfl
        have hfe : ((f : Int) == (t : Int)) = false := beq_false_of_ne (by omega)
        have hev : (vy - ms == vy - ms) = true := by simp
        obtain ⟨p0, p1, -, -⟩ := (Q.mx (b3 + 1, ⟨(f : Int), (t : Int), ms, mc⟩) (by simp)).facts
        have d0 := (Q.bx (b3, ⟨.slice (some ⟨q2, o2, none⟩) 8 yc, .slice (some ⟨q3, o3, none⟩) 8 ye, yms, ycs⟩) (by simp)).facts.1
        have k2 := rdI_cell (Q.rb (b3, ⟨.slice (some ⟨q2, o2, none⟩) 8 yc, .slice (some ⟨q3, o3, none⟩) 8 ye, yms, ycs⟩) (by simp)).mon ly0
        rw [HVY.out] at k2
        simp only at p0 p1 d0
        go_wp2_with fail
        clear p0 p1 d0 k2
        refine wp_region_noPanic ?_
        refine wp_region_held_drew (S := fun W => W.cell? ⟨b5, 0, none⟩ = some (.slice (some ⟨q0, o0, none⟩) 8 xc) ∧ W.cell? ⟨b5, 1, none⟩ = some (.slice (some ⟨q1, o1, none⟩) 8 xe) ∧ W.cell? ⟨b3, 0, none⟩ = some (.slice (some ⟨q2, o2, none⟩) 8 yc) ∧ W.cell? ⟨b3, 1, none⟩ = some (.slice (some ⟨q3, o3, none⟩) 8 ye) ∧ W.cell? ⟨b3 + 1, 0, none⟩ = some (.int .i64 (f : Int)) ∧ W.cell? ⟨q0, o0 + f, none⟩ = some (.int .i64 (vy - ms)) ∧ W.cell? ⟨q1, o1 + f, none⟩ = some (.int .i64 (cy + 1)) ∧ W.cell? ⟨q3, o3 + f, none⟩ = some (.int .i64 cy)) (by kernel_rfl) ⟨(Q.bx (b5, ⟨.slice (some ⟨q0, o0, none⟩) 8 xc, .slice (some ⟨q1, o1, none⟩) 8 xe, xms, xcs⟩) (by simp)).facts.1, (Q.bx (b5, ⟨.slice (some ⟨q0, o0, none⟩) 8 xc, .slice (some ⟨q1, o1, none⟩) 8 xe, xms, xcs⟩) (by simp)).facts.2.1, (Q.bx (b3, ⟨.slice (some ⟨q2, o2, none⟩) 8 yc, .slice (some ⟨q3, o3, none⟩) 8 ye, yms, ycs⟩) (by simp)).facts.1, (Q.bx (b3, ⟨.slice (some ⟨q2, o2, none⟩) 8 yc, .slice (some ⟨q3, o3, none⟩) 8 ye, yms, ycs⟩) (by simp)).facts.2.1, (Q.mx (b3 + 1, ⟨(f : Int), (t : Int), ms, mc⟩) (by simp)).facts.1, ((rdI_cell (Q.rb (b5, ⟨.slice (some ⟨q0, o0, none⟩) 8 xc, .slice (some ⟨q1, o1, none⟩) 8 xe, xms, xcs⟩) (by simp)).mon lx0).trans (by rw [HVX2.out])), ((rdI_cell (Q.rb (b5, ⟨.slice (some ⟨q0, o0, none⟩) 8 xc, .slice (some ⟨q1, o1, none⟩) 8 xe, xms, xcs⟩) (by simp)).cnt lx1).trans (by rw [HCX.out])), ((rdI_cell (Q.rb (b3, ⟨.slice (some ⟨q2, o2, none⟩) 8 yc, .slice (some ⟨q3, o3, none⟩) 8 ye, yms, ycs⟩) (by simp)).cnt ly1).trans (by rw [HCY.out]))⟩ (fun hS => ?_)
        replace Q := Q.below ((Below.refl _ _).drew)
        revert hS
        revert Q
        generalize V9.drew = V9b
        intro Q hS
        refine tkG 0 157 hS ?_
        try simp only [Act.put, List.setIfInBounds_toArray, List.set_cons_zero, List.set_cons_succ]
        refine wpAnyH_ready (rs := [1]) (by kernel_rfl) (by simp) ?_
        refine AllReadyH.cons rfl (fun K hK => ?_) AllReadyH.nil
        go_simp
        refine (HBX.out _ (Q.rb (b5, ⟨.slice (some ⟨q0, o0, none⟩) 8 xc, .slice (some ⟨q1, o1, none⟩) 8 xe, xms, xcs⟩) (by simp))).mono ?_
        rintro e V1 ⟨rfl, hb⟩
        replace Q := Q.below hb
        clear hb
        refine hK.out _ _ ⟨(Q.bx (b5, ⟨.slice (some ⟨q0, o0, none⟩) 8 xc, .slice (some ⟨q1, o1, none⟩) 8 xe, xms, xcs⟩) (by simp)).facts.1, (Q.bx (b5, ⟨.slice (some ⟨q0, o0, none⟩) 8 xc, .slice (some ⟨q1, o1, none⟩) 8 xe, xms, xcs⟩) (by simp)).facts.2.1, (Q.bx (b3, ⟨.slice (some ⟨q2, o2, none⟩) 8 yc, .slice (some ⟨q3, o3, none⟩) 8 ye, yms, ycs⟩) (by simp)).facts.1, (Q.bx (b3, ⟨.slice (some ⟨q2, o2, none⟩) 8 yc, .slice (some ⟨q3, o3, none⟩) 8 ye, yms, ycs⟩) (by simp)).facts.2.1, (Q.mx (b3 + 1, ⟨(f : Int), (t : Int), ms, mc⟩) (by simp)).facts.1, ((rdI_cell (Q.rb (b5, ⟨.slice (some ⟨q0, o0, none⟩) 8 xc, .slice (some ⟨q1, o1, none⟩) 8 xe, xms, xcs⟩) (by simp)).mon lx0).trans (by rw [HVX2.out])), ((rdI_cell (Q.rb (b5, ⟨.slice (some ⟨q0, o0, none⟩) 8 xc, .slice (some ⟨q1, o1, none⟩) 8 xe, xms, xcs⟩) (by simp)).cnt lx1).trans (by rw [HCX.out])), ((rdI_cell (Q.rb (b3, ⟨.slice (some ⟨q2, o2, none⟩) 8 yc, .slice (some ⟨q3, o3, none⟩) 8 ye, yms, ycs⟩) (by simp)).cnt ly1).trans (by rw [HCY.out]))⟩ (fun hS2 => ?_)
        clear hK K hS
        have hS := hS2
        clear hS2
        try simp only [List.setIfInBounds_toArray, List.set_cons_zero, List.set_cons_succ]
        refine tkG 2 159 hS ?_
        try simp only [Act.put, List.setIfInBounds_toArray, List.set_cons_zero, List.set_cons_succ]
        refine tkG 3 160 hS ?_
        try simp only [Act.put, List.setIfInBounds_toArray, List.set_cons_zero, List.set_cons_succ]
        refine tkG 5 162 hS ?_
        try simp only [Act.put, List.setIfInBounds_toArray, List.set_cons_zero, List.set_cons_succ]
        refine wpAnyH_ready (rs := [4]) (by kernel_rfl) (by simp) ?_
        refine AllReadyH.cons rfl (fun K hK => ?_) AllReadyH.nil
        go_simp
        refine (HTX.out _ (Q.rb (b5, ⟨.slice (some ⟨q0, o0, none⟩) 8 xc, .slice (some ⟨q1, o1, none⟩) 8 xe, xms, xcs⟩) (by simp))).mono ?_
        rintro e V1 ⟨rfl, hb⟩
        replace Q := Q.below hb
        clear hb
        refine hK.out _ _ ⟨(Q.bx (b5, ⟨.slice (some ⟨q0, o0, none⟩) 8 xc, .slice (some ⟨q1, o1, none⟩) 8 xe, xms, xcs⟩) (by simp)).facts.1, (Q.bx (b5, ⟨.slice (some ⟨q0, o0, none⟩) 8 xc, .slice (some ⟨q1, o1, none⟩) 8 xe, xms, xcs⟩) (by simp)).facts.2.1, (Q.bx (b3, ⟨.slice (some ⟨q2, o2, none⟩) 8 yc, .slice (some ⟨q3, o3, none⟩) 8 ye, yms, ycs⟩) (by simp)).facts.1, (Q.bx (b3, ⟨.slice (some ⟨q2, o2, none⟩) 8 yc, .slice (some ⟨q3, o3, none⟩) 8 ye, yms, ycs⟩) (by simp)).facts.2.1, (Q.mx (b3 + 1, ⟨(f : Int), (t : Int), ms, mc⟩) (by simp)).facts.1, ((rdI_cell (Q.rb (b5, ⟨.slice (some ⟨q0, o0, none⟩) 8 xc, .slice (some ⟨q1, o1, none⟩) 8 xe, xms, xcs⟩) (by simp)).mon lx0).trans (by rw [HVX2.out])), ((rdI_cell (Q.rb (b5, ⟨.slice (some ⟨q0, o0, none⟩) 8 xc, .slice (some ⟨q1, o1, none⟩) 8 xe, xms, xcs⟩) (by simp)).cnt lx1).trans (by rw [HCX.out])), ((rdI_cell (Q.rb (b3, ⟨.slice (some ⟨q2, o2, none⟩) 8 yc, .slice (some ⟨q3, o3, none⟩) 8 ye, yms, ycs⟩) (by simp)).cnt ly1).trans (by rw [HCY.out]))⟩ (fun hS2 => ?_)
        clear hK K hS
        have hS := hS2
        clear hS2
        try simp only [List.setIfInBounds_toArray, List.set_cons_zero, List.set_cons_succ]
        refine wpAnyH_ready (rs := [6]) (by kernel_rfl) (by simp) ?_
        refine AllReadyH.cons rfl (fun K hK => ?_) AllReadyH.nil
        go_simp
        refine (HTB.out _ (Q.rb (b3, ⟨.slice (some ⟨q2, o2, none⟩) 8 yc, .slice (some ⟨q3, o3, none⟩) 8 ye, yms, ycs⟩) (by simp))).mono ?_
        rintro e V1 ⟨rfl, hb⟩
        replace Q := Q.below hb
        clear hb
        refine hK.out _ _ ⟨(Q.bx (b5, ⟨.slice (some ⟨q0, o0, none⟩) 8 xc, .slice (some ⟨q1, o1, none⟩) 8 xe, xms, xcs⟩) (by simp)).facts.1, (Q.bx (b5, ⟨.slice (some ⟨q0, o0, none⟩) 8 xc, .slice (some ⟨q1, o1, none⟩) 8 xe, xms, xcs⟩) (by simp)).facts.2.1, (Q.bx (b3, ⟨.slice (some ⟨q2, o2, none⟩) 8 yc, .slice (some ⟨q3, o3, none⟩) 8 ye, yms, ycs⟩) (by simp)).facts.1, (Q.bx (b3, ⟨.slice (some ⟨q2, o2, none⟩) 8 yc, .slice (some ⟨q3, o3, none⟩) 8 ye, yms, ycs⟩) (by simp)).facts.2.1, (Q.mx (b3 + 1, ⟨(f : Int), (t : Int), ms, mc⟩) (by simp)).facts.1, ((rdI_cell (Q.rb (b5, ⟨.slice (some ⟨q0, o0, none⟩) 8 xc, .slice (some ⟨q1, o1, none⟩) 8 xe, xms, xcs⟩) (by simp)).mon lx0).trans (by rw [HVX2.out])), ((rdI_cell (Q.rb (b5, ⟨.slice (some ⟨q0, o0, none⟩) 8 xc, .slice (some ⟨q1, o1, none⟩) 8 xe, xms, xcs⟩) (by simp)).cnt lx1).trans (by rw [HCX.out])), ((rdI_cell (Q.rb (b3, ⟨.slice (some ⟨q2, o2, none⟩) 8 yc, .slice (some ⟨q3, o3, none⟩) 8 ye, yms, ycs⟩) (by simp)).cnt ly1).trans (by rw [HCY.out]))⟩ (fun hS2 => ?_)
        clear hK K hS
        have hS := hS2
        clear hS2
        try simp only [List.setIfInBounds_toArray, List.set_cons_zero, List.set_cons_succ]
        refine tkG 7 164 hS ?_
        try simp only [Act.put, List.setIfInBounds_toArray, List.set_cons_zero, List.set_cons_succ]
        refine tkG 8 165 hS ?_
        try simp only [Act.put, List.setIfInBounds_toArray, List.set_cons_zero, List.set_cons_succ]
        refine tkG 9 166 hS ?_
        try simp only [Act.put, List.setIfInBounds_toArray, List.set_cons_zero, List.set_cons_succ]
        refine tkG 10 167 hS ?_
        try simp only [Act.put, List.setIfInBounds_toArray, List.set_cons_zero, List.set_cons_succ]
        refine tkG 11 168 hS ?_
        try simp only [Act.put, List.setIfInBounds_toArray, List.set_cons_zero, List.set_cons_succ]
        refine tkG 12 169 hS ?_
        try simp only [Act.put, List.setIfInBounds_toArray, List.set_cons_zero, List.set_cons_succ]
        refine tkG 13 170 hS ?_
        try simp only [Act.put, List.setIfInBounds_toArray, List.set_cons_zero, List.set_cons_succ]
        refine tkG 14 171 hS ?_
        try simp only [Act.put, List.setIfInBounds_toArray, List.set_cons_zero, List.set_cons_succ]
        refine tkG 15 172 hS ?_
        try simp only [Act.put, List.setIfInBounds_toArray, List.set_cons_zero, List.set_cons_succ]
        refine tkG 16 173 hS ?_
        try simp only [Act.put, List.setIfInBounds_toArray, List.set_cons_zero, List.set_cons_succ]
        refine tkG 17 174 hS ?_
        try simp only [Act.put, List.setIfInBounds_toArray, List.set_cons_zero, List.set_cons_succ]
        refine tkG 18 175 hS ?_
        try simp only [Act.put, List.setIfInBounds_toArray, List.set_cons_zero, List.set_cons_succ]
        refine tkG 19 176 hS ?_
        try simp only [Act.put, List.setIfInBounds_toArray, List.set_cons_zero, List.set_cons_succ]
        refine tkG 20 177 hS ?_
        try simp only [Act.put, List.setIfInBounds_toArray, List.set_cons_zero, List.set_cons_succ]
        refine tkG 21 178 hS ?_
        try simp only [Act.put, List.setIfInBounds_toArray, List.set_cons_zero, List.set_cons_succ]
        refine tkG 22 179 hS ?_
        try simp only [Act.put, List.setIfInBounds_toArray, List.set_cons_zero, List.set_cons_succ]
        refine tkG 23 180 hS ?_
        try simp only [Act.put, List.setIfInBounds_toArray, List.set_cons_zero, List.set_cons_succ]
        refine tkG 24 181 hS ?_
        try simp only [Act.put, List.setIfInBounds_toArray, List.set_cons_zero, List.set_cons_succ]
        refine tkG 25 182 hS ?_
        try simp only [Act.put, List.setIfInBounds_toArray, List.set_cons_zero, List.set_cons_succ]
        refine tkG 26 183 hS ?_
        try simp only [Act.put, List.setIfInBounds_toArray, List.set_cons_zero, List.set_cons_succ]
        refine tkG 27 184 hS ?_
        try simp only [Act.put, List.setIfInBounds_toArray, List.set_cons_zero, List.set_cons_succ]
        refine tkG 28 185 hS ?_
        try simp only [Act.put, List.setIfInBounds_toArray, List.set_cons_zero, List.set_cons_succ]
        refine tkG 29 186 hS ?_
        try simp only [Act.put, List.setIfInBounds_toArray, List.set_cons_zero, List.set_cons_succ]
        refine tkG 30 187 hS ?_
        try simp only [Act.put, List.setIfInBounds_toArray, List.set_cons_zero, List.set_cons_succ]
        refine tkG 31 188 hS ?_
        try simp only [Act.put, List.setIfInBounds_toArray, List.set_cons_zero, List.set_cons_succ]
        refine tkG 32 189 hS ?_
        try simp only [Act.put, List.setIfInBounds_toArray, List.set_cons_zero, List.set_cons_succ]
        refine tkG 33 190 hS ?_
        try simp only [Act.put, List.setIfInBounds_toArray, List.set_cons_zero, List.set_cons_succ]
        refine tkG 34 191 hS ?_
        try simp only [Act.put, List.setIfInBounds_toArray, List.set_cons_zero, List.set_cons_succ]
        refine tkG 35 192 hS ?_
        try simp only [Act.put, List.setIfInBounds_toArray, List.set_cons_zero, List.set_cons_succ]
        refine tkG 36 193 hS ?_
        try simp only [Act.put, List.setIfInBounds_toArray, List.set_cons_zero, List.set_cons_succ]
        refine tkG 37 194 hS ?_
        try simp only [Act.put, List.setIfInBounds_toArray, List.set_cons_zero, List.set_cons_succ]
        refine tkG 38 195 hS ?_
        try simp only [Act.put, List.setIfInBounds_toArray, List.set_cons_zero, List.set_cons_succ]
        refine tkG 39 2 hS ?_
        try simp only [Act.put, List.setIfInBounds_toArray, List.set_cons_zero, List.set_cons_succ]
        refine wpAnyH_done (by kernel_rfl) ?_ _
        refine NoPanic.normal ?_
        clear hS
        have bel := Q.bel
        clear Q
        go_wp2
        go_ret
        exact ⟨rfl, bel⟩
end Go.Proofs.YtdleolgkbkoekaaDoor
