/- Whatever code it is called with, laws.FnDevices returns true and its argument reads as before: what was laid last lies there, what is behind a barrier is there whatever is cut, and what is cut is as it was or as it was laid, by the program as by the model. No condition. -/
-- UNF Gen
import Derived.Test.YtgmjoejoehhekaaRows
import Derived.Test.YtgmjoejoehhekaaDevDraw2
import Derived.Test.YtgmjoejoehhekaaDevDraw3
import Derived.Test.YtgmjoejoehhekaaDevLike
import Derived.Test.YtgmjoejoehhekaaDevLay2
import Derived.Test.YtgmjoejoehhekaaDevMath
import Derived.Deep.DeepCutAuto
import Derived.BigQuiet
import Derived.ProofKit
import Derived.OpenShut
import Derived.ShutString
import Derived.ChangeOld
namespace Go.Proofs.Ytgmjoejoehhekaa
open Go.ChangeShapes Go.WideShapes Go.ChangeAt Go.RowKit
set_option maxHeartbeats 1000000 in
set_option maxRecDepth 100000 in
theorem bigD_any (v : Value) (bs : List UInt8) (w : World) (hr : Rd w v bs) :
    Calls Try.prog 4 #[v] w fun e w' => e = .returned (.bool (decide (4096 < (bs.length : Int)))) ∧ w' = w := by
  obtain ⟨a, cap, rfl, hl, hm, _⟩ := hr
  unfold maxLen at hm
  go_enter Try.func4, Try.ntmps4
  go_wp2
  go_ret
  exact ⟨rfl, rfl⟩
/-- A device by its two slices. -/
abbrev dvOf (sa la : Option Addr) (cs cl : Nat) (ss : List ByteArray) (ps : List Pat) : DvX := ⟨.slice sa ss.length cs, .slice la ps.length cl, ss, ps⟩
theorem RdDv.op {w : World} {X : DvX} (h : RdDv w X) : ∃ (sa la : Option Addr) (cs cl : Nat), X = dvOf sa la cs cl X.secs X.late := by
  obtain ⟨sa, la, cs, cl, e1, e2, _⟩ := h.slices
  obtain ⟨vs, vl, ss, ps⟩ := X
  simp only at e1 e2
  subst e1 e2
  exact ⟨sa, la, cs, cl, rfl⟩
theorem ToDv.op {w w' : World} {ss : List ByteArray} {ps : List Pat} {e : Ending} (h : ToDv w ss ps e w') : ∃ (sa la : Option Addr) (cs cl : Nat), e = .returned (.agg #[.slice sa ss.length cs, .slice la ps.length cl]) ∧ RdDv w' (dvOf sa la cs cl ss ps) ∧ Below w.heap.size w w' := by
  obtain ⟨Y, rfl, rfl, rfl, ho, hb⟩ := h
  have hr := ho.rd
  obtain ⟨sa, la, cs, cl, e⟩ := hr.op
  rw [e] at hr
  exact ⟨sa, la, cs, cl, by rw [e], hr, hb⟩
theorem DvRes.op {w w' : World} {ss : List ByteArray} {ps : List Pat} {o : Bool} {e : Ending} (h : DvRes w ss ps o e w') : ∃ (sa la : Option Addr) (cs cl : Nat), e = .returned (.tuple #[.agg #[.slice sa ss.length cs, .slice la ps.length cl], .bool o]) ∧ RdDv w' (dvOf sa la cs cl ss ps) ∧ Below w.heap.size w w' := by
  obtain ⟨Y, rfl, rfl, rfl, ho, hb⟩ := h
  have hr := ho.rd
  obtain ⟨sa, la, cs, cl, e⟩ := hr.op
  rw [e] at hr
  exact ⟨sa, la, cs, cl, by rw [e], hr, hb⟩
theorem LayD.op {w w' : World} {e : Ending} (h : LayD w e w') : ∃ (sa la : Option Addr) (cs cl : Nat) (ss : List ByteArray) (ps : List Pat) (p : Int) (t : ByteArray), e = .returned (.tuple #[.agg #[.slice sa ss.length cs, .slice la ps.length cl], .int .i64 p, .string t]) ∧ ss.length ≤ 4 ∧ ps.length ≤ 31 ∧ RdDv w' (dvOf sa la cs cl ss ps) ∧ Below w.heap.size w w' := by
  obtain ⟨Y, p, t, rfl, ⟨h1, h2⟩, ho, hb⟩ := h
  have hr := ho.rd
  obtain ⟨sa, la, cs, cl, e⟩ := hr.op
  rw [e] at hr
  exact ⟨sa, la, cs, cl, Y.secs, Y.late, p, t, by rw [e], h1, h2, hr, hb⟩
theorem CutD.op {w w' : World} {e : Ending} (h : CutD w e w') : ∃ (sa la : Option Addr) (cs cl : Nat) (ss : List ByteArray) (ps : List Pat) (vk : Value) (kp : List Bool), e = .returned (.tuple #[.agg #[.slice sa ss.length cs, .slice la ps.length cl], vk]) ∧ ss.length ≤ 4 ∧ ps.length ≤ 31 ∧ RdDv w' (dvOf sa la cs cl ss ps) ∧ RdB w' vk kp ∧ Below w.heap.size w w' := by
  obtain ⟨Y, vk, kp, rfl, ⟨h1, h2⟩, ho, hk, _, hb⟩ := h
  have hr := ho.rd
  obtain ⟨sa, la, cs, cl, e⟩ := hr.op
  rw [e] at hr
  exact ⟨sa, la, cs, cl, Y.secs, Y.late, vk, kp, by rw [e], h1, h2, hr, hk.rd, hb⟩
/-- Devices that lie in boxes and can be read. -/
def Bx (W : World) (l : List (Nat × DvX)) : Prop := ∀ p ∈ l, DvAt W p.1 p.2 ∧ RdDv W p.2
theorem Bx.below {w w' : World} {l : List (Nat × DvX)} (h : Bx w l) (hb : Below w.heap.size w w') : Bx w' l := fun p hp => ⟨(h p hp).1.below hb, (h p hp).2.below hb⟩
theorem bx_nil (w : World) : Bx w [] := fun _ hp => by cases hp
theorem Bx.new {w : World} {l : List (Nat × DvX)} {X : DvX} (h : Bx w l) (hx : RdDv w X) (t : TypeId) : Bx (w.alloc (.cells #[X.vs, X.vl] t)) ((w.heap.size, X) :: l) := by
  intro p hp
  rcases List.mem_cons.1 hp with rfl | hp
  · exact ⟨dvAt_new w X t, hx.below (below1 _ _)⟩
  · exact h.below (below1 _ _) p hp
theorem Bx.at {w : World} {l : List (Nat × DvX)} (h : Bx w l) (b : Nat) (sa la : Option Addr) (cs cl : Nat) (ss : List ByteArray) (ps : List Pat) (hm : (b, dvOf sa la cs cl ss ps) ∈ l) : w.cell? ⟨b, 0, none⟩ = some (.slice sa ss.length cs) ∧ w.cell? ⟨b, 1, none⟩ = some (.slice la ps.length cl) := (h _ hm).1
theorem Bx.rd {w : World} {l : List (Nat × DvX)} (h : Bx w l) (b : Nat) (sa la : Option Addr) (cs cl : Nat) (ss : List ByteArray) (ps : List Pat) (hm : (b, dvOf sa la cs cl ss ps) ∈ l) : RdDv w (dvOf sa la cs cl ss ps) := (h _ hm).2

theorem cut_found {s ys : List ByteArray} {l : List Pat} {kp : Nat → Bool} (hok : devOk s l = true) (hys : ys = cutL s l kp) {k : Nat} (h1 : k < ys.length) (h2 : k < s.length) : ys[k] = s[k] ∨ ∃ j, j < l.length ∧ (nthP l j).pos = (k : Int) ∧ (nthP l j).text = ys[k] := by
  have e2 := hys.trans (cutL_yes hok)
  subst e2
  exact cut_at (l := l) (kp := kp) h2 l.length (fun j hj => (pOk_iff.1 (((devOk_iff s l).1 hok).2.2.2.2 j hj)).1) h1
set_option maxHeartbeats 8000000 in
set_option maxRecDepth 100000 in
theorem lawDevF (v : Value) (bs : List UInt8) (w : World) (hr : Rd w v bs) :
    Calls Try.prog 3 #[v] w fun e w' => e = .returned (.bool true) ∧ Below w.heap.size w w' := by
  by_cases hbig : 4096 < bs.length
  · have hb2 : decide (4096 < (bs.length : Int)) = true := by simp; omega
    go_enter Try.func3, Try.ntmps3
    go_wp2_with fail
    refine (bigD_any v bs w hr).mono ?_
    rw [hb2]
    rintro e wb ⟨rfl, hwb⟩
    obtain rfl := hwb.symm
    go_wp2
    go_ret
    exact ⟨rfl, Below.refl _ _⟩
  have hb2 : decide (4096 < (bs.length : Int)) = false := by simp; omega
  have HL : Hid (bs.length ≤ 4096) := by unfold Hid; omega
  go_enter Try.func3, Try.ntmps3
  go_wp2_with fail
  refine (bigD_any v bs w hr).mono ?_
  rw [hb2]
  rintro e wb ⟨rfl, hwb⟩
  obtain rfl := hwb.symm
  clear hb2 hbig
  go_wp2_with fail
  refine (drawLay_any v bs _ hr HL.out).mono ?_
  rintro e w1 h1
  obtain ⟨da, dl, dc, dk, ds, dp, p, t, rfl, hd1, hd2, hd, b1⟩ := h1.op
  have bw := b1
  clear h1 b1
  have B1 : Bx (w1.alloc (.cells #[.slice da ds.length dc, .slice dl dp.length dk] 27)) _ := (bx_nil w1).new hd 27
  have bl := below1 w1 (.cells #[.slice da ds.length dc, .slice dl dp.length dk] 27)
  have bb := bw.trans (bl.mono bw.size)
  obtain ⟨c0, c0'⟩ := B1.at w1.heap.size da dl dc dk ds dp (.head _)
  clear bw hd
  go_wp2_with fail
  clear c0 c0'
  revert bb bl B1
  generalize w1.alloc (.cells #[.slice da ds.length dc, .slice dl dp.length dk] 27) = W1
  intro B1 bl bb
  clear bl
  obtain ⟨xs, hxs⟩ : ∃ xs, xs = layS ds dp := ⟨_, rfl⟩
  obtain ⟨xp, hxp⟩ : ∃ xp, xp = layL ds dp p t := ⟨_, rfl⟩
  obtain ⟨xo, hxo⟩ : ∃ xo, xo = layO ds dp p t := ⟨_, rfl⟩
  have HXS : Hid (xs = layS ds dp) := hxs
  have HXP : Hid (xp = layL ds dp p t) := hxp
  have HXO : Hid (xo = layO ds dp p t) := hxo
  clear hxs hxp hxo
  refine (implLay_any _ p t _ (B1.rd w1.heap.size da dl dc dk ds dp (.head _))).mono ?_
  rintro e w2 h2
  rw [← HXS.out, ← HXP.out, ← HXO.out] at h2
  obtain ⟨xa, xl, xc, xk, rfl, hx, b2⟩ := h2.op
  have bw := bb.trans (b2.mono bb.size)
  have B1' := B1.below b2
  clear h2 b2 bb B1
  have B2 : Bx (w2.alloc (.cells #[.slice xa xs.length xc, .slice xl xp.length xk] 27)) _ := B1'.new hx 27
  have bl := below1 w2 (.cells #[.slice xa xs.length xc, .slice xl xp.length xk] 27)
  have bb := bw.trans (bl.mono bw.size)
  clear bw hx B1'
  go_wp2_with fail
  revert bb bl B2
  generalize w2.alloc (.cells #[.slice xa xs.length xc, .slice xl xp.length xk] 27) = W2
  intro B2 bl bb
  clear bl
  refine (drawCut_any v bs _ (hr.below bb) HL.out).mono ?_
  rintro e w3 h3
  obtain ⟨ea, el, ec, ek, es, ep, vk, kp, rfl, he1, he2, he, hk, b3⟩ := h3.op
  have bw := bb.trans (b3.mono bb.size)
  have B2' := B2.below b3
  clear h3 b3 bb B2
  have B3 : Bx (w3.alloc (.cells #[.slice ea es.length ec, .slice el ep.length ek] 27)) _ := B2'.new he 27
  have bl := below1 w3 (.cells #[.slice ea es.length ec, .slice el ep.length ek] 27)
  have bb := bw.trans (bl.mono bw.size)
  obtain ⟨c0, c0'⟩ := B3.at w3.heap.size ea el ec ek es ep (.head _)
  clear bw he B2'
  go_wp2_with fail
  clear c0 c0'
  revert bb bl B3
  generalize w3.alloc (.cells #[.slice ea es.length ec, .slice el ep.length ek] 27) = W3
  intro B3 bl bb
  replace hk := hk.below bl
  clear bl
  obtain ⟨ys, hys⟩ : ∃ ys, ys = cutL es ep (keepOf kp) := ⟨_, rfl⟩
  obtain ⟨zs, hzs⟩ : ∃ zs, zs = cutL es ep (fun _ => true) := ⟨_, rfl⟩
  have HYS : Hid (ys = cutL es ep (keepOf kp)) := hys
  have HZS : Hid (zs = cutL es ep (fun _ => true)) := hzs
  clear hys hzs
  refine (implCut_any _ vk kp _ (B3.rd w3.heap.size ea el ec ek es ep (.head _)) hk).mono ?_
  rintro e w4 h4
  rw [← HYS.out] at h4
  obtain ⟨ya, yl, yc, yk, rfl, hy, b4⟩ := h4.op
  have bw := bb.trans (b4.mono bb.size)
  have B3' := B3.below b4
  replace hk := hk.below b4
  clear h4 b4 bb B3
  have B4 : Bx (w4.alloc (.cells #[.slice ya ys.length yc, .slice yl 0 yk] 27)) _ := B3'.new hy 27
  have bl := below1 w4 (.cells #[.slice ya ys.length yc, .slice yl 0 yk] 27)
  have bb := bw.trans (bl.mono bw.size)
  obtain ⟨c0, c0'⟩ := B4.at w3.heap.size ea el ec ek es ep (.tail _ (.head _))
  clear bw hy B3'
  go_wp2_with fail
  clear c0 c0'
  revert bb bl B4
  generalize w4.alloc (.cells #[.slice ya ys.length yc, .slice yl 0 yk] 27) = W4
  intro B4 bl bb
  replace hk := hk.below bl
  clear bl
  refine (implBarrier_any _ _ (B4.rd w3.heap.size ea el ec ek es ep (.tail _ (.head _)))).mono ?_
  rintro e w5 h5
  rw [← HZS.out] at h5
  obtain ⟨za, zl, zc, zk, rfl, hz, b5⟩ := h5.op
  have bw := bb.trans (b5.mono bb.size)
  have B4' := B4.below b5
  replace hk := hk.below b5
  clear h5 b5 bb B4
  have B5 : Bx (w5.alloc (.cells #[.slice za zs.length zc, .slice zl 0 zk] 27)) _ := B4'.new hz 27
  have bl := below1 w5 (.cells #[.slice za zs.length zc, .slice zl 0 zk] 27)
  have bb := bw.trans (bl.mono bw.size)
  clear bw hz B4'
  go_wp2_with fail
  revert bb bl B5
  generalize w5.alloc (.cells #[.slice za zs.length zc, .slice zl 0 zk] 27) = W5
  intro B5 bl bb
  replace hk := hk.below bl
  clear bl
  refine (drawNew_any v bs _ (hr.below bb) HL.out).mono ?_
  rintro e w6 ⟨n, rfl, b6⟩
  have b6' := bb.trans (b6.mono bb.size)
  have B6 := B5.below b6
  replace hk := hk.below b6
  clear b6 bb B5
  go_wp2_with fail
  obtain ⟨ns, hns⟩ : ∃ ns, ns = newS n := ⟨_, rfl⟩
  obtain ⟨no, hno⟩ : ∃ no, no = newO n := ⟨_, rfl⟩
  have HNS : Hid (ns = newS n) := hns
  have HNO : Hid (no = newO n) := hno
  clear hns hno
  refine (implNew_any n _).mono ?_
  rintro e w7 h7
  rw [← HNS.out, ← HNO.out] at h7
  obtain ⟨na, nl, nc, nk, rfl, hn, b7⟩ := h7.op
  have bw := b6'.trans (b7.mono b6'.size)
  have B6' := B6.below b7
  replace hk := hk.below b7
  clear h7 b7 b6' B6
  have B7 : Bx (w7.alloc (.cells #[.slice na ns.length nc, .slice nl 0 nk] 27)) _ := B6'.new hn 27
  have bl := below1 w7 (.cells #[.slice na ns.length nc, .slice nl 0 nk] 27)
  have bb := bw.trans (bl.mono bw.size)
  obtain ⟨c0, c0'⟩ := B7.at w1.heap.size da dl dc dk ds dp (.tail _ (.tail _ (.tail _ (.tail _ (.tail _ (.head _))))))
  clear bw hn B6'
  go_wp2_with fail
  clear c0 c0'
  revert bb bl B7
  generalize w7.alloc (.cells #[.slice na ns.length nc, .slice nl 0 nk] 27) = W7
  intro B7 bl bb
  replace hk := hk.below bl
  clear bl
  refine (specLay_any _ p t _ (B7.rd w1.heap.size da dl dc dk ds dp (.tail _ (.tail _ (.tail _ (.tail _ (.tail _ (.head _)))))))).mono ?_
  rintro e w8 h8
  rw [← HXS.out, ← HXP.out, ← HXO.out] at h8
  obtain ⟨ua, ul, uc, uk, rfl, hu, b8⟩ := h8.op
  have bw := bb.trans (b8.mono bb.size)
  have B7' := B7.below b8
  replace hk := hk.below b8
  clear h8 b8 bb B7
  have B8 : Bx (w8.alloc (.cells #[.slice ua xs.length uc, .slice ul xp.length uk] 27)) _ := B7'.new hu 27
  have bl := below1 w8 (.cells #[.slice ua xs.length uc, .slice ul xp.length uk] 27)
  have bb := bw.trans (bl.mono bw.size)
  clear bw hu B7'
  go_wp2_with fail
  revert bb bl B8
  generalize w8.alloc (.cells #[.slice ua xs.length uc, .slice ul xp.length uk] 27) = W8
  intro B8 bl bb
  replace hk := hk.below bl
  clear bl
  have hne : (xo != xo) = false := by simp
  refine wp_region_noPanic ?_
  refine wp_region_held_drew (S := fun W => (W.cell? ⟨w1.heap.size, 0, none⟩ = some (.slice da ds.length dc) ∧ W.cell? ⟨w1.heap.size, 1, none⟩ = some (.slice dl dp.length dk)) ∧ (W.cell? ⟨w2.heap.size, 0, none⟩ = some (.slice xa xs.length xc) ∧ W.cell? ⟨w2.heap.size, 1, none⟩ = some (.slice xl xp.length xk)) ∧ (W.cell? ⟨w3.heap.size, 0, none⟩ = some (.slice ea es.length ec) ∧ W.cell? ⟨w3.heap.size, 1, none⟩ = some (.slice el ep.length ek)) ∧ (W.cell? ⟨w4.heap.size, 0, none⟩ = some (.slice ya ys.length yc) ∧ W.cell? ⟨w4.heap.size, 1, none⟩ = some (.slice yl 0 yk)) ∧ (W.cell? ⟨w5.heap.size, 0, none⟩ = some (.slice za zs.length zc) ∧ W.cell? ⟨w5.heap.size, 1, none⟩ = some (.slice zl 0 zk)) ∧ (W.cell? ⟨w8.heap.size, 0, none⟩ = some (.slice ua xs.length uc) ∧ W.cell? ⟨w8.heap.size, 1, none⟩ = some (.slice ul xp.length uk))) (by kernel_rfl) ⟨B8.at w1.heap.size da dl dc dk ds dp (.tail _ (.tail _ (.tail _ (.tail _ (.tail _ (.tail _ (.head _))))))), B8.at w2.heap.size xa xl xc xk xs xp (.tail _ (.tail _ (.tail _ (.tail _ (.tail _ (.head _)))))), B8.at w3.heap.size ea el ec ek es ep (.tail _ (.tail _ (.tail _ (.tail _ (.head _))))), B8.at w4.heap.size ya yl yc yk ys ([] : List Pat) (.tail _ (.tail _ (.tail _ (.head _)))), B8.at w5.heap.size za zl zc zk zs ([] : List Pat) (.tail _ (.tail _ (.head _))), B8.at w8.heap.size ua ul uc uk xs xp (.head _)⟩ (fun hH => ?_)
  have q := B8.below (Below.refl W8.heap.size W8).drew
  have qk : RdB W8.drew vk kp := hk.below (Below.refl W8.heap.size W8).drew
  have qb := bb.drew
  clear B8 hk bb
  revert hH q qk qb
  generalize W8.drew = V0
  intro hH q qk qb
  refine tkG 0 61 hH ?_
  try simp only [Act.put, List.setIfInBounds_toArray, List.set_cons_zero, List.set_cons_succ]
  refine tkG 1 62 hH ?_
  try simp only [Act.put, List.setIfInBounds_toArray, List.set_cons_zero, List.set_cons_succ]
  refine tkG 2 63 hH ?_
  try simp only [Act.put, List.setIfInBounds_toArray, List.set_cons_zero, List.set_cons_succ]
  refine tkG 3 64 hH ?_
  try simp only [Act.put, List.setIfInBounds_toArray, List.set_cons_zero, List.set_cons_succ]
  refine tkG 4 65 hH ?_
  try simp only [Act.put, List.setIfInBounds_toArray, List.set_cons_zero, List.set_cons_succ]
  refine tkG 5 66 hH ?_
  try simp only [Act.put, List.setIfInBounds_toArray, List.set_cons_zero, List.set_cons_succ]
  refine wpAnyH_ready (rs := [6]) (by kernel_rfl) (by simp) ?_
  refine AllReadyH.cons rfl (fun K hK => ?_) AllReadyH.nil
  go_simp
  refine (likeDev_same (dvOf xa xl xc xk xs xp) (dvOf ua ul uc uk xs xp) _ (q.rd w2.heap.size xa xl xc xk xs xp (.tail _ (.tail _ (.tail _ (.tail _ (.tail _ (.head _))))))) (q.rd w8.heap.size ua ul uc uk xs xp (.head _)) rfl rfl).mono ?_
  rintro e V1 ⟨rfl, hb⟩
  replace q := q.below hb
  replace qk := qk.below hb
  replace qb := qb.trans (hb.mono qb.size)
  refine hK.out _ _ ⟨q.at w1.heap.size da dl dc dk ds dp (.tail _ (.tail _ (.tail _ (.tail _ (.tail _ (.tail _ (.head _))))))), q.at w2.heap.size xa xl xc xk xs xp (.tail _ (.tail _ (.tail _ (.tail _ (.tail _ (.head _)))))), q.at w3.heap.size ea el ec ek es ep (.tail _ (.tail _ (.tail _ (.tail _ (.head _))))), q.at w4.heap.size ya yl yc yk ys ([] : List Pat) (.tail _ (.tail _ (.tail _ (.head _)))), q.at w5.heap.size za zl zc zk zs ([] : List Pat) (.tail _ (.tail _ (.head _))), q.at w8.heap.size ua ul uc uk xs xp (.head _)⟩ (fun hG => ?_)
  clear hK K
  try simp only [Act.put, List.setIfInBounds_toArray, List.set_cons_zero, List.set_cons_succ]
  clear hb hH
  have hH := hG
  clear hG
  refine tkG 7 68 hH ?_
  try simp only [Act.put, List.setIfInBounds_toArray, List.set_cons_zero, List.set_cons_succ]
  refine tkG 8 69 hH ?_
  try simp only [Act.put, List.setIfInBounds_toArray, List.set_cons_zero, List.set_cons_succ]
  refine tkG 9 70 hH ?_
  try simp only [Act.put, List.setIfInBounds_toArray, List.set_cons_zero, List.set_cons_succ]
  refine tkG 10 71 hH ?_
  try simp only [Act.put, List.setIfInBounds_toArray, List.set_cons_zero, List.set_cons_succ]
  refine tkG 11 72 hH ?_
  try simp only [Act.put, List.setIfInBounds_toArray, List.set_cons_zero, List.set_cons_succ]
  refine tkG 12 73 hH ?_
  try simp only [Act.put, List.setIfInBounds_toArray, List.set_cons_zero, List.set_cons_succ]
  refine wpAnyH_ready (rs := [13]) (by kernel_rfl) (by simp) ?_
  refine AllReadyH.cons rfl (fun K hK => ?_) AllReadyH.nil
  go_simp
  refine (specCut_any (dvOf ea el ec ek es ep) vk kp _ (q.rd w3.heap.size ea el ec ek es ep (.tail _ (.tail _ (.tail _ (.tail _ (.head _)))))) qk).mono ?_
  rintro e V2 hc
  rw [← HYS.out] at hc
  obtain ⟨ca, cl, cc, ck, rfl, hc, hb⟩ := hc.op
  replace q := q.below hb
  replace qk := qk.below hb
  replace qb := qb.trans (hb.mono qb.size)
  refine hK.out _ _ ⟨q.at w1.heap.size da dl dc dk ds dp (.tail _ (.tail _ (.tail _ (.tail _ (.tail _ (.tail _ (.head _))))))), q.at w2.heap.size xa xl xc xk xs xp (.tail _ (.tail _ (.tail _ (.tail _ (.tail _ (.head _)))))), q.at w3.heap.size ea el ec ek es ep (.tail _ (.tail _ (.tail _ (.tail _ (.head _))))), q.at w4.heap.size ya yl yc yk ys ([] : List Pat) (.tail _ (.tail _ (.tail _ (.head _)))), q.at w5.heap.size za zl zc zk zs ([] : List Pat) (.tail _ (.tail _ (.head _))), q.at w8.heap.size ua ul uc uk xs xp (.head _)⟩ (fun hG => ?_)
  clear hK K
  try simp only [Act.put, List.setIfInBounds_toArray, List.set_cons_zero, List.set_cons_succ]
  clear hb hH
  have hH := hG
  clear hG
  refine wpAnyH_ready (rs := [14]) (by kernel_rfl) (by simp) ?_
  refine AllReadyH.cons rfl (fun K hK => ?_) AllReadyH.nil
  go_simp
  refine (likeDev_same (dvOf ya yl yc yk ys ([] : List Pat)) (dvOf ca cl cc ck ys []) _ (q.rd w4.heap.size ya yl yc yk ys ([] : List Pat) (.tail _ (.tail _ (.tail _ (.head _))))) hc rfl rfl).mono ?_
  rintro e V3 ⟨rfl, hb⟩
  replace q := q.below hb
  replace qk := qk.below hb
  replace qb := qb.trans (hb.mono qb.size)
  refine hK.out _ _ ⟨q.at w1.heap.size da dl dc dk ds dp (.tail _ (.tail _ (.tail _ (.tail _ (.tail _ (.tail _ (.head _))))))), q.at w2.heap.size xa xl xc xk xs xp (.tail _ (.tail _ (.tail _ (.tail _ (.tail _ (.head _)))))), q.at w3.heap.size ea el ec ek es ep (.tail _ (.tail _ (.tail _ (.tail _ (.head _))))), q.at w4.heap.size ya yl yc yk ys ([] : List Pat) (.tail _ (.tail _ (.tail _ (.head _)))), q.at w5.heap.size za zl zc zk zs ([] : List Pat) (.tail _ (.tail _ (.head _))), q.at w8.heap.size ua ul uc uk xs xp (.head _)⟩ (fun hG => ?_)
  clear hK K
  try simp only [Act.put, List.setIfInBounds_toArray, List.set_cons_zero, List.set_cons_succ]
  clear hb hH
  have hH := hG
  clear hG
  clear hc
  refine tkG 15 76 hH ?_
  try simp only [Act.put, List.setIfInBounds_toArray, List.set_cons_zero, List.set_cons_succ]
  refine tkG 16 77 hH ?_
  try simp only [Act.put, List.setIfInBounds_toArray, List.set_cons_zero, List.set_cons_succ]
  refine tkG 17 78 hH ?_
  try simp only [Act.put, List.setIfInBounds_toArray, List.set_cons_zero, List.set_cons_succ]
  refine tkG 18 79 hH ?_
  try simp only [Act.put, List.setIfInBounds_toArray, List.set_cons_zero, List.set_cons_succ]
  refine tkG 19 80 hH ?_
  try simp only [Act.put, List.setIfInBounds_toArray, List.set_cons_zero, List.set_cons_succ]
  refine wpAnyH_ready (rs := [20]) (by kernel_rfl) (by simp) ?_
  refine AllReadyH.cons rfl (fun K hK => ?_) AllReadyH.nil
  go_simp
  refine (specBarrier_any (dvOf ea el ec ek es ep) _ (q.rd w3.heap.size ea el ec ek es ep (.tail _ (.tail _ (.tail _ (.tail _ (.head _)))))) (Nat.le_trans he2 (by decide))).mono ?_
  rintro e V4 hc
  rw [← HZS.out] at hc
  obtain ⟨fa, fl, fc, fk, rfl, hc, hb⟩ := hc.op
  replace q := q.below hb
  replace qk := qk.below hb
  replace qb := qb.trans (hb.mono qb.size)
  refine hK.out _ _ ⟨q.at w1.heap.size da dl dc dk ds dp (.tail _ (.tail _ (.tail _ (.tail _ (.tail _ (.tail _ (.head _))))))), q.at w2.heap.size xa xl xc xk xs xp (.tail _ (.tail _ (.tail _ (.tail _ (.tail _ (.head _)))))), q.at w3.heap.size ea el ec ek es ep (.tail _ (.tail _ (.tail _ (.tail _ (.head _))))), q.at w4.heap.size ya yl yc yk ys ([] : List Pat) (.tail _ (.tail _ (.tail _ (.head _)))), q.at w5.heap.size za zl zc zk zs ([] : List Pat) (.tail _ (.tail _ (.head _))), q.at w8.heap.size ua ul uc uk xs xp (.head _)⟩ (fun hG => ?_)
  clear hK K
  try simp only [Act.put, List.setIfInBounds_toArray, List.set_cons_zero, List.set_cons_succ]
  clear hb hH
  have hH := hG
  clear hG
  refine wpAnyH_ready (rs := [21]) (by kernel_rfl) (by simp) ?_
  refine AllReadyH.cons rfl (fun K hK => ?_) AllReadyH.nil
  go_simp
  refine (likeDev_same (dvOf za zl zc zk zs ([] : List Pat)) (dvOf fa fl fc fk zs []) _ (q.rd w5.heap.size za zl zc zk zs ([] : List Pat) (.tail _ (.tail _ (.head _)))) hc rfl rfl).mono ?_
  rintro e V5 ⟨rfl, hb⟩
  replace q := q.below hb
  replace qk := qk.below hb
  replace qb := qb.trans (hb.mono qb.size)
  refine hK.out _ _ ⟨q.at w1.heap.size da dl dc dk ds dp (.tail _ (.tail _ (.tail _ (.tail _ (.tail _ (.tail _ (.head _))))))), q.at w2.heap.size xa xl xc xk xs xp (.tail _ (.tail _ (.tail _ (.tail _ (.tail _ (.head _)))))), q.at w3.heap.size ea el ec ek es ep (.tail _ (.tail _ (.tail _ (.tail _ (.head _))))), q.at w4.heap.size ya yl yc yk ys ([] : List Pat) (.tail _ (.tail _ (.tail _ (.head _)))), q.at w5.heap.size za zl zc zk zs ([] : List Pat) (.tail _ (.tail _ (.head _))), q.at w8.heap.size ua ul uc uk xs xp (.head _)⟩ (fun hG => ?_)
  clear hK K
  try simp only [Act.put, List.setIfInBounds_toArray, List.set_cons_zero, List.set_cons_succ]
  clear hb hH
  have hH := hG
  clear hG
  clear hc
  refine tkG 22 83 hH ?_
  try simp only [Act.put, List.setIfInBounds_toArray, List.set_cons_zero, List.set_cons_succ]
  refine tkG 23 84 hH ?_
  try simp only [Act.put, List.setIfInBounds_toArray, List.set_cons_zero, List.set_cons_succ]
  refine tkG 24 85 hH ?_
  try simp only [Act.put, List.setIfInBounds_toArray, List.set_cons_zero, List.set_cons_succ]
  refine tkG 25 86 hH ?_
  try simp only [Act.put, List.setIfInBounds_toArray, List.set_cons_zero, List.set_cons_succ]
  refine tkG 26 87 hH ?_
  try simp only [Act.put, List.setIfInBounds_toArray, List.set_cons_zero, List.set_cons_succ]
  refine tkG 28 89 hH ?_
  try simp only [Act.put, List.setIfInBounds_toArray, List.set_cons_zero, List.set_cons_succ]
  refine tkG 29 90 hH ?_
  try simp only [Act.put, List.setIfInBounds_toArray, List.set_cons_zero, List.set_cons_succ]
  refine wpAnyH_ready (rs := [27]) (by kernel_rfl) (by simp) ?_
  refine AllReadyH.cons rfl (fun K hK => ?_) AllReadyH.nil
  go_simp
  refine (implLies_any (dvOf da dl dc dk ds dp) p _ (q.rd w1.heap.size da dl dc dk ds dp (.tail _ (.tail _ (.tail _ (.tail _ (.tail _ (.tail _ (.head _))))))))).mono ?_
  rintro e V6 ⟨he, hb⟩
  replace he : e = .returned (.string (liesL ds dp p)) := he
  subst he
  replace q := q.below hb
  replace qk := qk.below hb
  replace qb := qb.trans (hb.mono qb.size)
  refine hK.out _ _ ⟨q.at w1.heap.size da dl dc dk ds dp (.tail _ (.tail _ (.tail _ (.tail _ (.tail _ (.tail _ (.head _))))))), q.at w2.heap.size xa xl xc xk xs xp (.tail _ (.tail _ (.tail _ (.tail _ (.tail _ (.head _)))))), q.at w3.heap.size ea el ec ek es ep (.tail _ (.tail _ (.tail _ (.tail _ (.head _))))), q.at w4.heap.size ya yl yc yk ys ([] : List Pat) (.tail _ (.tail _ (.tail _ (.head _)))), q.at w5.heap.size za zl zc zk zs ([] : List Pat) (.tail _ (.tail _ (.head _))), q.at w8.heap.size ua ul uc uk xs xp (.head _)⟩ (fun hG => ?_)
  clear hK K
  try simp only [Act.put, List.setIfInBounds_toArray, List.set_cons_zero, List.set_cons_succ]
  clear hb hH
  have hH := hG
  clear hG
  refine wpAnyH_ready (rs := [30]) (by kernel_rfl) (by simp) ?_
  refine AllReadyH.cons rfl (fun K hK => ?_) AllReadyH.nil
  go_simp
  refine (specLies_any (dvOf da dl dc dk ds dp) p _ (q.rd w1.heap.size da dl dc dk ds dp (.tail _ (.tail _ (.tail _ (.tail _ (.tail _ (.tail _ (.head _))))))))).mono ?_
  rintro e V7 ⟨he, hb⟩
  replace he : e = .returned (.string (liesL ds dp p)) := he
  subst he
  replace q := q.below hb
  replace qk := qk.below hb
  replace qb := qb.trans (hb.mono qb.size)
  refine hK.out _ _ ⟨q.at w1.heap.size da dl dc dk ds dp (.tail _ (.tail _ (.tail _ (.tail _ (.tail _ (.tail _ (.head _))))))), q.at w2.heap.size xa xl xc xk xs xp (.tail _ (.tail _ (.tail _ (.tail _ (.tail _ (.head _)))))), q.at w3.heap.size ea el ec ek es ep (.tail _ (.tail _ (.tail _ (.tail _ (.head _))))), q.at w4.heap.size ya yl yc yk ys ([] : List Pat) (.tail _ (.tail _ (.tail _ (.head _)))), q.at w5.heap.size za zl zc zk zs ([] : List Pat) (.tail _ (.tail _ (.head _))), q.at w8.heap.size ua ul uc uk xs xp (.head _)⟩ (fun hG => ?_)
  clear hK K
  try simp only [Act.put, List.setIfInBounds_toArray, List.set_cons_zero, List.set_cons_succ]
  clear hb hH
  have hH := hG
  clear hG
  generalize liesL ds dp p = ll
  refine tkG 31 92 hH ?_
  try simp only [Act.put, List.setIfInBounds_toArray, List.set_cons_zero, List.set_cons_succ]
  refine tkG 32 93 hH ?_
  try simp only [Act.put, List.setIfInBounds_toArray, List.set_cons_zero, List.set_cons_succ]
  refine tkG 33 94 hH ?_
  try simp only [Act.put, List.setIfInBounds_toArray, List.set_cons_zero, List.set_cons_succ]
  refine tkG 34 95 hH ?_
  try simp only [Act.put, List.setIfInBounds_toArray, List.set_cons_zero, List.set_cons_succ]
  refine tkG 36 97 hH ?_
  try simp only [Act.put, List.setIfInBounds_toArray, List.set_cons_zero, List.set_cons_succ]
  refine wpAnyH_ready (rs := [35]) (by kernel_rfl) (by simp) ?_
  refine AllReadyH.cons rfl (fun K hK => ?_) AllReadyH.nil
  go_simp
  refine (implDeviceOk_any (dvOf da dl dc dk ds dp) _ (q.rd w1.heap.size da dl dc dk ds dp (.tail _ (.tail _ (.tail _ (.tail _ (.tail _ (.tail _ (.head _))))))))).mono ?_
  rintro e V8 ⟨he, hb⟩
  replace he : e = .returned (.bool (devOk ds dp)) := he
  subst he
  replace q := q.below hb
  replace qk := qk.below hb
  replace qb := qb.trans (hb.mono qb.size)
  refine hK.out _ _ ⟨q.at w1.heap.size da dl dc dk ds dp (.tail _ (.tail _ (.tail _ (.tail _ (.tail _ (.tail _ (.head _))))))), q.at w2.heap.size xa xl xc xk xs xp (.tail _ (.tail _ (.tail _ (.tail _ (.tail _ (.head _)))))), q.at w3.heap.size ea el ec ek es ep (.tail _ (.tail _ (.tail _ (.tail _ (.head _))))), q.at w4.heap.size ya yl yc yk ys ([] : List Pat) (.tail _ (.tail _ (.tail _ (.head _)))), q.at w5.heap.size za zl zc zk zs ([] : List Pat) (.tail _ (.tail _ (.head _))), q.at w8.heap.size ua ul uc uk xs xp (.head _)⟩ (fun hG => ?_)
  clear hK K
  try simp only [Act.put, List.setIfInBounds_toArray, List.set_cons_zero, List.set_cons_succ]
  clear hb hH
  have hH := hG
  clear hG
  refine wpAnyH_ready (rs := [37]) (by kernel_rfl) (by simp) ?_
  refine AllReadyH.cons rfl (fun K hK => ?_) AllReadyH.nil
  go_simp
  refine (specDeviceOk_any (dvOf da dl dc dk ds dp) _ (q.rd w1.heap.size da dl dc dk ds dp (.tail _ (.tail _ (.tail _ (.tail _ (.tail _ (.tail _ (.head _))))))))).mono ?_
  rintro e V9 ⟨he, hb⟩
  replace he : e = .returned (.bool (devOk ds dp)) := he
  subst he
  replace q := q.below hb
  replace qk := qk.below hb
  replace qb := qb.trans (hb.mono qb.size)
  refine hK.out _ _ ⟨q.at w1.heap.size da dl dc dk ds dp (.tail _ (.tail _ (.tail _ (.tail _ (.tail _ (.tail _ (.head _))))))), q.at w2.heap.size xa xl xc xk xs xp (.tail _ (.tail _ (.tail _ (.tail _ (.tail _ (.head _)))))), q.at w3.heap.size ea el ec ek es ep (.tail _ (.tail _ (.tail _ (.tail _ (.head _))))), q.at w4.heap.size ya yl yc yk ys ([] : List Pat) (.tail _ (.tail _ (.tail _ (.head _)))), q.at w5.heap.size za zl zc zk zs ([] : List Pat) (.tail _ (.tail _ (.head _))), q.at w8.heap.size ua ul uc uk xs xp (.head _)⟩ (fun hG => ?_)
  clear hK K
  try simp only [Act.put, List.setIfInBounds_toArray, List.set_cons_zero, List.set_cons_succ]
  clear hb hH
  have hH := hG
  clear hG
  have hnd : (devOk ds dp != devOk ds dp) = false := by simp
  generalize devOk ds dp = dd at hnd ⊢
  refine tkG 38 99 hH ?_
  try simp only [Act.put, List.setIfInBounds_toArray, List.set_cons_zero, List.set_cons_succ]
  refine tkG 39 100 hH ?_
  try simp only [Act.put, List.setIfInBounds_toArray, List.set_cons_zero, List.set_cons_succ]
  refine wpAnyH_done (by kernel_rfl) ?_ _
  refine NoPanic.normal ?_
  go_wp2_with fail
  refine (specNew_any n _).mono ?_
  rintro e w12 h12
  rw [← HNS.out, ← HNO.out] at h12
  obtain ⟨ta, tl, tc, tk, rfl, ht, b12⟩ := h12.op
  have bw := qb.trans (b12.mono qb.size)
  have B9' := q.below b12
  have hk := qk.below b12
  clear h12 b12 qb q qk
  have hno : (no != no) = false := by cases no <;> rfl
  have B9 : Bx (w12.alloc (.cells #[.slice ta ns.length tc, .slice tl 0 tk] 27)) _ := B9'.new ht 27
  have bl := below1 w12 (.cells #[.slice ta ns.length tc, .slice tl 0 tk] 27)
  have bb := bw.trans (bl.mono bw.size)
  obtain ⟨c0, c0'⟩ := B9.at w7.heap.size na nl nc nk ns ([] : List Pat) (.tail _ (.tail _ (.head _)))
  obtain ⟨c1, c1'⟩ := B9.at w12.heap.size ta tl tc tk ns ([] : List Pat) (.head _)
  clear bw ht B9'
  go_wp2_with fail
  clear c0 c0'
  clear c1 c1'
  revert bb bl B9
  generalize w12.alloc (.cells #[.slice ta ns.length tc, .slice tl 0 tk] 27) = W9
  intro B9 bl bb
  replace hk := hk.below bl
  clear bl hno
  refine (likeDev_same (dvOf na nl nc nk ns ([] : List Pat)) (dvOf ta tl tc tk ns ([] : List Pat)) _ (B9.rd w7.heap.size na nl nc nk ns ([] : List Pat) (.tail _ (.tail _ (.head _)))) (B9.rd w12.heap.size ta tl tc tk ns ([] : List Pat) (.head _)) rfl rfl).mono ?_
  rintro e w13 ⟨rfl, b13⟩
  replace hk := hk.below b13
  replace bb := bb.trans (b13.mono bb.size)
  replace B9 := B9.below b13
  clear b13
  go_upto_region 16 with fail
  go_cut [127] (fun t127 W => t127 = .bool false ∧ Bx W [(w12.heap.size, dvOf ta tl tc tk ns ([] : List Pat)), (w8.heap.size, dvOf ua ul uc uk xs xp), (w7.heap.size, dvOf na nl nc nk ns ([] : List Pat)), (w5.heap.size, dvOf za zl zc zk zs ([] : List Pat)), (w4.heap.size, dvOf ya yl yc yk ys ([] : List Pat)), (w3.heap.size, dvOf ea el ec ek es ep), (w2.heap.size, dvOf xa xl xc xk xs xp), (w1.heap.size, dvOf da dl dc dk ds dp)] ∧ RdB W vk kp ∧ Below w.heap.size w W)
  case first =>
    cases xo with
    | false =>
      go_wp2
      go_meet
      case rel => exact ⟨rfl, B9, hk, bb⟩
    | true =>
      obtain ⟨c0, c0'⟩ := B9.at w2.heap.size xa xl xc xk xs xp (.tail _ (.tail _ (.tail _ (.tail _ (.tail _ (.tail _ (.head _)))))))
      have hO : layO ds dp p t = true := HXO.out.symm
      have hD : devOk ds dp = true := by
        unfold layO at hO
        simp only [Bool.and_eq_true] at hO
        exact hO.1.1
      have HA : Hid (liesL xs xp p = t) := by unfold Hid; rw [HXS.out, HXP.out]; exact lies_lay hO
      have HB : Hid (devOk xs xp = true) := by unfold Hid; rw [HXS.out, HXP.out]; exact (dev_lay hD).1
      clear hO hD
      go_wp2_with fail
      clear c0 c0'
      refine (implLies_any (dvOf xa xl xc xk xs xp) p _ (B9.rd w2.heap.size xa xl xc xk xs xp (.tail _ (.tail _ (.tail _ (.tail _ (.tail _ (.tail _ (.head _))))))))).mono ?_
      rintro e w14 ⟨he, b14⟩
      replace he : e = .returned (.string t) := by rw [he]; exact congrArg (fun x => Ending.returned (.string x)) HA.out
      subst he
      replace hk := hk.below b14
      replace bb := bb.trans (b14.mono bb.size)
      replace B9 := B9.below b14
      clear b14
      obtain ⟨c0, c0'⟩ := B9.at w2.heap.size xa xl xc xk xs xp (.tail _ (.tail _ (.tail _ (.tail _ (.tail _ (.tail _ (.head _)))))))
      go_wp2_with fail
      clear c0 c0'
      refine (implDeviceOk_any (dvOf xa xl xc xk xs xp) _ (B9.rd w2.heap.size xa xl xc xk xs xp (.tail _ (.tail _ (.tail _ (.tail _ (.tail _ (.tail _ (.head _))))))))).mono ?_
      rintro e w14 ⟨he, b14⟩
      replace he : e = .returned (.bool true) := by rw [he]; exact congrArg (fun x => Ending.returned (.bool x)) HB.out
      subst he
      replace hk := hk.below b14
      replace bb := bb.trans (b14.mono bb.size)
      replace B9 := B9.below b14
      clear b14
      go_wp2
      go_meet
      case rel => exact ⟨rfl, B9, hk, bb⟩
  case rest =>
    clear B9 hk bb
    obtain ⟨rfl, B9, hk, bb⟩ := hcut
    obtain ⟨c0, c0'⟩ := B9.at w3.heap.size ea el ec ek es ep (.tail _ (.tail _ (.tail _ (.tail _ (.tail _ (.head _))))))
    go_wp2_with fail
    clear c0 c0'
    refine (specDeviceOk_any (dvOf ea el ec ek es ep) _ (B9.rd w3.heap.size ea el ec ek es ep (.tail _ (.tail _ (.tail _ (.tail _ (.tail _ (.head _)))))))).mono ?_
    rintro e w15 ⟨rfl, b15⟩
    replace hk := hk.below b15
    replace bb := bb.trans (b15.mono bb.size)
    replace B9 := B9.below b15
    clear b15
    obtain ⟨ok, hok⟩ : ∃ ok, ok = devOk es ep := ⟨_, rfl⟩
    have HOK : Hid (ok = devOk es ep) := hok
    rw [show devOk (dvOf ea el ec ek es ep).secs (dvOf ea el ec ek es ep).late = ok from hok.symm]
    clear hok
    cases ok with
    | false =>
      obtain rfl : ys = [] := by rw [HYS.out]; exact cutL_no HOK.out.symm
      obtain rfl : zs = [] := by rw [HZS.out]; exact cutL_no HOK.out.symm
      clear HYS HZS
      obtain ⟨c0, c0'⟩ := B9.at w4.heap.size ya yl yc yk [] ([] : List Pat) (.tail _ (.tail _ (.tail _ (.tail _ (.head _)))))
      rw [List.length_nil] at c0
      go_wp2_with fail
      clear c0 c0'
      refine (likeDev_same (dvOf ya yl yc yk [] ([] : List Pat)) (dvOf none none 0 0 [] []) _ (B9.rd w4.heap.size ya yl yc yk [] ([] : List Pat) (.tail _ (.tail _ (.tail _ (.tail _ (.head _)))))) (ownDv_zero _ 0).rd rfl rfl).mono ?_
      rintro e w16 ⟨rfl, b16⟩
      replace bb := bb.trans (b16.mono bb.size)
      replace B9 := B9.below b16
      clear b16
      obtain ⟨c0, c0'⟩ := B9.at w5.heap.size za zl zc zk [] ([] : List Pat) (.tail _ (.tail _ (.tail _ (.head _))))
      rw [List.length_nil] at c0
      go_wp2_with fail
      clear c0 c0'
      refine (likeDev_same (dvOf za zl zc zk [] ([] : List Pat)) (dvOf none none 0 0 [] []) _ (B9.rd w5.heap.size za zl zc zk [] ([] : List Pat) (.tail _ (.tail _ (.tail _ (.head _))))) (ownDv_zero _ 0).rd rfl rfl).mono ?_
      rintro e w16 ⟨rfl, b16⟩
      replace bb := bb.trans (b16.mono bb.size)
      go_wp2
      go_ret
      exact ⟨rfl, bb⟩
    | true =>
      have HE : Hid (devOk es ep = true) := HOK.out.symm
      have HY : Hid (devOk ys [] = true ∧ ys.length = es.length) := by unfold Hid; rw [HYS.out]; exact dev_cut _ HE.out
      have HZ : Hid (devOk zs [] = true ∧ zs.length = es.length) := by unfold Hid; rw [HZS.out]; exact dev_cut _ HE.out
      clear HOK
      go_wp2_with fail
      go_loopw [19] (fun i wr => ∃ k : Nat, k ≤ es.length ∧ i = .int .i64 k ∧ Bx wr [(w12.heap.size, dvOf ta tl tc tk ns ([] : List Pat)), (w8.heap.size, dvOf ua ul uc uk xs xp), (w7.heap.size, dvOf na nl nc nk ns ([] : List Pat)), (w5.heap.size, dvOf za zl zc zk zs ([] : List Pat)), (w4.heap.size, dvOf ya yl yc yk ys ([] : List Pat)), (w3.heap.size, dvOf ea el ec ek es ep), (w2.heap.size, dvOf xa xl xc xk xs xp), (w1.heap.size, dvOf da dl dc dk ds dp)] ∧ RdB wr vk kp ∧ Below w.heap.size w wr) (fun i _ => es.length - (intOf i).toNat)
      case atStart => exact ⟨0, Nat.zero_le _, rfl, B9, hk, bb⟩
      case round =>
        clear B9 hk bb
        obtain ⟨k, hk1, rfl, q, qk, qb⟩ := hrel
        obtain ⟨c0, c0'⟩ := q.at w3.heap.size ea el ec ek es ep (.tail _ (.tail _ (.tail _ (.tail _ (.tail _ (.head _))))))
        by_cases hlt : k < es.length
        · obtain ⟨c1, c1'⟩ := q.at w4.heap.size ya yl yc yk ys ([] : List Pat) (.tail _ (.tail _ (.tail _ (.tail _ (.head _)))))
          have hly : k < ys.length := by rw [HY.out.2]; exact hlt
          obtain ⟨yb, yo, hya, hy1⟩ := txt_at ((q.rd w4.heap.size ya yl yc yk ys ([] : List Pat) (.tail _ (.tail _ (.tail _ (.tail _ (.head _)))))).secs) k hly
          obtain ⟨eb, eo, hea, hz1⟩ := txt_at ((q.rd w3.heap.size ea el ec ek es ep (.tail _ (.tail _ (.tail _ (.tail _ (.tail _ (.head _))))))).secs) k hlt
          rw [hya] at c1
          rw [hea] at c0
          clear hya hea
          obtain ⟨Y0, hY0⟩ : ∃ Y0, Y0 = ys[k] := ⟨_, rfl⟩
          obtain ⟨E0, hE0⟩ : ∃ E0, E0 = es[k] := ⟨_, rfl⟩
          rw [← hY0] at hy1
          rw [← hE0] at hz1
          have HF : Hid (Y0 = E0 ∨ ∃ j, j < ep.length ∧ (nthP ep j).pos = (k : Int) ∧ (nthP ep j).text = Y0) := by unfold Hid; rw [hY0, hE0]; exact cut_found HE.out HYS.out hly hlt
          have HY0 : Hid (ys[k] = Y0) := hY0.symm
          clear hY0 hE0
          go_wp2
          go_quiet (fail)
          clear c0 c0' c1 c1' hy1 hz1
          have q0 := q.below (below_drewN' nq)
          have qk0 := qk.below (below_drewN' nq)
          have qb0 := below_drewN qb nq
          clear q qk qb
          go_wp2_with fail
          go_loopw [20, 21] (fun f m wi => ∃ (b : Bool) (j : Nat), j ≤ ep.length ∧ f = .bool b ∧ m = .int .i64 j ∧ Hid ((Y0 = E0 ∨ ∃ i, i < j ∧ (nthP ep i).pos = (k : Int) ∧ (nthP ep i).text = Y0) → b = true) ∧ Bx wi [(w12.heap.size, dvOf ta tl tc tk ns ([] : List Pat)), (w8.heap.size, dvOf ua ul uc uk xs xp), (w7.heap.size, dvOf na nl nc nk ns ([] : List Pat)), (w5.heap.size, dvOf za zl zc zk zs ([] : List Pat)), (w4.heap.size, dvOf ya yl yc yk ys ([] : List Pat)), (w3.heap.size, dvOf ea el ec ek es ep), (w2.heap.size, dvOf xa xl xc xk xs xp), (w1.heap.size, dvOf da dl dc dk ds dp)] ∧ RdB wi vk kp ∧ Below w.heap.size w wi) (fun _ m _ => ep.length - (intOf m).toNat)
          case atStart => exact ⟨_, 0, Nat.zero_le _, rfl, rfl, (fun h => by rcases h with h | ⟨i, hi, _⟩; rw [h]; simp; omega), q0, qk0, qb0⟩
          case round =>
            clear q0 qk0 qb0
            obtain ⟨b, j, hj1, rfl, rfl, HI, q, qk, qb⟩ := hrel
            obtain ⟨c0, c0'⟩ := q.at w3.heap.size ea el ec ek es ep (.tail _ (.tail _ (.tail _ (.tail _ (.tail _ (.head _))))))
            by_cases hjl : j < ep.length
            · obtain ⟨c1, c1'⟩ := q.at w4.heap.size ya yl yc yk ys ([] : List Pat) (.tail _ (.tail _ (.tail _ (.tail _ (.head _)))))
              obtain ⟨yb, yo, hya, hy1⟩ := txt_at ((q.rd w4.heap.size ya yl yc yk ys ([] : List Pat) (.tail _ (.tail _ (.tail _ (.tail _ (.head _)))))).secs) k hly
              obtain ⟨pb, po, hpa, hz1, hz2⟩ := ((q.rd w3.heap.size ea el ec ek es ep (.tail _ (.tail _ (.tail _ (.tail _ (.tail _ (.head _))))))).late).at rfl j hjl
              rw [hya] at c1
              rw [hpa] at c0'
              rw [HY0.out] at hy1
              clear hya hpa
              obtain ⟨x, hx⟩ : ∃ x, x = nthP ep j := ⟨_, rfl⟩
              have HX : Hid (x = nthP ep j) := hx
              rw [← hx] at hz1 hz2
              clear hx
              obtain ⟨pos, txt⟩ := x
              cases b with
              | true =>
                go_wp2
                go_quiet (fail)
                clear c0 c0' c1 c1' hy1 hz1 hz2
                go_wp2
                go_roundw
                case rel => exact ⟨_, j + 1, by omega, rfl, by go_num, (fun _ => rfl), q.below (below_drewN' _), qk.below (below_drewN' _), below_drewN qb _⟩
                case measure => simp [intOf]; omega
              | false =>
                by_cases hp : pos = (k : Int)
                · subst hp
                  go_wp2
                  go_quiet (fail)
                  clear c0 c0' c1 c1' hy1 hz1 hz2
                  go_wp2
                  go_roundw
                  case rel =>
                    refine ⟨_, j + 1, by omega, rfl, by go_num, (fun h => ?_), q.below (below_drewN' _), qk.below (below_drewN' _), below_drewN qb _⟩
                    rcases h with h | ⟨i, hi, h1, h2⟩
                    · exact absurd (HI.out (.inl h)) (by simp)
                    · rcases Nat.lt_or_ge i j with h3 | h3
                      · exact absurd (HI.out (.inr ⟨i, h3, h1, h2⟩)) (by simp)
                      · obtain rfl : i = j := by omega
                        rw [← HX.out] at h2
                        have h2 : txt = Y0 := h2
                        rw [h2]; simp
                  case measure => simp [intOf]; omega
                · have hpn : (pos == (k : Int)) = false := by simp [hp]
                  go_wp2
                  go_quiet (fail)
                  clear c0 c0' c1 c1' hy1 hz1 hz2
                  go_wp2
                  go_roundw
                  case rel =>
                    refine ⟨_, j + 1, by omega, rfl, by go_num, (fun h => ?_), q.below (below_drewN' _), qk.below (below_drewN' _), below_drewN qb _⟩
                    rcases h with h | ⟨i, hi, h1, h2⟩
                    · exact HI.out (.inl h)
                    · rcases Nat.lt_or_ge i j with h3 | h3
                      · exact HI.out (.inr ⟨i, h3, h1, h2⟩)
                      · obtain rfl : i = j := by omega
                        rw [← HX.out] at h1
                        exact absurd h1 hp
                  case measure => simp [intOf]; omega
            · have hje : j = ep.length := by omega
              subst hje
              obtain rfl : b = true := HI.out HF.out
              clear c0 HI
              obtain ⟨c0, c0'⟩ := q.at w3.heap.size ea el ec ek es ep (.tail _ (.tail _ (.tail _ (.tail _ (.tail _ (.head _))))))
              go_wp2_with fail
              clear c0 c0'
              have HLL : Hid (liesL zs [] (k : Int) = liesL es ep (k : Int)) := by unfold Hid; rw [HZS.out]; exact lies_bar HE.out hlt
              refine wp_region_noPanic ?_
              refine wp_region_held_drew (S := fun W => (W.cell? ⟨w3.heap.size, 0, none⟩ = some (.slice ea es.length ec) ∧ W.cell? ⟨w3.heap.size, 1, none⟩ = some (.slice el ep.length ek)) ∧ (W.cell? ⟨w5.heap.size, 0, none⟩ = some (.slice za zs.length zc) ∧ W.cell? ⟨w5.heap.size, 1, none⟩ = some (.slice zl 0 zk))) (by kernel_rfl) ⟨q.at w3.heap.size ea el ec ek es ep (.tail _ (.tail _ (.tail _ (.tail _ (.tail _ (.head _)))))), q.at w5.heap.size za zl zc zk zs ([] : List Pat) (.tail _ (.tail _ (.tail _ (.head _))))⟩ (fun hH => ?_)
              replace q := q.below (Below.refl wr.heap.size wr).drew
              replace qk : RdB wr.drew vk kp := qk.below (Below.refl wr.heap.size wr).drew
              replace qb := qb.drew
              revert hH q qk qb
              generalize wr.drew = V0
              intro hH q qk qb
              refine tkG 0 189 hH ?_
              try simp only [Act.put, List.setIfInBounds_toArray, List.set_cons_zero, List.set_cons_succ]
              refine tkG 1 190 hH ?_
              try simp only [Act.put, List.setIfInBounds_toArray, List.set_cons_zero, List.set_cons_succ]
              refine tkG 2 191 hH ?_
              try simp only [Act.put, List.setIfInBounds_toArray, List.set_cons_zero, List.set_cons_succ]
              refine tkG 3 192 hH ?_
              try simp only [Act.put, List.setIfInBounds_toArray, List.set_cons_zero, List.set_cons_succ]
              refine tkG 4 193 hH ?_
              try simp only [Act.put, List.setIfInBounds_toArray, List.set_cons_zero, List.set_cons_succ]
              refine tkG 6 195 hH ?_
              try simp only [Act.put, List.setIfInBounds_toArray, List.set_cons_zero, List.set_cons_succ]
              refine tkG 7 196 hH ?_
              try simp only [Act.put, List.setIfInBounds_toArray, List.set_cons_zero, List.set_cons_succ]
              refine wpAnyH_ready (rs := [5]) (by kernel_rfl) (by simp) ?_
              refine AllReadyH.cons rfl (fun K hK => ?_) AllReadyH.nil
              go_simp
              refine (implLies_any (dvOf za zl zc zk zs ([] : List Pat)) (k : Int) _ (q.rd w5.heap.size za zl zc zk zs ([] : List Pat) (.tail _ (.tail _ (.tail _ (.head _)))))).mono ?_
              rintro e V1 ⟨he, hb⟩
              replace he : e = .returned (.string (liesL es ep (k : Int))) := by rw [he]; exact congrArg (fun x => Ending.returned (.string x)) HLL.out
              subst he
              replace q := q.below hb
              replace qk := qk.below hb
              replace qb := qb.trans (hb.mono qb.size)
              refine hK.out _ _ ⟨q.at w3.heap.size ea el ec ek es ep (.tail _ (.tail _ (.tail _ (.tail _ (.tail _ (.head _)))))), q.at w5.heap.size za zl zc zk zs ([] : List Pat) (.tail _ (.tail _ (.tail _ (.head _))))⟩ (fun hG => ?_)
              clear hK K
              try simp only [Act.put, List.setIfInBounds_toArray, List.set_cons_zero, List.set_cons_succ]
              clear hb hH
              have hH := hG
              clear hG
              refine wpAnyH_ready (rs := [8]) (by kernel_rfl) (by simp) ?_
              refine AllReadyH.cons rfl (fun K hK => ?_) AllReadyH.nil
              go_simp
              refine (specLies_any (dvOf ea el ec ek es ep) (k : Int) _ (q.rd w3.heap.size ea el ec ek es ep (.tail _ (.tail _ (.tail _ (.tail _ (.tail _ (.head _)))))))).mono ?_
              rintro e V2 ⟨he, hb⟩
              replace he : e = .returned (.string (liesL es ep (k : Int))) := he
              subst he
              replace q := q.below hb
              replace qk := qk.below hb
              replace qb := qb.trans (hb.mono qb.size)
              refine hK.out _ _ ⟨q.at w3.heap.size ea el ec ek es ep (.tail _ (.tail _ (.tail _ (.tail _ (.tail _ (.head _)))))), q.at w5.heap.size za zl zc zk zs ([] : List Pat) (.tail _ (.tail _ (.tail _ (.head _))))⟩ (fun hG => ?_)
              clear hK K
              try simp only [Act.put, List.setIfInBounds_toArray, List.set_cons_zero, List.set_cons_succ]
              clear hb hH
              have hH := hG
              clear hG
              generalize liesL es ep (k : Int) = ll
              refine tkG 9 198 hH ?_
              try simp only [Act.put, List.setIfInBounds_toArray, List.set_cons_zero, List.set_cons_succ]
              refine tkG 10 199 hH ?_
              try simp only [Act.put, List.setIfInBounds_toArray, List.set_cons_zero, List.set_cons_succ]
              refine wpAnyH_done (by kernel_rfl) ?_ _
              refine NoPanic.normal ?_
              go_wp2
              go_roundw
              case rel => exact ⟨k + 1, by omega, by go_num, q, qk, qb⟩
              case measure => simp [intOf]; omega
        · have hke : k = es.length := by omega
          subst hke
          clear hlt hk1
          have hw0 : (IntKind.i64.wrap 0 == 0) = true := by decide
          go_wp2_with fail
          clear c0 c0'
          refine wp_region_noPanic ?_
          refine wp_region_held_drew (S := fun W => (W.cell? ⟨w4.heap.size, 0, none⟩ = some (.slice ya ys.length yc) ∧ W.cell? ⟨w4.heap.size, 1, none⟩ = some (.slice yl 0 yk)) ∧ (W.cell? ⟨w5.heap.size, 0, none⟩ = some (.slice za zs.length zc) ∧ W.cell? ⟨w5.heap.size, 1, none⟩ = some (.slice zl 0 zk))) (by kernel_rfl) ⟨q.at w4.heap.size ya yl yc yk ys ([] : List Pat) (.tail _ (.tail _ (.tail _ (.tail _ (.head _))))), q.at w5.heap.size za zl zc zk zs ([] : List Pat) (.tail _ (.tail _ (.tail _ (.head _))))⟩ (fun hH => ?_)
          replace q := q.below (Below.refl wr.heap.size wr).drew
          replace qk : RdB wr.drew vk kp := qk.below (Below.refl wr.heap.size wr).drew
          replace qb := qb.drew
          revert hH q qk qb
          generalize wr.drew = V0
          intro hH q qk qb
          refine tkG 0 200 hH ?_
          try simp only [Act.put, List.setIfInBounds_toArray, List.set_cons_zero, List.set_cons_succ]
          refine wpAnyH_ready (rs := [1]) (by kernel_rfl) (by simp) ?_
          refine AllReadyH.cons rfl (fun K hK => ?_) AllReadyH.nil
          go_simp
          refine (implDeviceOk_any (dvOf ya yl yc yk ys ([] : List Pat)) _ (q.rd w4.heap.size ya yl yc yk ys ([] : List Pat) (.tail _ (.tail _ (.tail _ (.tail _ (.head _))))))).mono ?_
          rintro e V1 ⟨he, hb⟩
          replace he : e = .returned (.bool true) := by rw [he]; exact congrArg (fun x => Ending.returned (.bool x)) HY.out.1
          subst he
          replace q := q.below hb
          replace qk := qk.below hb
          replace qb := qb.trans (hb.mono qb.size)
          refine hK.out _ _ ⟨q.at w4.heap.size ya yl yc yk ys ([] : List Pat) (.tail _ (.tail _ (.tail _ (.tail _ (.head _))))), q.at w5.heap.size za zl zc zk zs ([] : List Pat) (.tail _ (.tail _ (.tail _ (.head _))))⟩ (fun hG => ?_)
          clear hK K
          try simp only [Act.put, List.setIfInBounds_toArray, List.set_cons_zero, List.set_cons_succ]
          clear hb hH
          have hH := hG
          clear hG
          refine tkG 2 202 hH ?_
          try simp only [Act.put, List.setIfInBounds_toArray, List.set_cons_zero, List.set_cons_succ]
          refine tkG 3 203 hH ?_
          try simp only [Act.put, List.setIfInBounds_toArray, List.set_cons_zero, List.set_cons_succ]
          refine tkG 4 204 hH ?_
          try simp only [Act.put, List.setIfInBounds_toArray, List.set_cons_zero, List.set_cons_succ]
          refine tkG 5 205 hH ?_
          try simp only [Act.put, List.setIfInBounds_toArray, List.set_cons_zero, List.set_cons_succ]
          refine tkG 6 206 hH ?_
          try simp only [Act.put, List.setIfInBounds_toArray, List.set_cons_zero, List.set_cons_succ]
          refine tkG 7 207 hH ?_
          try simp only [Act.put, List.setIfInBounds_toArray, List.set_cons_zero, List.set_cons_succ]
          refine tkG 8 208 hH ?_
          try simp only [Act.put, List.setIfInBounds_toArray, List.set_cons_zero, List.set_cons_succ]
          refine tkG 9 209 hH ?_
          try simp only [Act.put, List.setIfInBounds_toArray, List.set_cons_zero, List.set_cons_succ]
          refine tkG 10 210 hH ?_
          try simp only [Act.put, List.setIfInBounds_toArray, List.set_cons_zero, List.set_cons_succ]
          refine tkG 11 211 hH ?_
          try simp only [Act.put, List.setIfInBounds_toArray, List.set_cons_zero, List.set_cons_succ]
          refine tkG 12 212 hH ?_
          try simp only [Act.put, List.setIfInBounds_toArray, List.set_cons_zero, List.set_cons_succ]
          refine tkG 13 213 hH ?_
          try simp only [Act.put, List.setIfInBounds_toArray, List.set_cons_zero, List.set_cons_succ]
          refine tkG 14 214 hH ?_
          try simp only [Act.put, List.setIfInBounds_toArray, List.set_cons_zero, List.set_cons_succ]
          refine tkG 16 216 hH ?_
          try simp only [Act.put, List.setIfInBounds_toArray, List.set_cons_zero, List.set_cons_succ]
          refine wpAnyH_ready (rs := [15]) (by kernel_rfl) (by simp) ?_
          refine AllReadyH.cons rfl (fun K hK => ?_) AllReadyH.nil
          go_simp
          refine (implCut_any (dvOf za zl zc zk zs ([] : List Pat)) vk kp _ (q.rd w5.heap.size za zl zc zk zs ([] : List Pat) (.tail _ (.tail _ (.tail _ (.head _))))) qk).mono ?_
          rintro e V2 hc
          have hc : ToDv V1 zs [] e V2 := by rw [← cut_none (s := zs) (kp := keepOf kp) HZ.out.1]; exact hc
          obtain ⟨ga, gl, gc, gk, rfl, hc, hb⟩ := hc.op
          replace q := q.below hb
          replace qk := qk.below hb
          replace qb := qb.trans (hb.mono qb.size)
          refine hK.out _ _ ⟨q.at w4.heap.size ya yl yc yk ys ([] : List Pat) (.tail _ (.tail _ (.tail _ (.tail _ (.head _))))), q.at w5.heap.size za zl zc zk zs ([] : List Pat) (.tail _ (.tail _ (.tail _ (.head _))))⟩ (fun hG => ?_)
          clear hK K
          try simp only [Act.put, List.setIfInBounds_toArray, List.set_cons_zero, List.set_cons_succ]
          clear hb hH
          have hH := hG
          clear hG
          refine wpAnyH_ready (rs := [17]) (by kernel_rfl) (by simp) ?_
          refine AllReadyH.cons rfl (fun K hK => ?_) AllReadyH.nil
          go_simp
          refine (likeDev_same (dvOf ga gl gc gk zs []) (dvOf za zl zc zk zs ([] : List Pat)) _ hc (q.rd w5.heap.size za zl zc zk zs ([] : List Pat) (.tail _ (.tail _ (.tail _ (.head _))))) rfl rfl).mono ?_
          rintro e V3 ⟨rfl, hb⟩
          replace q := q.below hb
          replace qk := qk.below hb
          replace qb := qb.trans (hb.mono qb.size)
          refine hK.out _ _ ⟨q.at w4.heap.size ya yl yc yk ys ([] : List Pat) (.tail _ (.tail _ (.tail _ (.tail _ (.head _))))), q.at w5.heap.size za zl zc zk zs ([] : List Pat) (.tail _ (.tail _ (.tail _ (.head _))))⟩ (fun hG => ?_)
          clear hK K
          try simp only [Act.put, List.setIfInBounds_toArray, List.set_cons_zero, List.set_cons_succ]
          clear hb hH
          have hH := hG
          clear hG
          refine tkG 18 218 hH ?_
          try simp only [Act.put, List.setIfInBounds_toArray, List.set_cons_zero, List.set_cons_succ]
          refine tkG 19 2 hH ?_
          try simp only [Act.put, List.setIfInBounds_toArray, List.set_cons_zero, List.set_cons_succ]
          refine wpAnyH_done (by kernel_rfl) ?_ _
          refine NoPanic.normal ?_
          go_wp2
          go_ret
          exact ⟨rfl, qb⟩

theorem own_fnDevices : ownKnob Try.prog.godebug = none := by kernel_rfl
theorem laidOut_fnDevices : laidOutB Try.prog = true := by kernel_rfl
set_option maxRecDepth 100000 in
theorem lifted_fnDevices (os : Os) (started : os.Started) (H : Type) (enc : TypeId × Value → H) :
    ReturnsInHanded {} Try.checked os 3 .any (Rows.fnDevicesSpec.pre6 enc Try.prog Try.f3 Rows.fnDevicesRow.domain false) (Rows.fnDevicesSpec.post enc Try.prog Try.f3 false true false false) := by
  refine returnsInHanded_of_change (C := Try.checked) own_fnDevices started (by kernel_rfl) Try.func3
    (ChangeSpec.witness6 (enc := enc) (C := Try.checked) false ⟨#[], #[.slice none 0 0], []⟩ 8 (by kernel_rfl) (by kernel_rfl) (by kernel_rfl) (by kernel_rfl)) ?_
  intro W base args ds gs before hval0 hW hcnd _
  have hval : ∀ (j : Nat) t v, Try.f3.params[j]? = some t → args[j]? = some v → Value.okWide Try.prog W .any base t v := hval0
  have hW' := hW
  obtain ⟨p, q, hA0, hV, rfl, hfz, hnd⟩ := hW
  have hA : DataW.TrodAll enc Try.prog W 0 (fun _ => true) true Try.f3.params.toList args.toList ds p := hA0
  rw [Try.params3] at hA hval
  obtain ⟨v0, vs0, d0, ds0, p0, q0, hargs, rfl, rfl, h0, r0⟩ := trodAll_cons hA
  obtain ⟨rfl, rfl, rfl⟩ := trodAll_nil r0
  obtain rfl : args = #[v0] := by cases args; simp_all
  obtain ⟨rfl, rfl⟩ := trodVars_none hV
  obtain ⟨a0, len0, cap0, rfl⟩ := okWide_slice Try.underlying22 (hval 0 22 v0 rfl rfl)
  have k0 := h0
  have lt0 : ∀ x ∈ p0, x.block < W.heap.size := by obtain ⟨m, hm⟩ := k0; exact DataW.trod_lt m _ _ _ hm
  obtain ⟨bs0, hr0⟩ : ∃ bs, Rd W (.slice a0 len0 cap0) bs := by
    obtain ⟨fuel, hf⟩ := h0
    rcases open_ints Try.underlying22 Try.underlying5 (by kernel_rfl) hf with ⟨hcs, _⟩ | ⟨x, l, c, zs, hcs, _, hl, hm, hz, _, hcell, hwz⟩
    · simp [Value.cells] at hcs
      obtain ⟨rfl, rfl, rfl⟩ := hcs
      exact ⟨[], rd_nil W⟩
    · simp [Value.cells] at hcs
      obtain ⟨rfl, rfl, rfl⟩ := hcs
      exact rd_of hl hm (by simpa using hz) hcell hwz
  clear hA0 hval0
  refine (lawDevF _ bs0 W hr0).mono fun e W' ⟨he, bel⟩ => ?_
  subst he
  exact ⟨_, rfl, _, _, _, [], _, [], hW', trodAll_mk1 (shut_bool Try.underlying4 _), (trodAll_cons_mk (Below.trod laidOut_fnDevices (by kernel_rfl) (of_decide_eq_true (by kernel_rfl)) k0 bel lt0) trodAll_mk0), rfl, bel.frame _, fun h => by cases h⟩
theorem over_fnDevices : Rows.fnDevicesRow.holds Try.pinned (OpenSpec.ofChange Rows.fnDevicesSpec) :=
  OpenClaim.holds_of_wide 3 Try.f3 rfl rfl rfl rfl rfl rfl rfl ⟨rfl, rfl, rfl, rfl, rfl⟩ rfl rfl rfl rfl rfl (by kernel_rfl) Try.func3 (by kernel_rfl)
    (of_decide_eq_true (by kernel_rfl)) (by unfold Func.isWrapper; first | (rw [if_pos (by decide +kernel)]; kernel_rfl) | (rw [if_neg (by decide +kernel)]; exact ⟨rfl, rfl⟩))
    (fun os started H enc _ => lifted_fnDevices os started H enc)
theorem fnDevices_holds : Rows.FnDevicesSaid := over_fnDevices
#print axioms fnDevices_holds

end Go.Proofs.Ytgmjoejoehhekaa
