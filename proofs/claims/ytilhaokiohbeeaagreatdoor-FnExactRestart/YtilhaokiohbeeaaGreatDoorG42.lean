/- The contract of the program's voter.doneOk. The contracts of the program's Replica.numbersOk, heardOk and News.ok. -/
import Derived.Test.YtilhaokiohbeeaaGreatDoorG35
import Derived.Test.YtilhaokiohbeeaaGreatDoorG31
import Derived.Test.YtilhaokiohbeeaaGreatDoorG03
import Derived.Test.YtilhaokiohbeeaaGreatDoorBlkVok
import Derived.LoopN
-- UNF Gen
namespace Go.Proofs.YtilhaokiohbeeaaGreatDoor
open Go.RowKit
theorem fnd_name {Xs : List BlX} {d : Int} {j : Nat} (hn : (Xs.map (fun x => namN x.b)).Nodup) (hj : j < (Xs.map (fun x => namN x.b)).length) (hx : (Xs.map (fun x => namN x.b)).getD j 0 = d) : (bsOf Xs).findIdx? (fun b => decide (namN b = d)) = some j := by
  have hjx : j < Xs.length := by simpa using hj
  have hd : namN (nthBs Xs j).b = d := by
    rw [← hx, nthBs_eq hjx]
    simp [List.getD, List.getElem?_eq_getElem hjx]
  rw [List.findIdx?_eq_some_iff_getElem]
  refine ⟨by rw [bsOf_len]; exact hjx, by rw [bsOf_get, hd]; simp, fun i hi => ?_⟩
  rw [bsOf_get]
  intro e
  have e2 : namN (nthBs Xs i).b = d := by simpa using e
  have hix : i < Xs.length := by omega
  have hp := List.pairwise_iff_getElem.1 hn i j (by simpa using hix) (by simpa using hjx) hi
  apply hp
  rw [List.getElem_map, List.getElem_map, ← nthBs_eq hix, ← nthBs_eq hjx, e2, hd]
theorem fnd_noname {Xs : List BlX} {d : Int} (h : d ∉ Xs.map (fun x => namN x.b)) : (bsOf Xs).findIdx? (fun b => decide (namN b = d)) = none := by
  rw [List.findIdx?_eq_none_iff]
  intro b hb
  unfold bsOf at hb
  obtain ⟨X, hX, rfl⟩ := List.mem_map.1 hb
  rw [decide_eq_false_iff_not]
  intro e
  exact h (List.mem_map.2 ⟨X, hX, e⟩)
def dnIStep (bs : List Blk) (r : List Int) (d pa : Int) (o : Option Nat) : Bool := match o with
  | none => false
  | some k => decide ((bs.getD k ⟨0, 0, prfZ, [], 0⟩).pa = pa) && dnI bs r d
theorem dnI_step (bs : List Blk) (r : List Int) (d pa : Int) : dnI bs (d :: r) pa = dnIStep bs r d pa (bs.findIdx? (fun b => decide (namN b = d))) := by
  rw [dnI]
  unfold dnIStep
  cases bs.findIdx? (fun b => decide (namN b = d)) <;> rfl
set_option maxHeartbeats 4000000 in
set_option maxRecDepth 100000 in
theorem doneOkV_any {w0 W : World} {g : Nat} {V : Vt} (h : VtA w0 W g V) (hd : RdI W V.X.vd V.X.dn) :
    Calls Tryz.prog 149 #[.pointer (some ⟨g, 0, none⟩)] W fun e w' => e = .returned (.bool (dnI (bsOf V.X.bs) V.X.dn 0)) ∧ w' = W := by
  have hrb := h.bl.rd
  have hrn := h.nm.rd
  have huni := h.uni
  have hbox := h.box.c17
  obtain ⟨X, vnm, mb, Ms, vst⟩ := V
  obtain ⟨xd, xn, xv, xo, xl, xr, xh, vb, Xs, vv, vs, vn, ns, vd, dn⟩ := X
  simp only [vtN] at hrb hrn hd huni hbox ⊢
  obtain ⟨-, -, -, -, -, -, -, -, -, -, q10, -, -, q13, q14, -, -⟩ := hbox
  obtain ⟨ab, cb, hvb, hlb, hmb, -⟩ := id hrb
  obtain ⟨ad, cd, hvd, hld, hmd, -⟩ := id hd
  unfold maxLen at hmb hmd
  obtain ⟨bn, hbn⟩ : ∃ k, k = Xs.length := ⟨_, rfl⟩
  obtain ⟨dl, hdl⟩ : ∃ k, k = dn.length := ⟨_, rfl⟩
  have HBN : Hid (bn = Xs.length) := hbn
  have HDL : Hid (dl = dn.length) := hdl
  rw [← hbn] at hvb hlb
  rw [← hdl] at hvd hld
  have HIX : Hid (∀ d, Calls Tryz.prog 199 #[vnm, .int .i64 d] W fun e w' => IdxN W (Xs.map (fun x => namN x.b)) d e w') := fun d => idxN_any _ _ d W hrn
  have HUN : Hid ((Xs.map (fun x => namN x.b)).Nodup) := huni
  subst hvb hvd
  clear hbn hdl huni hrn h
  go_enter Tryz.func149, Tryz.ntmps149
  go_wp2
  go_loopw [3, 13] (fun pv iv wr => ∃ (i : Nat) (pa : Int), i ≤ dl ∧ iv = .int .i64 i ∧ pv = .int .i64 pa ∧ Hid (dnI (bsOf Xs) dn 0 = dnI (bsOf Xs) (dn.drop i) pa) ∧ wr = W) (fun _ iv _ => dl - (intOf iv).toNat)
  case atStart => exact ⟨0, 0, Nat.zero_le _, rfl, rfl, by unfold Hid; simp, rfl⟩
  case round =>
    obtain ⟨i, pa, hil, rfl, rfl, HJ, rfl⟩ := hrel
    by_cases hlt : i < dl
    · have hdi : i < dn.length := by rw [← HDL.out]; exact hlt
      obtain ⟨b2, off2, rfl, hdc⟩ := hd.at i hdi
      have hic : i < cd := by omega
      obtain ⟨d, hde⟩ : ∃ d, d = dn[i] := ⟨_, rfl⟩
      rw [← hde] at hdc
      have HST : Hid (dnI (bsOf Xs) dn 0 = dnIStep (bsOf Xs) (dn.drop (i + 1)) d pa ((bsOf Xs).findIdx? (fun b => decide (namN b = d)))) := by
        unfold Hid
        rw [HJ.out, List.drop_eq_getElem_cons hdi, dnI_step, ← hde]
      clear hde HJ
      go_wp2_with fail
      refine (HIX.out d).mono ?_
      rintro e w2 ⟨hw2, hz⟩
      subst hw2
      rcases hz with ⟨j, hj, hx, rfl⟩ | ⟨hx, rfl⟩
      · have hjx : j < Xs.length := by simpa using hj
        have hjb : j < bn := by rw [HBN.out]; exact hjx
        have hjc : j < cb := by omega
        have hj0 : ¬ (j : Int) < 0 := by omega
        obtain ⟨b, off, rfl, hc⟩ := hrb.atN j hjx
        have HGD : Hid ((bsOf Xs).getD j ⟨0, 0, prfZ, [], 0⟩ = (nthBs Xs j).b) := bsOf_getD Xs j hjx
        have HS2 : Hid (dnI (bsOf Xs) dn 0 = (decide ((nthBs Xs j).b.pa = pa) && dnI (bsOf Xs) (dn.drop (i + 1)) d)) := by
          unfold Hid
          rw [HST.out, fnd_name HUN.out hj hx]
          unfold dnIStep
          simp only
          rw [HGD.out]
        generalize nthBs Xs j = t at hc HS2
        obtain ⟨-, c1, -, -, -, -, -, -⟩ := id hc
        clear hc HST HGD hx hj hjx
        by_cases hpa : t.b.pa = pa
        · have hne : (t.b.pa != pa) = false := by simp [hpa]
          have HJ2 : Hid (dnI (bsOf Xs) dn 0 = dnI (bsOf Xs) (dn.drop (i + 1)) d) := by unfold Hid; rw [HS2.out]; simp [hpa]
          clear hpa HS2
          go_wp2
          go_roundw
          case rel => exact ⟨i + 1, d, by omega, by go_num, rfl, HJ2, by first | rfl | trivial⟩
          case measure => simp [intOf]; omega
        · have hne : (t.b.pa != pa) = true := by simp [hpa]
          have HJ2 : Hid (dnI (bsOf Xs) dn 0 = false) := by unfold Hid; rw [HS2.out]; simp [hpa]
          clear hpa HS2
          go_wp2
          go_ret
          exact ⟨ret_bool HJ2.out.symm, rfl⟩
      · have HJ2 : Hid (dnI (bsOf Xs) dn 0 = false) := by unfold Hid; rw [HST.out, fnd_noname hx]; rfl
        clear hx HST
        go_wp2
        go_ret
        exact ⟨ret_bool HJ2.out.symm, rfl⟩
    · have HE : Hid (dnI (bsOf Xs) dn 0 = true) := by
        have hie : i = dl := by omega
        unfold Hid
        rw [HJ.out, hie, HDL.out, List.drop_length]
        rfl
      clear HJ
      go_wp2
      go_ret
      exact ⟨ret_bool HE.out.symm, rfl⟩
end Go.Proofs.YtilhaokiohbeeaaGreatDoor
-- UNF Gen
namespace Go.Proofs.YtilhaokiohbeeaaGreatDoor
open Go.RowKit
set_option maxHeartbeats 1000000 in
set_option maxRecDepth 100000 in
theorem serverOk_any (x n : Int) (b : Bool) (h : (decide (0 ≤ x) && decide (x < n)) = b) (w : World) :
    Calls Tryz.prog 154 #[.int .i64 x, .int .i64 n] w fun e w' => e = .returned (.bool b) ∧ w' = w := by
  subst h
  go_enter Tryz.func154, Tryz.ntmps154
  go_wp2
  all_goals go_ret
  · exact ⟨by simp_all, rfl⟩
  · exact ⟨ret_bool (by rw [Bool.eq_iff_iff]; simp; omega), rfl⟩
theorem srv_dec {d n : Int} {b : Bool} (h : decide (0 ≤ d ∧ d ≤ n - 1) = b) : (decide (0 ≤ d) && decide (d < n)) = b := by
  rw [← h, Bool.eq_iff_iff]; simp; omega
theorem quo_dec {n : Int} {b : Bool} (h : srvB n = b) : (quoR n == -1) = !b := by
  cases b with
  | true => rcases srvB_iff.1 h with rfl | rfl | rfl <;> rfl
  | false => unfold quoR; unfold srvB at h; rw [decide_eq_false_iff_not] at h; rw [if_neg (by omega), if_neg (by omega), if_neg (by omega)]; rfl
set_option maxHeartbeats 4000000 in
set_option maxRecDepth 100000 in
theorem numbersOk_any (d n v o l r pv pn : Int) (hvs hvt vb vv vn vd : Value) (s1 s2 s3 s4 s5 s6 : Bool) (h1 : srvB n = s1) (h2 : decide (0 ≤ d ∧ d ≤ n - 1) = s2) (h3 : inV v = s3) (h4 : in0V o = s4) (h5 : in0V l = s5) (h6 : in0V r = s6) (w : World) :
    Calls Tryz.prog 145 #[.agg #[.int .i64 d, .int .i64 n, .int .i64 v, .int .i64 o, .int .i64 l, .int .i64 r, .int .i64 pv, .int .i64 pn, hvs, hvt, vb, vv, vn, vd]] w fun e w' => e = .returned (.bool (s1 && (s2 && (s3 && (s4 && (s5 && s6)))))) ∧ Below w.heap.size w w' := by
  have t0 := bx_new w 31 #[.int .i64 d, .int .i64 n, .int .i64 v, .int .i64 o, .int .i64 l, .int .i64 r, .int .i64 pv, .int .i64 pn, hvs, hvt, vb, vv, vn, vd]
  have B0 := below1 w (.cells #[.int .i64 d, .int .i64 n, .int .i64 v, .int .i64 o, .int .i64 l, .int .i64 r, .int .i64 pv, .int .i64 pn, hvs, hvt, vb, vv, vn, vd] 31)
  obtain ⟨q0, q1, q2, q3, q4, q5, q6, q7, q8, q9, q10, q11, q12, q13⟩ := t0.c14
  have HQ : Hid (∀ z, quoR n = z → ∀ W, Calls Tryz.prog 99 #[.int .i64 n] W fun e w' => e = .returned (.int .i64 z) ∧ w' = W) := fun z hz W => implQuorumZ_any z n hz W
  have HO : Hid (∀ W, Calls Tryz.prog 154 #[.int .i64 d, .int .i64 n] W fun e w' => e = .returned (.bool s2) ∧ w' = W) := fun W => serverOk_any d n s2 (srv_dec h2) W
  have HV : Hid (∀ W, Calls Tryz.prog 192 #[.int .i64 v] W fun e w' => e = .returned (.bool s3) ∧ w' = W) := fun W => viewOk_any s3 v h3 W
  have hq := quo_dec h1
  obtain ⟨q, hqe⟩ : ∃ q, quoR n = q := ⟨_, rfl⟩
  rw [hqe] at hq
  have HE : Hid (quoR n = q) := hqe
  unfold in0V at h4 h5 h6
  clear hqe h1 h2 h3 t0
  go_enter Tryz.func145, Tryz.ntmps145
  go_wp2_with fail
  refine (HQ.out _ HE.out _).mono ?_
  rintro e w2 ⟨rfl, rfl⟩
  cases s1 with
  | false =>
    simp only [Bool.not_false] at hq
    go_wp2
    go_ret
    exact ⟨rfl, B0⟩
  | true =>
  simp only [Bool.not_true] at hq
  go_wp2_with fail
  refine (HO.out _).mono ?_
  rintro e w2 ⟨rfl, rfl⟩
  cases s2 with
  | false =>
    go_wp2
    go_ret
    exact ⟨rfl, B0⟩
  | true =>
  go_wp2_with fail
  refine (HV.out _).mono ?_
  rintro e w2 ⟨rfl, rfl⟩
  cases s3 with
  | false =>
    go_wp2
    go_ret
    exact ⟨rfl, B0⟩
  | true =>
  go_wp2
  refine wp_loop_rounds 4 ?_
  rw [rounds_succ]
  by_cases hh0 : o < 0
  · have hs : s4 = false := by rw [← h4]; simp; omega
    go_wp2
    go_ret
    exact ⟨ret_bool (by first | rfl | (simp [hs]; done)), B0.alloc (by simp) _⟩
  by_cases hh1 : 100000 < o
  · have hs : s4 = false := by rw [← h4]; simp; omega
    go_wp2
    go_ret
    exact ⟨ret_bool (by first | rfl | (simp [hs]; done)), B0.alloc (by simp) _⟩
  have s4' : s4 = true := by rw [← h4]; simp; omega
  go_wp2
  clear hh0 hh1
  rw [rounds_succ]
  by_cases hh0 : l < 0
  · have hs : s5 = false := by rw [← h5]; simp; omega
    go_wp2
    go_ret
    exact ⟨ret_bool (by first | rfl | (simp [hs]; done)), B0.alloc (by simp) _⟩
  by_cases hh1 : 100000 < l
  · have hs : s5 = false := by rw [← h5]; simp; omega
    go_wp2
    go_ret
    exact ⟨ret_bool (by first | rfl | (simp [hs]; done)), B0.alloc (by simp) _⟩
  have s5' : s5 = true := by rw [← h5]; simp; omega
  go_wp2
  clear hh0 hh1
  rw [rounds_succ]
  by_cases hh0 : r < 0
  · have hs : s6 = false := by rw [← h6]; simp; omega
    go_wp2
    go_ret
    exact ⟨ret_bool (by first | rfl | (simp [hs]; done)), B0.alloc (by simp) _⟩
  by_cases hh1 : 100000 < r
  · have hs : s6 = false := by rw [← h6]; simp; omega
    go_wp2
    go_ret
    exact ⟨ret_bool (by first | rfl | (simp [hs]; done)), B0.alloc (by simp) _⟩
  have s6' : s6 = true := by rw [← h6]; simp; omega
  go_wp2
  clear hh0 hh1
  rw [rounds_succ]
  go_wp2
  go_ret
  exact ⟨ret_bool (by first | rfl | (simp [s4', s5', s6']; done)), B0.alloc (by simp) _⟩
set_option maxHeartbeats 1000000 in
set_option maxRecDepth 100000 in
theorem newsOk_any (x : Nws) (n : Int) (b : Bool) (h : newB n x = b) (w : World) :
    Calls Tryz.prog 194 #[.agg #[.int .i64 x.vw, .int .i64 x.sv], .int .i64 n] w fun e w' => e = .returned (.bool b) ∧ Below w.heap.size w w' := by
  obtain ⟨xv, xs⟩ := x
  have t0 := bx_new w 128 #[.int .i64 xv, .int .i64 xs]
  have B0 := below1 w (.cells #[.int .i64 xv, .int .i64 xs] 128)
  have q0 := t0.cell 0 rfl
  have q1 := t0.cell 1 rfl
  obtain ⟨y1, h1⟩ : ∃ z, inV xv = z := ⟨_, rfl⟩
  obtain ⟨y2, h2⟩ : ∃ z, decide (0 ≤ xs ∧ xs ≤ n - 1) = z := ⟨_, rfl⟩
  have HB : Hid (b = (y1 && y2)) := by unfold Hid; rw [← h]; unfold newB; rw [h1, h2]
  have HV : Hid (∀ W, Calls Tryz.prog 192 #[.int .i64 xv] W fun e w' => e = .returned (.bool y1) ∧ w' = W) := fun W => viewOk_any y1 xv h1 W
  have HO : Hid (∀ W, Calls Tryz.prog 154 #[.int .i64 xs, .int .i64 n] W fun e w' => e = .returned (.bool y2) ∧ w' = W) := fun W => serverOk_any xs n y2 (srv_dec h2) W
  clear h h1 h2 t0
  simp only
  go_enter Tryz.func194, Tryz.ntmps194
  go_wp2_with fail
  refine (HV.out _).mono ?_
  rintro e w2 ⟨rfl, rfl⟩
  cases y1 with
  | false =>
    go_wp2
    go_ret
    exact ⟨ret_bool HB.out.symm, B0⟩
  | true =>
  go_wp2_with fail
  refine (HO.out _).mono ?_
  rintro e w2 ⟨rfl, rfl⟩
  go_wp2
  go_ret
  exact ⟨ret_bool HB.out.symm, B0⟩
def heaB (n : Int) (vs : List Vot) (ns : List Nws) : Bool := decide (vs.length ≤ 60) && (decide (ns.length ≤ 30) && (vs.all (fun x => vokR x n) && ns.all (newB n)))
set_option maxHeartbeats 4000000 in
set_option maxRecDepth 100000 in
theorem heardOk_any (d n v o l r pv pn : Int) (hvs hvt vb vv vn vd : Value) (vs : List Vot) (ns : List Nws) (w : World) (hrv : RdVo w vv vs) (hrn : RdNw w vn ns) (hf : ∀ x ∈ vs, FitVo x) (ht : Tab w) :
    Calls Tryz.prog 146 #[.agg #[.int .i64 d, .int .i64 n, .int .i64 v, .int .i64 o, .int .i64 l, .int .i64 r, .int .i64 pv, .int .i64 pn, hvs, hvt, vb, vv, vn, vd]] w fun e w' => e = .returned (.bool (heaB n vs ns)) ∧ Below w.heap.size w w' := by
  obtain ⟨av, cv, hvv, hlv, hmv, -⟩ := id hrv
  obtain ⟨an, cn, hvn, hln, hmn, -⟩ := id hrn
  unfold maxLen at hmv hmn
  obtain ⟨R, hR⟩ : ∃ R, heaB n vs ns = R := ⟨_, rfl⟩
  have HR : Hid (R = (decide (vs.length ≤ 60) && (decide (ns.length ≤ 30) && (vs.all (fun x => vokR x n) && ns.all (newB n))))) := hR.symm
  rw [hR]
  have HVO : Hid (∀ k, k < vs.length → ∀ W, Below w.heap.size w W → Calls Tryz.prog 193 #[.agg #[.int .i64 (nthVo vs k).vw, .int .i64 (nthVo vs k).nm, .int .i64 (nthVo vs k).sv, .int .i64 (nthVo vs k).tg], .int .i64 n] W fun e w' => e = .returned (.bool (vokR (nthVo vs k) n)) ∧ Below W.heap.size W w') := fun k hk W hb => implVoteOk_any (nthVo vs k) n W (hf _ (by rw [nthVo_eq hk]; exact List.getElem_mem hk)) (ht.on hb)
  clear hR hf ht
  obtain ⟨vl, hvl⟩ : ∃ k, k = vs.length := ⟨_, rfl⟩
  obtain ⟨nl, hnl⟩ : ∃ k, k = ns.length := ⟨_, rfl⟩
  have HVL : Hid (vl = vs.length) := hvl
  have HNL : Hid (nl = ns.length) := hnl
  rw [← hvl] at hvv hlv
  rw [← hnl] at hvn hln
  rw [← hvl, ← hnl] at HR
  subst hvv hvn
  clear hvl hnl
  have t1 := bx_new w 31 #[.int .i64 d, .int .i64 n, .int .i64 v, .int .i64 o, .int .i64 l, .int .i64 r, .int .i64 pv, .int .i64 pn, hvs, hvt, vb, .slice av vl cv, .slice an nl cn, vd]
  have b1 := below1 w (.cells #[.int .i64 d, .int .i64 n, .int .i64 v, .int .i64 o, .int .i64 l, .int .i64 r, .int .i64 pv, .int .i64 pn, hvs, hvt, vb, .slice av vl cv, .slice an nl cn, vd] 31)
  obtain ⟨q0, q1, q2, q3, q4, q5, q6, q7, q8, q9, q10, q11, q12, q13⟩ := t1.c14
  go_enter Tryz.func146, Tryz.ntmps146
  by_cases hv60 : 60 < (vl : Int)
  · have HRF : Hid (R = false) := by
      unfold Hid
      rw [HR.out, decide_eq_false (show ¬ vl ≤ 60 by omega)]
      rfl
    go_wp2
    go_ret
    exact ⟨ret_bool HRF.out.symm, b1⟩
  by_cases hn30 : 30 < (nl : Int)
  · have HRF : Hid (R = false) := by
      unfold Hid
      rw [HR.out, decide_eq_false (show ¬ nl ≤ 30 by omega)]
      simp
    go_wp2
    go_ret
    exact ⟨ret_bool HRF.out.symm, b1⟩
  have HR3 : Hid (R = (vs.all (fun x => vokR x n) && ns.all (newB n))) := by
    unfold Hid
    rw [HR.out, decide_eq_true (show vl ≤ 60 by omega), decide_eq_true (show nl ≤ 30 by omega)]
    rfl
  clear HR
  go_wp2
  clear q0 q1 q2 q3 q4 q5 q6 q7 q8 q9 q10 q11 q12 q13
  have hM : True := trivial
  generalize hW1 : w.alloc (.cells #[.int .i64 d, .int .i64 n, .int .i64 v, .int .i64 o, .int .i64 l, .int .i64 r, .int .i64 pv, .int .i64 pn, hvs, hvt, vb, .slice av vl cv, .slice an nl cn, vd] 31) = W1 at t1 b1 ⊢
  clear hW1
  go_loopw [20] (fun iv wk => ∃ k9 : Nat, k9 ≤ vl ∧ iv = .int .i64 k9 ∧ Hid (∀ i, i < k9 → vokR (nthVo vs i) n = true) ∧ Bx wk w.heap.size 31 #[.int .i64 d, .int .i64 n, .int .i64 v, .int .i64 o, .int .i64 l, .int .i64 r, .int .i64 pv, .int .i64 pn, hvs, hvt, vb, .slice av vl cv, .slice an nl cn, vd] ∧ Below w.heap.size w wk) (fun iv _ => vl - (intOf iv).toNat)
  case atStart => exact ⟨0, Nat.zero_le _, rfl, (fun i h => by omega), t1, b1⟩
  case round =>
    clear t1 b1 hM
    obtain ⟨k9, hk9, rfl, HJ, t8, b8⟩ := hrel
    by_cases hlv9 : k9 < vl
    · have hkv : k9 < vs.length := by rw [← HVL.out]; exact hlv9
      obtain ⟨b9, o9, rfl, hcv⟩ := (hrv.below b8).at HVL.out k9 hkv
      have hkc : k9 < cv := by omega
      obtain ⟨vo, hvo⟩ : ∃ z, vokR (nthVo vs k9) n = z := ⟨_, rfl⟩
      have HVX : Hid (∀ W, Below w.heap.size w W → Calls Tryz.prog 193 #[.agg #[.int .i64 (nthVo vs k9).vw, .int .i64 (nthVo vs k9).nm, .int .i64 (nthVo vs k9).sv, .int .i64 (nthVo vs k9).tg], .int .i64 n] W fun e w' => e = .returned (.bool vo) ∧ Below W.heap.size W w') := fun W hb => by rw [← hvo]; exact HVO.out k9 hkv W hb
      have HVE : Hid (vokR (nthVo vs k9) n = vo) := hvo
      have HRV : Hid (vo = false → R = false) := fun h => by
        rw [HR3.out]
        have : vs.all (fun x => vokR x n) = false := by
          rw [List.all_eq_false]
          exact ⟨vs[k9], List.getElem_mem hkv, by rw [← nthVo_eq hkv, hvo, h]; simp⟩
        rw [this]; rfl
      have HJ2 : Hid (vokR (nthVo vs k9) n = true → ∀ i, i < k9 + 1 → vokR (nthVo vs i) n = true) := fun h i hi => by
        by_cases e : i = k9
        · rw [e]; exact h
        · exact HJ.out i (by omega)
      clear hvo hkv
      generalize nthVo vs k9 = x at hcv HVX HVE HJ2
      obtain ⟨c0, c1, c2, c3⟩ := hcv
      have u2 := bx_new wr 36 #[.int .i64 x.vw, .int .i64 x.nm, .int .i64 x.sv, .int .i64 x.tg]
      have t2 := t8.below (below1 wr (.cells #[.int .i64 x.vw, .int .i64 x.nm, .int .i64 x.sv, .int .i64 x.tg] 36))
      have b2 := b8.trans ((below1 wr (.cells #[.int .i64 x.vw, .int .i64 x.nm, .int .i64 x.sv, .int .i64 x.tg] 36)).mono b8.size)
      obtain ⟨q0, q1, q2, q3, q4, q5, q6, q7, q8, q9, q10, q11, q12, q13⟩ := t2.c14
      go_wp2_with fail
      clear c0 c1 c2 c3 q0 q1 q2 q3 q4 q5 q6 q7 q8 q9 q10 q11 q12 q13
      generalize wr.alloc (.cells #[.int .i64 x.vw, .int .i64 x.nm, .int .i64 x.sv, .int .i64 x.tg] 36) = W2 at u2 t2 b2 ⊢
      refine (HVX.out _ b2).mono ?_
      rintro e w9 ⟨rfl, hb9⟩
      have bA := b2.trans (hb9.mono b2.size)
      have tA := t2.below hb9
      clear hb9 t2 b2 u2 t8 b8 HVX
      cases vo with
      | false =>
        have HRF : Hid (R = false) := HRV.out rfl
        go_wp2
        go_ret
        exact ⟨ret_bool HRF.out.symm, bA⟩
      | true =>
        have HJ3 : Hid (∀ i, i < k9 + 1 → vokR (nthVo vs i) n = true) := HJ2.out HVE.out
        clear HJ2 HVE HRV
        go_wp2
        go_roundw
        case rel => exact ⟨k9 + 1, by omega, by go_num, HJ3, tA, bA⟩
        case measure => simp [intOf]; omega
    · have HR4 : Hid (R = ns.all (newB n)) := by
        have hke : k9 = vl := by omega
        unfold Hid
        have : vs.all (fun x => vokR x n) = true := by
          rw [List.all_eq_true]
          intro x hx
          obtain ⟨i, hi, rfl⟩ := List.getElem_of_mem hx
          rw [← nthVo_eq hi]
          exact HJ.out i (by rw [hke, HVL.out]; exact hi)
        rw [HR3.out, this]
        rfl
      clear HR3 HJ HVO
      obtain ⟨q0, q1, q2, q3, q4, q5, q6, q7, q8, q9, q10, q11, q12, q13⟩ := t8.c14
      go_wp2
      clear q0 q1 q2 q3 q4 q5 q6 q7 q8 q9 q10 q11 q12 q13
      go_loopw [33] (fun iv wk => ∃ k9 : Nat, k9 ≤ nl ∧ iv = .int .i64 k9 ∧ Hid (∀ i, i < k9 → newB n (nthNw ns i) = true) ∧ Bx wk w.heap.size 31 #[.int .i64 d, .int .i64 n, .int .i64 v, .int .i64 o, .int .i64 l, .int .i64 r, .int .i64 pv, .int .i64 pn, hvs, hvt, vb, .slice av vl cv, .slice an nl cn, vd] ∧ Below w.heap.size w wk) (fun iv _ => nl - (intOf iv).toNat)
      case atStart => exact ⟨0, Nat.zero_le _, rfl, (fun i h => by omega), t8, b8⟩
      case round =>
        clear t8 b8
        obtain ⟨k9, hk9, rfl, HJ, t8, b8⟩ := hrel
        by_cases hln9 : k9 < nl
        · have hkv : k9 < ns.length := by rw [← HNL.out]; exact hln9
          obtain ⟨b9, o9, rfl, hcv⟩ := (hrn.below b8).at HNL.out k9 hkv
          have hkc : k9 < cn := by omega
          obtain ⟨vo, hvo⟩ : ∃ z, newB n (nthNw ns k9) = z := ⟨_, rfl⟩
          have HVX : Hid (∀ W, Calls Tryz.prog 194 #[.agg #[.int .i64 (nthNw ns k9).vw, .int .i64 (nthNw ns k9).sv], .int .i64 n] W fun e w' => e = .returned (.bool vo) ∧ Below W.heap.size W w') := fun W => newsOk_any (nthNw ns k9) n vo hvo W
          have HVE : Hid (newB n (nthNw ns k9) = vo) := hvo
          have HRV : Hid (vo = false → R = false) := fun h => by
            rw [HR4.out, List.all_eq_false]
            exact ⟨ns[k9], List.getElem_mem hkv, by rw [← nthNw_eq hkv, hvo, h]; simp⟩
          have HJ2 : Hid (newB n (nthNw ns k9) = true → ∀ i, i < k9 + 1 → newB n (nthNw ns i) = true) := fun h i hi => by
            by_cases e : i = k9
            · rw [e]; exact h
            · exact HJ.out i (by omega)
          clear hvo hkv
          generalize nthNw ns k9 = x at hcv HVX HVE HJ2
          obtain ⟨c0, c1⟩ := hcv
          have u2 := bx_new wr 128 #[.int .i64 x.vw, .int .i64 x.sv]
          have t2 := t8.below (below1 wr (.cells #[.int .i64 x.vw, .int .i64 x.sv] 128))
          have b2 := b8.trans ((below1 wr (.cells #[.int .i64 x.vw, .int .i64 x.sv] 128)).mono b8.size)
          obtain ⟨q0, q1, q2, q3, q4, q5, q6, q7, q8, q9, q10, q11, q12, q13⟩ := t2.c14
          go_wp2_with fail
          clear c0 c1 q0 q1 q2 q3 q4 q5 q6 q7 q8 q9 q10 q11 q12 q13
          generalize wr.alloc (.cells #[.int .i64 x.vw, .int .i64 x.sv] 128) = W2 at u2 t2 b2 ⊢
          refine (HVX.out _).mono ?_
          rintro e w9 ⟨rfl, hb9⟩
          have bA := b2.trans (hb9.mono b2.size)
          have tA := t2.below hb9
          clear hb9 t2 b2 u2 t8 b8 HVX
          cases vo with
          | false =>
            have HRF : Hid (R = false) := HRV.out rfl
            go_wp2
            go_ret
            exact ⟨ret_bool HRF.out.symm, bA⟩
          | true =>
            have HJ3 : Hid (∀ i, i < k9 + 1 → newB n (nthNw ns i) = true) := HJ2.out HVE.out
            clear HJ2 HVE HRV
            go_wp2
            go_roundw
            case rel => exact ⟨k9 + 1, by omega, by go_num, HJ3, tA, bA⟩
            case measure => simp [intOf]; omega
        · have HR5 : Hid (R = true) := by
            have hke : k9 = nl := by omega
            unfold Hid
            rw [HR4.out, List.all_eq_true]
            intro x hx
            obtain ⟨i, hi, rfl⟩ := List.getElem_of_mem hx
            rw [← nthNw_eq hi]
            exact HJ.out i (by rw [hke, HNL.out]; exact hi)
          clear HR4 HJ
          go_wp2
          go_ret
          exact ⟨ret_bool HR5.out.symm, b8⟩
end Go.Proofs.YtilhaokiohbeeaaGreatDoor
