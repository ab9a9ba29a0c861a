/- Replicas: plain notions. The contracts of the program's Replica.numbersOk, heardOk and News.ok. The contracts of the model's l16Find and l16Known. -/
import Derived.Test.YtilhaokiohbeeaaGreatDoorG08
import Derived.Test.YtilhaokiohbeeaaGreatDoorG27
import Derived.Test.YtilhaokiohbeeaaGreatDoorBlxOkS
import Derived.Test.YtilhaokiohbeeaaGreatDoorG03
import Derived.Test.YtilhaokiohbeeaaGreatDoorBlkVok
import Derived.LoopN
namespace Go.Proofs.YtilhaokiohbeeaaGreatDoor
open Go.RowKit
/-- Has the Block this Name and this View? -/
def isB (nm vw : Int) (b : Blk) : Bool := decide (b.vw = vw) && decide (namN b = nm)
def fndB (bs : List Blk) (nm vw : Int) : Option Nat := bs.findIdx? (isB nm vw)
def optI (o : Option Nat) : Int := match o with | none => -1 | some k => (k : Int)
def knoB (bs : List Blk) (p : Prf) : Bool := frsB p || (fndB bs p.nm p.vw).isSome
/-- Is it the next of a chain, behind one of this Name and View? -/
def nxtB (d pa vw : Int) (b : Blk) : Bool := decide (namN b = d) && (decide (b.pa = pa) && decide (b.p.vw = vw))
/-- The last of the first k that is the next of the chain. -/
def lstB (bs : List Blk) (d pa vw : Int) : Nat → Option Nat
  | 0 => none
  | k + 1 => if nxtB d pa vw (bs.getD k ⟨0, 0, prfZ, [], 0⟩) = true then some k else lstB bs d pa vw k
def dnS (bs : List Blk) : List Int → Int → Int → Bool
  | [], _, _ => true
  | d :: r, pa, vw => match lstB bs d pa vw bs.length with
    | none => false
    | some k => dnS bs r d (bs.getD k ⟨0, 0, prfZ, [], 0⟩).vw
def dnI (bs : List Blk) : List Int → Int → Bool
  | [], _ => true
  | d :: r, pa => match bs.findIdx? (fun b => decide (namN b = d)) with
    | none => false
    | some k => decide ((bs.getD k ⟨0, 0, prfZ, [], 0⟩).pa = pa) && dnI bs r d
/-- May the Block come to these? -/
noncomputable def mayB (bs : List Blk) (n : Int) (b : Blk) : Bool := blkR b n && (knoB bs b.p && bs.all (fun c => decide (namN c ≠ namN b)))
noncomputable def blsB (bs : List Blk) (n : Int) : Nat → Bool
  | 0 => true
  | k + 1 => blsB bs n k && mayB (bs.take k) n (bs.getD k ⟨0, 0, prfZ, [], 0⟩)
def in0V (v : Int) : Bool := decide (0 ≤ v ∧ v ≤ 100000)
def newB (n : Int) (x : Nws) : Bool := inV x.vw && decide (0 ≤ x.sv ∧ x.sv ≤ n - 1)
def numB (X : Rep) : Bool := srvB X.n && (decide (0 ≤ X.idn ∧ X.idn ≤ X.n - 1) && (inV X.vw && (in0V X.vo && (in0V X.lo && in0V X.pr))))
/-- Is it a right Replica? -/
noncomputable def repR (X : Rep) : Bool :=
  numB X && (prfR X.hi X.n && (decide (X.bs.length ≤ 60) && (decide (X.vs.length ≤ 60) && (decide (X.ns.length ≤ 30) &&
    (blsB X.bs X.n X.bs.length && (X.vs.all (fun v => vokR v X.n) && (X.ns.all (newB X.n) && (knoB X.bs X.hi && dnS X.bs X.dn 0 0))))))))
end Go.Proofs.YtilhaokiohbeeaaGreatDoor
-- UNF Gen
namespace Go.Proofs.YtilhaokiohbeeaaGreatDoor
open Go.RowKit
set_option maxHeartbeats 1000000 in
set_option maxRecDepth 100000 in
theorem serverOk_any (x n : Int) (b : Bool) (h : (decide (0 ≤ x) && decide (x < n)) = b) (w : World) :
    Calls Tryz.prog 154 #[.int .i64 x, .int .i64 n] w fun e w' => e = .returned (.bool b) ∧ w' = w := by
  subst h
  go_enter Tryz.func154, Tryz.ntmps154
  go_wp2
  all_goals go_ret
  · exact ⟨by simp_all, rfl⟩
  · exact ⟨ret_bool (by rw [Bool.eq_iff_iff]; simp; omega), rfl⟩
theorem srv_dec {d n : Int} {b : Bool} (h : decide (0 ≤ d ∧ d ≤ n - 1) = b) : (decide (0 ≤ d) && decide (d < n)) = b := by
  rw [← h, Bool.eq_iff_iff]; simp; omega
theorem quo_dec {n : Int} {b : Bool} (h : srvB n = b) : (quoR n == -1) = !b := by
  cases b with
  | true => rcases srvB_iff.1 h with rfl | rfl | rfl <;> rfl
  | false => unfold quoR; unfold srvB at h; rw [decide_eq_false_iff_not] at h; rw [if_neg (by omega), if_neg (by omega), if_neg (by omega)]; rfl
set_option maxHeartbeats 4000000 in
set_option maxRecDepth 100000 in
theorem numbersOk_any (d n v o l r pv pn : Int) (hvs hvt vb vv vn vd : Value) (s1 s2 s3 s4 s5 s6 : Bool) (h1 : srvB n = s1) (h2 : decide (0 ≤ d ∧ d ≤ n - 1) = s2) (h3 : inV v = s3) (h4 : in0V o = s4) (h5 : in0V l = s5) (h6 : in0V r = s6) (w : World) :
    Calls Tryz.prog 145 #[.agg #[.int .i64 d, .int .i64 n, .int .i64 v, .int .i64 o, .int .i64 l, .int .i64 r, .int .i64 pv, .int .i64 pn, hvs, hvt, vb, vv, vn, vd]] w fun e w' => e = .returned (.bool (s1 && (s2 && (s3 && (s4 && (s5 && s6)))))) ∧ Below w.heap.size w w' := by
  have t0 := bx_new w 31 #[.int .i64 d, .int .i64 n, .int .i64 v, .int .i64 o, .int .i64 l, .int .i64 r, .int .i64 pv, .int .i64 pn, hvs, hvt, vb, vv, vn, vd]
  have B0 := below1 w (.cells #[.int .i64 d, .int .i64 n, .int .i64 v, .int .i64 o, .int .i64 l, .int .i64 r, .int .i64 pv, .int .i64 pn, hvs, hvt, vb, vv, vn, vd] 31)
  obtain ⟨q0, q1, q2, q3, q4, q5, q6, q7, q8, q9, q10, q11, q12, q13⟩ := t0.c14
  have HQ : Hid (∀ z, quoR n = z → ∀ W, Calls Tryz.prog 99 #[.int .i64 n] W fun e w' => e = .returned (.int .i64 z) ∧ w' = W) := fun z hz W => implQuorumZ_any z n hz W
  have HO : Hid (∀ W, Calls Tryz.prog 154 #[.int .i64 d, .int .i64 n] W fun e w' => e = .returned (.bool s2) ∧ w' = W) := fun W => serverOk_any d n s2 (srv_dec h2) W
  have HV : Hid (∀ W, Calls Tryz.prog 192 #[.int .i64 v] W fun e w' => e = .returned (.bool s3) ∧ w' = W) := fun W => viewOk_any s3 v h3 W
  have hq := quo_dec h1
  obtain ⟨q, hqe⟩ : ∃ q, quoR n = q := ⟨_, rfl⟩
  rw [hqe] at hq
  have HE : Hid (quoR n = q) := hqe
  unfold in0V at h4 h5 h6
  clear hqe h1 h2 h3 t0
  go_enter Tryz.func145, Tryz.ntmps145
  go_wp2_with fail
  refine (HQ.out _ HE.out _).mono ?_
  rintro e w2 ⟨rfl, rfl⟩
  cases s1 with
  | false =>
    simp only [Bool.not_false] at hq
    go_wp2
    go_ret
    exact ⟨rfl, B0⟩
  | true =>
  simp only [Bool.not_true] at hq
  go_wp2_with fail
  refine (HO.out _).mono ?_
  rintro e w2 ⟨rfl, rfl⟩
  cases s2 with
  | false =>
    go_wp2
    go_ret
    exact ⟨rfl, B0⟩
  | true =>
  go_wp2_with fail
  refine (HV.out _).mono ?_
  rintro e w2 ⟨rfl, rfl⟩
  cases s3 with
  | false =>
    go_wp2
    go_ret
    exact ⟨rfl, B0⟩
  | true =>
  go_wp2
  refine wp_loop_rounds 4 ?_
  rw [rounds_succ]
  by_cases hh0 : o < 0
  · have hs : s4 = false := by rw [← h4]; simp; omega
    go_wp2
    go_ret
    exact ⟨ret_bool (by first | rfl | (simp [hs]; done)), B0.alloc (by simp) _⟩
  by_cases hh1 : 100000 < o
  · have hs : s4 = false := by rw [← h4]; simp; omega
    go_wp2
    go_ret
    exact ⟨ret_bool (by first | rfl | (simp [hs]; done)), B0.alloc (by simp) _⟩
  have s4' : s4 = true := by rw [← h4]; simp; omega
  go_wp2
  clear hh0 hh1
  rw [rounds_succ]
  by_cases hh0 : l < 0
  · have hs : s5 = false := by rw [← h5]; simp; omega
    go_wp2
    go_ret
    exact ⟨ret_bool (by first | rfl | (simp [hs]; done)), B0.alloc (by simp) _⟩
  by_cases hh1 : 100000 < l
  · have hs : s5 = false := by rw [← h5]; simp; omega
    go_wp2
    go_ret
    exact ⟨ret_bool (by first | rfl | (simp [hs]; done)), B0.alloc (by simp) _⟩
  have s5' : s5 = true := by rw [← h5]; simp; omega
  go_wp2
  clear hh0 hh1
  rw [rounds_succ]
  by_cases hh0 : r < 0
  · have hs : s6 = false := by rw [← h6]; simp; omega
    go_wp2
    go_ret
    exact ⟨ret_bool (by first | rfl | (simp [hs]; done)), B0.alloc (by simp) _⟩
  by_cases hh1 : 100000 < r
  · have hs : s6 = false := by rw [← h6]; simp; omega
    go_wp2
    go_ret
    exact ⟨ret_bool (by first | rfl | (simp [hs]; done)), B0.alloc (by simp) _⟩
  have s6' : s6 = true := by rw [← h6]; simp; omega
  go_wp2
  clear hh0 hh1
  rw [rounds_succ]
  go_wp2
  go_ret
  exact ⟨ret_bool (by first | rfl | (simp [s4', s5', s6']; done)), B0.alloc (by simp) _⟩
set_option maxHeartbeats 1000000 in
set_option maxRecDepth 100000 in
theorem newsOk_any (x : Nws) (n : Int) (b : Bool) (h : newB n x = b) (w : World) :
    Calls Tryz.prog 194 #[.agg #[.int .i64 x.vw, .int .i64 x.sv], .int .i64 n] w fun e w' => e = .returned (.bool b) ∧ Below w.heap.size w w' := by
  obtain ⟨xv, xs⟩ := x
  have t0 := bx_new w 128 #[.int .i64 xv, .int .i64 xs]
  have B0 := below1 w (.cells #[.int .i64 xv, .int .i64 xs] 128)
  have q0 := t0.cell 0 rfl
  have q1 := t0.cell 1 rfl
  obtain ⟨y1, h1⟩ : ∃ z, inV xv = z := ⟨_, rfl⟩
  obtain ⟨y2, h2⟩ : ∃ z, decide (0 ≤ xs ∧ xs ≤ n - 1) = z := ⟨_, rfl⟩
  have HB : Hid (b = (y1 && y2)) := by unfold Hid; rw [← h]; unfold newB; rw [h1, h2]
  have HV : Hid (∀ W, Calls Tryz.prog 192 #[.int .i64 xv] W fun e w' => e = .returned (.bool y1) ∧ w' = W) := fun W => viewOk_any y1 xv h1 W
  have HO : Hid (∀ W, Calls Tryz.prog 154 #[.int .i64 xs, .int .i64 n] W fun e w' => e = .returned (.bool y2) ∧ w' = W) := fun W => serverOk_any xs n y2 (srv_dec h2) W
  clear h h1 h2 t0
  simp only
  go_enter Tryz.func194, Tryz.ntmps194
  go_wp2_with fail
  refine (HV.out _).mono ?_
  rintro e w2 ⟨rfl, rfl⟩
  cases y1 with
  | false =>
    go_wp2
    go_ret
    exact ⟨ret_bool HB.out.symm, B0⟩
  | true =>
  go_wp2_with fail
  refine (HO.out _).mono ?_
  rintro e w2 ⟨rfl, rfl⟩
  go_wp2
  go_ret
  exact ⟨ret_bool HB.out.symm, B0⟩
def heaB (n : Int) (vs : List Vot) (ns : List Nws) : Bool := decide (vs.length ≤ 60) && (decide (ns.length ≤ 30) && (vs.all (fun x => vokR x n) && ns.all (newB n)))
set_option maxHeartbeats 4000000 in
set_option maxRecDepth 100000 in
theorem heardOk_any (d n v o l r pv pn : Int) (hvs hvt vb vv vn vd : Value) (vs : List Vot) (ns : List Nws) (w : World) (hrv : RdVo w vv vs) (hrn : RdNw w vn ns) (hf : ∀ x ∈ vs, FitVo x) (ht : Tab w) :
    Calls Tryz.prog 146 #[.agg #[.int .i64 d, .int .i64 n, .int .i64 v, .int .i64 o, .int .i64 l, .int .i64 r, .int .i64 pv, .int .i64 pn, hvs, hvt, vb, vv, vn, vd]] w fun e w' => e = .returned (.bool (heaB n vs ns)) ∧ Below w.heap.size w w' := by
  obtain ⟨av, cv, hvv, hlv, hmv, -⟩ := id hrv
  obtain ⟨an, cn, hvn, hln, hmn, -⟩ := id hrn
  unfold maxLen at hmv hmn
  obtain ⟨R, hR⟩ : ∃ R, heaB n vs ns = R := ⟨_, rfl⟩
  have HR : Hid (R = (decide (vs.length ≤ 60) && (decide (ns.length ≤ 30) && (vs.all (fun x => vokR x n) && ns.all (newB n))))) := hR.symm
  rw [hR]
  have HVO : Hid (∀ k, k < vs.length → ∀ W, Below w.heap.size w W → Calls Tryz.prog 193 #[.agg #[.int .i64 (nthVo vs k).vw, .int .i64 (nthVo vs k).nm, .int .i64 (nthVo vs k).sv, .int .i64 (nthVo vs k).tg], .int .i64 n] W fun e w' => e = .returned (.bool (vokR (nthVo vs k) n)) ∧ Below W.heap.size W w') := fun k hk W hb => implVoteOk_any (nthVo vs k) n W (hf _ (by rw [nthVo_eq hk]; exact List.getElem_mem hk)) (ht.on hb)
  clear hR hf ht
  obtain ⟨vl, hvl⟩ : ∃ k, k = vs.length := ⟨_, rfl⟩
  obtain ⟨nl, hnl⟩ : ∃ k, k = ns.length := ⟨_, rfl⟩
  have HVL : Hid (vl = vs.length) := hvl
  have HNL : Hid (nl = ns.length) := hnl
  rw [← hvl] at hvv hlv
  rw [← hnl] at hvn hln
  rw [← hvl, ← hnl] at HR
  subst hvv hvn
  clear hvl hnl
  have t1 := bx_new w 31 #[.int .i64 d, .int .i64 n, .int .i64 v, .int .i64 o, .int .i64 l, .int .i64 r, .int .i64 pv, .int .i64 pn, hvs, hvt, vb, .slice av vl cv, .slice an nl cn, vd]
  have b1 := below1 w (.cells #[.int .i64 d, .int .i64 n, .int .i64 v, .int .i64 o, .int .i64 l, .int .i64 r, .int .i64 pv, .int .i64 pn, hvs, hvt, vb, .slice av vl cv, .slice an nl cn, vd] 31)
  obtain ⟨q0, q1, q2, q3, q4, q5, q6, q7, q8, q9, q10, q11, q12, q13⟩ := t1.c14
  go_enter Tryz.func146, Tryz.ntmps146
  by_cases hv60 : 60 < (vl : Int)
  · have HRF : Hid (R = false) := by
      unfold Hid
      rw [HR.out, decide_eq_false (show ¬ vl ≤ 60 by omega)]
      rfl
    go_wp2
    go_ret
    exact ⟨ret_bool HRF.out.symm, b1⟩
  by_cases hn30 : 30 < (nl : Int)
  · have HRF : Hid (R = false) := by
      unfold Hid
      rw [HR.out, decide_eq_false (show ¬ nl ≤ 30 by omega)]
      simp
    go_wp2
    go_ret
    exact ⟨ret_bool HRF.out.symm, b1⟩
  have HR3 : Hid (R = (vs.all (fun x => vokR x n) && ns.all (newB n))) := by
    unfold Hid
    rw [HR.out, decide_eq_true (show vl ≤ 60 by omega), decide_eq_true (show nl ≤ 30 by omega)]
    rfl
  clear HR
  go_wp2
  clear q0 q1 q2 q3 q4 q5 q6 q7 q8 q9 q10 q11 q12 q13
  have hM : True := trivial
  generalize hW1 : w.alloc (.cells #[.int .i64 d, .int .i64 n, .int .i64 v, .int .i64 o, .int .i64 l, .int .i64 r, .int .i64 pv, .int .i64 pn, hvs, hvt, vb, .slice av vl cv, .slice an nl cn, vd] 31) = W1 at t1 b1 ⊢
  clear hW1
  go_loopw [20] (fun iv wk => ∃ k9 : Nat, k9 ≤ vl ∧ iv = .int .i64 k9 ∧ Hid (∀ i, i < k9 → vokR (nthVo vs i) n = true) ∧ Bx wk w.heap.size 31 #[.int .i64 d, .int .i64 n, .int .i64 v, .int .i64 o, .int .i64 l, .int .i64 r, .int .i64 pv, .int .i64 pn, hvs, hvt, vb, .slice av vl cv, .slice an nl cn, vd] ∧ Below w.heap.size w wk) (fun iv _ => vl - (intOf iv).toNat)
  case atStart => exact ⟨0, Nat.zero_le _, rfl, (fun i h => by omega), t1, b1⟩
  case round =>
    clear t1 b1 hM
    obtain ⟨k9, hk9, rfl, HJ, t8, b8⟩ := hrel
    by_cases hlv9 : k9 < vl
    · have hkv : k9 < vs.length := by rw [← HVL.out]; exact hlv9
      obtain ⟨b9, o9, rfl, hcv⟩ := (hrv.below b8).at HVL.out k9 hkv
      have hkc : k9 < cv := by omega
      obtain ⟨vo, hvo⟩ : ∃ z, vokR (nthVo vs k9) n = z := ⟨_, rfl⟩
      have HVX : Hid (∀ W, Below w.heap.size w W → Calls Tryz.prog 193 #[.agg #[.int .i64 (nthVo vs k9).vw, .int .i64 (nthVo vs k9).nm, .int .i64 (nthVo vs k9).sv, .int .i64 (nthVo vs k9).tg], .int .i64 n] W fun e w' => e = .returned (.bool vo) ∧ Below W.heap.size W w') := fun W hb => by rw [← hvo]; exact HVO.out k9 hkv W hb
      have HVE : Hid (vokR (nthVo vs k9) n = vo) := hvo
      have HRV : Hid (vo = false → R = false) := fun h => by
        rw [HR3.out]
        have : vs.all (fun x => vokR x n) = false := by
          rw [List.all_eq_false]
          exact ⟨vs[k9], List.getElem_mem hkv, by rw [← nthVo_eq hkv, hvo, h]; simp⟩
        rw [this]; rfl
      have HJ2 : Hid (vokR (nthVo vs k9) n = true → ∀ i, i < k9 + 1 → vokR (nthVo vs i) n = true) := fun h i hi => by
        by_cases e : i = k9
        · rw [e]; exact h
        · exact HJ.out i (by omega)
      clear hvo hkv
      generalize nthVo vs k9 = x at hcv HVX HVE HJ2
      obtain ⟨c0, c1, c2, c3⟩ := hcv
      have u2 := bx_new wr 36 #[.int .i64 x.vw, .int .i64 x.nm, .int .i64 x.sv, .int .i64 x.tg]
      have t2 := t8.below (below1 wr (.cells #[.int .i64 x.vw, .int .i64 x.nm, .int .i64 x.sv, .int .i64 x.tg] 36))
      have b2 := b8.trans ((below1 wr (.cells #[.int .i64 x.vw, .int .i64 x.nm, .int .i64 x.sv, .int .i64 x.tg] 36)).mono b8.size)
      obtain ⟨q0, q1, q2, q3, q4, q5, q6, q7, q8, q9, q10, q11, q12, q13⟩ := t2.c14
      go_wp2_with fail
      clear c0 c1 c2 c3 q0 q1 q2 q3 q4 q5 q6 q7 q8 q9 q10 q11 q12 q13
      generalize wr.alloc (.cells #[.int .i64 x.vw, .int .i64 x.nm, .int .i64 x.sv, .int .i64 x.tg] 36) = W2 at u2 t2 b2 ⊢
      refine (HVX.out _ b2).mono ?_
      rintro e w9 ⟨rfl, hb9⟩
      have bA := b2.trans (hb9.mono b2.size)
      have tA := t2.below hb9
      clear hb9 t2 b2 u2 t8 b8 HVX
      cases vo with
      | false =>
        have HRF : Hid (R = false) := HRV.out rfl
        go_wp2
        go_ret
        exact ⟨ret_bool HRF.out.symm, bA⟩
      | true =>
        have HJ3 : Hid (∀ i, i < k9 + 1 → vokR (nthVo vs i) n = true) := HJ2.out HVE.out
        clear HJ2 HVE HRV
        go_wp2
        go_roundw
        case rel => exact ⟨k9 + 1, by omega, by go_num, HJ3, tA, bA⟩
        case measure => simp [intOf]; omega
    · have HR4 : Hid (R = ns.all (newB n)) := by
        have hke : k9 = vl := by omega
        unfold Hid
        have : vs.all (fun x => vokR x n) = true := by
          rw [List.all_eq_true]
          intro x hx
          obtain ⟨i, hi, rfl⟩ := List.getElem_of_mem hx
          rw [← nthVo_eq hi]
          exact HJ.out i (by rw [hke, HVL.out]; exact hi)
        rw [HR3.out, this]
        rfl
      clear HR3 HJ HVO
      obtain ⟨q0, q1, q2, q3, q4, q5, q6, q7, q8, q9, q10, q11, q12, q13⟩ := t8.c14
      go_wp2
      clear q0 q1 q2 q3 q4 q5 q6 q7 q8 q9 q10 q11 q12 q13
      go_loopw [33] (fun iv wk => ∃ k9 : Nat, k9 ≤ nl ∧ iv = .int .i64 k9 ∧ Hid (∀ i, i < k9 → newB n (nthNw ns i) = true) ∧ Bx wk w.heap.size 31 #[.int .i64 d, .int .i64 n, .int .i64 v, .int .i64 o, .int .i64 l, .int .i64 r, .int .i64 pv, .int .i64 pn, hvs, hvt, vb, .slice av vl cv, .slice an nl cn, vd] ∧ Below w.heap.size w wk) (fun iv _ => nl - (intOf iv).toNat)
      case atStart => exact ⟨0, Nat.zero_le _, rfl, (fun i h => by omega), t8, b8⟩
      case round =>
        clear t8 b8
        obtain ⟨k9, hk9, rfl, HJ, t8, b8⟩ := hrel
        by_cases hln9 : k9 < nl
        · have hkv : k9 < ns.length := by rw [← HNL.out]; exact hln9
          obtain ⟨b9, o9, rfl, hcv⟩ := (hrn.below b8).at HNL.out k9 hkv
          have hkc : k9 < cn := by omega
          obtain ⟨vo, hvo⟩ : ∃ z, newB n (nthNw ns k9) = z := ⟨_, rfl⟩
          have HVX : Hid (∀ W, Calls Tryz.prog 194 #[.agg #[.int .i64 (nthNw ns k9).vw, .int .i64 (nthNw ns k9).sv], .int .i64 n] W fun e w' => e = .returned (.bool vo) ∧ Below W.heap.size W w') := fun W => newsOk_any (nthNw ns k9) n vo hvo W
          have HVE : Hid (newB n (nthNw ns k9) = vo) := hvo
          have HRV : Hid (vo = false → R = false) := fun h => by
            rw [HR4.out, List.all_eq_false]
            exact ⟨ns[k9], List.getElem_mem hkv, by rw [← nthNw_eq hkv, hvo, h]; simp⟩
          have HJ2 : Hid (newB n (nthNw ns k9) = true → ∀ i, i < k9 + 1 → newB n (nthNw ns i) = true) := fun h i hi => by
            by_cases e : i = k9
            · rw [e]; exact h
            · exact HJ.out i (by omega)
          clear hvo hkv
          generalize nthNw ns k9 = x at hcv HVX HVE HJ2
          obtain ⟨c0, c1⟩ := hcv
          have u2 := bx_new wr 128 #[.int .i64 x.vw, .int .i64 x.sv]
          have t2 := t8.below (below1 wr (.cells #[.int .i64 x.vw, .int .i64 x.sv] 128))
          have b2 := b8.trans ((below1 wr (.cells #[.int .i64 x.vw, .int .i64 x.sv] 128)).mono b8.size)
          obtain ⟨q0, q1, q2, q3, q4, q5, q6, q7, q8, q9, q10, q11, q12, q13⟩ := t2.c14
          go_wp2_with fail
          clear c0 c1 q0 q1 q2 q3 q4 q5 q6 q7 q8 q9 q10 q11 q12 q13
          generalize wr.alloc (.cells #[.int .i64 x.vw, .int .i64 x.sv] 128) = W2 at u2 t2 b2 ⊢
          refine (HVX.out _).mono ?_
          rintro e w9 ⟨rfl, hb9⟩
          have bA := b2.trans (hb9.mono b2.size)
          have tA := t2.below hb9
          clear hb9 t2 b2 u2 t8 b8 HVX
          cases vo with
          | false =>
            have HRF : Hid (R = false) := HRV.out rfl
            go_wp2
            go_ret
            exact ⟨ret_bool HRF.out.symm, bA⟩
          | true =>
            have HJ3 : Hid (∀ i, i < k9 + 1 → newB n (nthNw ns i) = true) := HJ2.out HVE.out
            clear HJ2 HVE HRV
            go_wp2
            go_roundw
            case rel => exact ⟨k9 + 1, by omega, by go_num, HJ3, tA, bA⟩
            case measure => simp [intOf]; omega
        · have HR5 : Hid (R = true) := by
            have hke : k9 = nl := by omega
            unfold Hid
            rw [HR4.out, List.all_eq_true]
            intro x hx
            obtain ⟨i, hi, rfl⟩ := List.getElem_of_mem hx
            rw [← nthNw_eq hi]
            exact HJ.out i (by rw [hke, HNL.out]; exact hi)
          clear HR4 HJ
          go_wp2
          go_ret
          exact ⟨ret_bool HR5.out.symm, b8⟩
end Go.Proofs.YtilhaokiohbeeaaGreatDoor
-- UNF Gen
namespace Go.Proofs.YtilhaokiohbeeaaGreatDoor
open Go.RowKit
def SmB (Xs : List BlX) : Prop := ∀ X ∈ Xs, SmallB X.b
def bsOf (Xs : List BlX) : List Blk := Xs.map (·.b)
theorem bsOf_len (Xs : List BlX) : (bsOf Xs).length = Xs.length := by simp [bsOf]
theorem bsOf_take (Xs : List BlX) (k : Nat) : bsOf (Xs.take k) = (bsOf Xs).take k := by simp [bsOf, List.map_take]
theorem bsOf_get {Xs : List BlX} {k : Nat} (h : k < (bsOf Xs).length) : (bsOf Xs)[k] = (nthBs Xs k).b := by
  rw [nthBs_eq (by simpa [bsOf] using h)]
  simp [bsOf]
theorem bsOf_getD (Xs : List BlX) (k : Nat) (h : k < Xs.length) : (bsOf Xs).getD k ⟨0, 0, prfZ, [], 0⟩ = (nthBs Xs k).b := by
  rw [← bsOf_get (by rw [bsOf_len]; exact h)]
  simp [List.getD, List.getElem?_eq_getElem (show k < (bsOf Xs).length by rw [bsOf_len]; exact h)]
theorem RdBs.take {w : World} {a : Option Addr} {n cap : Nat} {es : List BlX} (h : RdBs w (.slice a n cap) es) (i : Nat) (hi : i ≤ es.length) : RdBs w (.slice a i cap) (es.take i) := by
  obtain ⟨a', cap', hv, h1, h2, h0, h3⟩ := h
  simp only [Value.slice.injEq] at hv
  obtain ⟨rfl, _, rfl⟩ := hv
  have hl : (es.take i).length = i := by rw [List.length_take]; omega
  refine ⟨a, cap, by rw [hl], by rw [hl]; omega, h2, h0, ?_⟩
  rcases h3 with rfl | ⟨b, off, ha, hc⟩
  · left; simp
  · right
    refine ⟨b, off, ha, fun j hj => ?_⟩
    rw [hl] at hj
    have hc' := hc j (by omega)
    rw [nthBs_eq (by omega)] at hc'
    rw [nthBs_eq (by rw [hl]; exact hj), List.getElem_take]
    exact hc'
theorem InBs.take {w : World} {Xs : List BlX} (h : InBs w Xs) (i : Nat) : InBs w (Xs.take i) := fun X hX => h X (List.mem_of_mem_take hX)
theorem SmB.take {Xs : List BlX} (h : SmB Xs) (i : Nat) : SmB (Xs.take i) := fun X hX => h X (List.mem_of_mem_take hX)
theorem SmB.nth {Xs : List BlX} (h : SmB Xs) {i : Nat} (hi : i < Xs.length) : SmallB (nthBs Xs i).b := by rw [nthBs_eq hi]; exact h _ (List.getElem_mem hi)
theorem fnd_some {Xs : List BlX} {nm vw : Int} {k : Nat} (hk : k < Xs.length) (h1 : isB nm vw (nthBs Xs k).b = true) (h2 : ∀ j, j < k → isB nm vw (nthBs Xs j).b = false) : fndB (bsOf Xs) nm vw = some k := by
  unfold fndB
  rw [List.findIdx?_eq_some_iff_getElem]
  refine ⟨by rw [bsOf_len]; exact hk, by rw [bsOf_get]; exact h1, fun j hj => ?_⟩
  rw [bsOf_get, h2 j hj]
  simp
theorem fnd_none {Xs : List BlX} {nm vw : Int} (h2 : ∀ j, j < Xs.length → isB nm vw (nthBs Xs j).b = false) : fndB (bsOf Xs) nm vw = none := by
  unfold fndB
  rw [List.findIdx?_eq_none_iff]
  intro x hx
  obtain ⟨j, hj, rfl⟩ := List.getElem_of_mem hx
  rw [bsOf_get]
  exact h2 j (by rw [bsOf_len] at hj; exact hj)
theorem fnd_spec {bs : List Blk} {nm vw : Int} {k : Nat} (h : fndB bs nm vw = some k) : ∃ hk : k < bs.length, bs[k].vw = vw ∧ namN bs[k] = nm := by
  unfold fndB at h
  rw [List.findIdx?_eq_some_iff_getElem] at h
  obtain ⟨hk, h1, _⟩ := h
  unfold isB at h1
  simp at h1
  exact ⟨hk, h1⟩
set_option maxHeartbeats 2000000 in
set_option maxRecDepth 100000 in
theorem l16Find_any (v : Value) (Xs : List BlX) (nm vw : Int) (w : World) (hr : RdBs w v Xs) (hi : InBs w Xs) (hs : SmB Xs) :
    Calls Tryz.prog 163 #[v, .int .i64 nm, .int .i64 vw] w fun e w' => e = .returned (.int .i64 (optI (fndB (bsOf Xs) nm vw))) ∧ Below w.heap.size w w' := by
  obtain ⟨a, cap, hv, hla, hma, -⟩ := id hr
  obtain ⟨nn, hnn⟩ : ∃ nn, nn = Xs.length := ⟨_, rfl⟩
  have HNN : Hid (nn = Xs.length) := hnn
  rw [← hnn] at hv hla
  subst hv
  unfold maxLen at hma
  have HS : Hid (SmB Xs) := hs
  clear hnn hs
  go_enter Tryz.func163, Tryz.ntmps163
  go_wp2
  go_loopw [7] (fun i wr => ∃ k : Nat, k ≤ nn ∧ i = .int .i64 k ∧ Hid (∀ j, j < k → isB nm vw (nthBs Xs j).b = false) ∧ Below w.heap.size w wr) (fun i _ => nn - (intOf i).toNat)
  case atStart => exact ⟨0, Nat.zero_le _, rfl, (fun j h => by omega), Below.refl _ _⟩
  case round =>
    obtain ⟨k, hk, rfl, HJ, hb⟩ := hrel
    by_cases hlt : k < nn
    · have hkl : k < Xs.length := by rw [← HNN.out]; exact hlt
      obtain ⟨b, off, rfl, hc⟩ := (hr.below hb).atN k hkl
      have hri := (hi.below hb).nth hkl
      have hkc : k < cap := by omega
      have HF : Hid (∀ c, isB nm vw (nthBs Xs k).b = c → c = true → fndB (bsOf Xs) nm vw = some k) := fun c h1 h2 => fnd_some hkl (h1.trans h2) HJ.out
      have HJ2 : Hid (isB nm vw (nthBs Xs k).b = false → ∀ j, j < k + 1 → isB nm vw (nthBs Xs j).b = false) := fun h j hj => by
        by_cases e : j = k
        · rw [e]; exact h
        · exact HJ.out j (by omega)
      have HC : Hid (∀ W, RdBl W (nthBs Xs k) → Calls Tryz.prog 78 #[.agg #[.int .i64 (nthBs Xs k).b.vw, .int .i64 (nthBs Xs k).b.pa, .int .i64 (nthBs Xs k).b.p.vw, .int .i64 (nthBs Xs k).b.p.nm, (nthBs Xs k).vs, (nthBs Xs k).vt, (nthBs Xs k).vm, .int .i64 (nthBs Xs k).b.sv]] W fun e w' => e = .returned (.int .i64 (namN (nthBs Xs k).b)) ∧ Below W.heap.size W w') := fun W h => l15NameOf_any _ W h (HS.out.nth hkl)
      generalize nthBs Xs k = t at hc hri HF HJ2 HC
      obtain ⟨c0, c1, c2, c3, c4, c5, c6, c7⟩ := id hc
      clear hc hkl
      by_cases hvw : t.b.vw = vw
      · have hvb : (t.b.vw == vw) = true := by simp [hvw]
        obtain ⟨m, hm⟩ : ∃ m, namN t.b = m := ⟨_, rfl⟩
        rw [hm] at HC
        have HM : Hid (isB nm vw t.b = decide (m = nm)) := by unfold Hid isB; rw [hm]; simp [hvw]
        clear hvw hm
        go_wp2_with fail
        refine (HC.out _ hri).mono ?_
        rintro e w2 ⟨rfl, hb2⟩
        have bz := hb.trans (hb2.mono hb.size)
        clear c0 c1 c2 c3 c4 c5 c6 c7 HC hri hb hb2
        by_cases hmn : m = nm
        · have hme : (m == nm) = true := by simp [hmn]
          have HE : Hid (fndB (bsOf Xs) nm vw = some k) := HF.out _ HM.out (by simp [hmn])
          clear hmn
          go_wp2
          go_ret
          rw [HE.out]
          exact ⟨rfl, bz⟩
        · have hme : (m == nm) = false := by simp [hmn]
          have HJ3 : Hid (∀ j, j < k + 1 → isB nm vw (nthBs Xs j).b = false) := HJ2.out (by rw [HM.out]; simp [hmn])
          clear hmn
          go_wp2
          go_roundw
          case rel => exact ⟨k + 1, by omega, by go_num, HJ3, bz⟩
          case measure => simp [intOf]; omega
      · have hvb : (t.b.vw == vw) = false := by simp [hvw]
        have HJ3 : Hid (∀ j, j < k + 1 → isB nm vw (nthBs Xs j).b = false) := HJ2.out (by unfold isB; simp [hvw])
        clear hvw
        go_wp2
        go_roundw
        case rel => exact ⟨k + 1, by omega, by go_num, HJ3, hb⟩
        case measure => simp [intOf]; omega
    · have HE : Hid (fndB (bsOf Xs) nm vw = none) := fnd_none (fun j hj => HJ.out j (by have := HNN.out; omega))
      have hke : k = nn := by omega
      subst hke
      go_wp2
      go_ret
      rw [HE.out]
      exact ⟨rfl, hb⟩
set_option maxHeartbeats 2000000 in
set_option maxRecDepth 100000 in
theorem l16Known_any (v : Value) (Xs : List BlX) (P : PrX) (w : World) (hr : RdBs w v Xs) (hi : InBs w Xs) (hs : SmB Xs) (hp : RdPr w P) :
    Calls Tryz.prog 77 #[v, .agg #[.int .i64 P.p.vw, .int .i64 P.p.nm, P.vs, P.vt]] w fun e w' => e = .returned (.bool (knoB (bsOf Xs) P.p)) ∧ Below w.heap.size w w' := by
  obtain ⟨⟨pv, pn, ps, pt⟩, vs, vt⟩ := P
  obtain ⟨a1, k1, hv1, hl1, hm1, -⟩ := hp.sv
  obtain ⟨a2, k2, hv2, hl2, hm2, -⟩ := hp.tg
  unfold maxLen at hm1 hm2
  simp only at hv1 hv2 hl1 hl2 ⊢
  obtain ⟨f, hf⟩ : ∃ f, frsB ⟨pv, pn, ps, pt⟩ = f := ⟨_, rfl⟩
  obtain ⟨z, hz⟩ : ∃ z, fndB (bsOf Xs) pn pv = z := ⟨_, rfl⟩
  have HK : Hid (knoB (bsOf Xs) ⟨pv, pn, ps, pt⟩ = (f || z.isSome)) := by unfold Hid knoB; rw [hf, hz]
  have hf' := hf
  rw [frsB_len] at hf'
  simp only at hf'
  have n1 : ps.length ≤ 9223372036854775807 := by omega
  have n2 : pt.length ≤ 9223372036854775807 := by omega
  generalize ps.length = l1 at hv1 hf' n1
  generalize pt.length = l2 at hv2 hf' n2
  subst hv1 hv2
  have HF : Hid (∀ W, Calls Tryz.prog 161 #[.agg #[.int .i64 pv, .int .i64 pn, .slice a1 l1 k1, .slice a2 l2 k2]] W fun e w' => e = .returned (.bool f) ∧ Below W.heap.size W w') := fun W => l15First_any pv pn a1 a2 l1 k1 l2 k2 f n1 n2 hf' W
  have HN : Hid (∀ W, Below w.heap.size w W → Calls Tryz.prog 163 #[v, .int .i64 pn, .int .i64 pv] W fun e w' => e = .returned (.int .i64 (optI z)) ∧ Below W.heap.size W w') := fun W hb => by rw [← hz]; exact l16Find_any v Xs pn pv W (hr.below hb) (hi.below hb) hs
  have t0 := bx_new w 26 #[.int .i64 pv, .int .i64 pn, .slice a1 l1 k1, .slice a2 l2 k2]
  have b0 := below1 w (.cells #[.int .i64 pv, .int .i64 pn, .slice a1 l1 k1, .slice a2 l2 k2] 26)
  obtain ⟨q0, q1, q2, q3⟩ := t0.c4
  clear hf hz hf' n1 n2 hl1 hl2 hm1 hm2 hr hi hs hp
  go_enter Tryz.func77, Tryz.ntmps77
  go_wp2_with fail
  refine (HF.out _).mono ?_
  rintro e w1 ⟨rfl, hb1⟩
  have t1 := t0.below hb1
  have b1 := b0.trans (hb1.mono b0.size)
  clear q0 q1 q2 q3 t0 b0 hb1 HF
  obtain ⟨q0, q1, -, -⟩ := t1.c4
  cases f with
  | true =>
    go_wp2
    go_ret
    rw [HK.out]
    exact ⟨rfl, b1⟩
  | false =>
    go_wp2_with fail
    refine (HN.out _ b1).mono ?_
    rintro e w2 ⟨rfl, hb2⟩
    have b2 := b1.trans (hb2.mono b1.size)
    clear q0 q1 t1 b1 hb2 HN
    cases z with
    | none =>
      go_wp2
      go_ret
      rw [HK.out]
      exact ⟨rfl, b2⟩
    | some k =>
      have hk : (0 : Int) ≤ optI (some k) := by unfold optI; simp
      generalize optI (some k) = y at hk ⊢
      go_wp2
      go_ret
      rw [HK.out]
      exact ⟨rfl, b2⟩
end Go.Proofs.YtilhaokiohbeeaaGreatDoor
