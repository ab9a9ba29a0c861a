/- The contract of the model's ReplicaOk. -/
import Derived.Test.YtilhaokiohbeeaaGreatDoorRepDon
import Derived.Test.YtilhaokiohbeeaaGreatDoorRepCp
import Derived.Test.YtilhaokiohbeeaaGreatDoorBlkVok
-- UNF Gen
namespace Go.Proofs.YtilhaokiohbeeaaGreatDoor
open Go.RowKit
theorem RdBl.slices {w : World} {X : BlX} (h : RdBl w X) : ∃ a1 m1 k1 a2 m2 k2 a3 m3 k3, X.vs = .slice a1 m1 k1 ∧ X.vt = .slice a2 m2 k2 ∧ X.vm = .slice a3 m3 k3 := by
  obtain ⟨a1, k1, h1, -⟩ := h.pr.sv
  obtain ⟨a2, k2, h2, -⟩ := h.pr.tg
  obtain ⟨a3, k3, h3, -⟩ := h.mo
  exact ⟨_, _, _, _, _, _, _, _, _, h1, h2, h3⟩
theorem wrap_in64 {x : Int} (h0 : -9223372036854775808 ≤ x) (h1 : x ≤ 9223372036854775807) : IntKind.i64.wrap x = x := by rw [IntKind.wrap_i64]; omega
theorem bls_no {bs : List Blk} {n : Int} {k m : Nat} (h : blsB bs n k = false) (hk : k ≤ m) : blsB bs n m = false := by
  induction m with
  | zero => have : k = 0 := by omega
            subst this; exact h
  | succ m ih =>
    by_cases e : k = m + 1
    · subst e; exact h
    · rw [blsB, ih (by omega)]; rfl
theorem bls_step {Xs : List BlX} {n : Int} {k : Nat} (hk : k < Xs.length) (h : blsB (bsOf Xs) n k = true) : blsB (bsOf Xs) n (k + 1) = mayB (bsOf (Xs.take k)) n (nthBs Xs k).b := by
  rw [blsB, h, bsOf_getD Xs k hk, bsOf_take]; rfl
theorem all_take {Xs : List BlX} {k : Nat} {m : Int} (hk : k ≤ Xs.length) (h : ∀ j, j < k → (namN (nthBs Xs j).b == m) = false) : (bsOf (Xs.take k)).all (fun c => decide (namN c ≠ m)) = true := by
  rw [List.all_eq_true]
  intro x hx
  obtain ⟨j, hj, rfl⟩ := List.getElem_of_mem hx
  rw [bsOf_len, List.length_take] at hj
  rw [bsOf_get, nthBs_eq (by rw [List.length_take]; exact hj), List.getElem_take, ← nthBs_eq]
  have := h j (by omega)
  simpa using this
theorem all_take_no {Xs : List BlX} {k j : Nat} {m : Int} (hk : k ≤ Xs.length) (hj : j < k) (h : (namN (nthBs Xs j).b == m) = true) : (bsOf (Xs.take k)).all (fun c => decide (namN c ≠ m)) = false := by
  rw [List.all_eq_false]
  refine ⟨(nthBs Xs j).b, ?_, by simpa using h⟩
  unfold bsOf
  rw [List.mem_map]
  refine ⟨nthBs Xs j, ?_, rfl⟩
  rw [nthBs_eq (by omega)]
  rw [List.mem_take_iff_getElem]
  exact ⟨j, by omega, rfl⟩
set_option maxHeartbeats 400000 in
set_option maxRecDepth 100000 in
theorem l16View_any (b : Bool) (v : Int) (h : in0V v = b) (w : World) :
    Calls Tryz.prog 75 #[.int .i64 v] w fun e w' => e = .returned (.bool b) ∧ w' = w := by
  go_enter Tryz.func75, Tryz.ntmps75
  go_wp2_with fail
  refine (l1InB_any b _ _ _ h _).mono ?_
  rintro e w2 ⟨rfl, rfl⟩
  go_wp2
  go_ret
  exact ⟨rfl, rfl⟩
set_option maxHeartbeats 16000000 in
set_option maxRecDepth 100000 in
theorem specReplicaOk_any (X : RepX) (w : World) (hx : RdRep w X) (hf : FitRep X.rep) (hs : SmB X.bs) :
    Calls Tryz.prog 16 #[.agg #[.int .i64 X.idn, .int .i64 X.n, .int .i64 X.vw, .int .i64 X.vo, .int .i64 X.lo, .int .i64 X.pr, .int .i64 X.hi.p.vw, .int .i64 X.hi.p.nm, X.hi.vs, X.hi.vt, X.vb, X.vv, X.vn, X.vd]] w fun e w' => e = .returned (.bool (repR X.rep)) ∧ Below w.heap.size w w' := by
  obtain ⟨d, n, v, o, l, r, ⟨hp, hvs, hvt⟩, vb, Xs, vv, vs, vn, ns, vd, dn⟩ := X
  obtain ⟨hx1, hx2, hx3, hx4, hx5, hx6⟩ := hx
  obtain ⟨-, hf2, -, -, -, -, hf7, hf8, hf9, hf10, hf11⟩ := hf
  simp only [RepX.rep] at hx1 hx2 hx3 hx4 hx5 hx6 hf2 hf7 hf8 hf9 hf10 hf11 hs ⊢
  obtain ⟨ab, cb, hvb, hlb, hmb, -⟩ := id hx2
  obtain ⟨av, cv, hvv, hlv, hmv, -⟩ := id hx4
  obtain ⟨an, cn, hvn, hln, hmn, -⟩ := id hx5
  unfold maxLen at hmb hmv hmn
  obtain ⟨s1, h1⟩ : ∃ s, srvB n = s := ⟨_, rfl⟩
  obtain ⟨s2, h2⟩ : ∃ s, decide (0 ≤ d ∧ d ≤ n - 1) = s := ⟨_, rfl⟩
  obtain ⟨s3, h3⟩ : ∃ s, inV v = s := ⟨_, rfl⟩
  obtain ⟨s4, h4⟩ : ∃ s, in0V o = s := ⟨_, rfl⟩
  obtain ⟨s5, h5⟩ : ∃ s, in0V l = s := ⟨_, rfl⟩
  obtain ⟨s6, h6⟩ : ∃ s, in0V r = s := ⟨_, rfl⟩
  obtain ⟨p, hp1⟩ : ∃ p, prfR hp n = p := ⟨_, rfl⟩
  obtain ⟨kn, hkn⟩ : ∃ k, knoB (bsOf Xs) hp = k := ⟨_, rfl⟩
  obtain ⟨dd, hdd⟩ : ∃ k, dnS (bsOf Xs) dn 0 0 = k := ⟨_, rfl⟩
  obtain ⟨R, hR⟩ : ∃ R, R = repR ⟨d, n, v, o, l, r, hp, bsOf Xs, vs, ns, dn⟩ := ⟨_, rfl⟩
  have HR : Hid (R = ((s1 && (s2 && (s3 && (s4 && (s5 && s6))))) && (p && (decide (Xs.length ≤ 60) && (decide (vs.length ≤ 60) && (decide (ns.length ≤ 30) && (blsB (bsOf Xs) n Xs.length && (vs.all (fun x => vokR x n) && (ns.all (newB n) && (kn && dd)))))))))) := by
    unfold Hid
    rw [hR]
    unfold repR numB
    simp only
    rw [h1, h2, h3, h4, h5, h6, hp1, hkn, hdd, bsOf_len]
  have HG : Hid (repR ⟨d, n, v, o, l, r, hp, List.map (fun x => x.b) Xs, vs, ns, dn⟩ = R) := hR.symm
  rw [HG.out]
  have HSV : Hid (∀ W, Calls Tryz.prog 73 #[.int .i64 n] W fun e w' => e = .returned (.bool s1) ∧ w' = W) := fun W => l15ServersB_any s1 n h1 W
  have HI2 : Hid (∀ z W, z = n - 1 → Calls Tryz.prog 74 #[.int .i64 d, .int .i64 0, .int .i64 z] W fun e w' => e = .returned (.bool s2) ∧ w' = W) := fun z W hz => l1InB_any s2 _ _ _ (by rw [hz]; exact h2) W
  have HI3 : Hid (∀ W, Calls Tryz.prog 74 #[.int .i64 v, .int .i64 1, .int .i64 100000] W fun e w' => e = .returned (.bool s3) ∧ w' = W) := fun W => l1InB_any s3 _ _ _ h3 W
  have HI4 : Hid (∀ W, Calls Tryz.prog 75 #[.int .i64 o] W fun e w' => e = .returned (.bool s4) ∧ w' = W) := fun W => l16View_any s4 _ h4 W
  have HI5 : Hid (∀ W, Calls Tryz.prog 75 #[.int .i64 l] W fun e w' => e = .returned (.bool s5) ∧ w' = W) := fun W => l16View_any s5 _ h5 W
  have HI6 : Hid (∀ W, Calls Tryz.prog 75 #[.int .i64 r] W fun e w' => e = .returned (.bool s6) ∧ w' = W) := fun W => l16View_any s6 _ h6 W
  have HPO : Hid (∀ W, Below w.heap.size w W → Calls Tryz.prog 76 #[.agg #[.int .i64 hp.vw, .int .i64 hp.nm, hvs, hvt], .int .i64 n] W fun e w' => e = .returned (.bool p) ∧ Below W.heap.size W w') := fun W hb => by rw [← hp1]; exact specProofOk_any ⟨hp, hvs, hvt⟩ n W (hx1.below hb) hf7
  have HKH : Hid (∀ W, Below w.heap.size w W → Calls Tryz.prog 77 #[vb, .agg #[.int .i64 hp.vw, .int .i64 hp.nm, hvs, hvt]] W fun e w' => e = .returned (.bool kn) ∧ Below W.heap.size W w') := fun W hb => by rw [← hkn]; exact l16Known_any vb Xs ⟨hp, hvs, hvt⟩ W (hx2.below hb) (hx3.below hb) hs (hx1.below hb)
  have HDD : Hid (∀ W, Below w.heap.size w W → Calls Tryz.prog 79 #[vb, vd] W fun e w' => e = .returned (.bool dd) ∧ Below W.heap.size W w') := fun W hb => by rw [← hdd]; exact l16Done_any vb vd Xs dn W (hx2.below hb) (hx3.below hb) hs (hx6.below hb)
  have HBO : Hid (∀ k, k < Xs.length → ∀ W, Below w.heap.size w W → Calls Tryz.prog 33 #[.agg #[.int .i64 (nthBs Xs k).b.vw, .int .i64 (nthBs Xs k).b.pa, .int .i64 (nthBs Xs k).b.p.vw, .int .i64 (nthBs Xs k).b.p.nm, (nthBs Xs k).vs, (nthBs Xs k).vt, (nthBs Xs k).vm, .int .i64 (nthBs Xs k).b.sv], .int .i64 n] W fun e w' => e = .returned (.bool (blkR (nthBs Xs k).b n)) ∧ Below W.heap.size W w') := fun k hk W hb => specBlockOk_any (nthBs Xs k) n W ((hx3.below hb).nth hk) (hf8 _ (by rw [nthBs_eq hk]; exact List.mem_map.2 ⟨_, List.getElem_mem hk, rfl⟩))
  have HNM : Hid (∀ k, k < Xs.length → ∀ W, Below w.heap.size w W → Calls Tryz.prog 78 #[.agg #[.int .i64 (nthBs Xs k).b.vw, .int .i64 (nthBs Xs k).b.pa, .int .i64 (nthBs Xs k).b.p.vw, .int .i64 (nthBs Xs k).b.p.nm, (nthBs Xs k).vs, (nthBs Xs k).vt, (nthBs Xs k).vm, .int .i64 (nthBs Xs k).b.sv]] W fun e w' => e = .returned (.int .i64 (namN (nthBs Xs k).b)) ∧ Below W.heap.size W w') := fun k hk W hb => l15NameOf_any (nthBs Xs k) W ((hx3.below hb).nth hk) (hs.nth hk)
  have HKB : Hid (∀ k, k < Xs.length → ∀ W, Below w.heap.size w W → Calls Tryz.prog 77 #[.slice ab k cb, .agg #[.int .i64 (nthBs Xs k).b.p.vw, .int .i64 (nthBs Xs k).b.p.nm, (nthBs Xs k).vs, (nthBs Xs k).vt]] W fun e w' => e = .returned (.bool (knoB (bsOf (Xs.take k)) (nthBs Xs k).b.p)) ∧ Below W.heap.size W w') := fun k hk W hb => by
    have h := hx2.below hb
    rw [hvb] at h
    exact l16Known_any _ (Xs.take k) (nthBs Xs k).pr W (h.take k (by omega)) ((hx3.below hb).take k) (hs.take k) ((hx3.below hb).nth hk).pr
  have HVO : Hid (∀ k, k < vs.length → ∀ W, Calls Tryz.prog 17 #[.agg #[.int .i64 (nthVo vs k).vw, .int .i64 (nthVo vs k).nm, .int .i64 (nthVo vs k).sv, .int .i64 (nthVo vs k).tg], .int .i64 n] W fun e w' => e = .returned (.bool (vokR (nthVo vs k) n)) ∧ Below W.heap.size W w') := fun k hk W => specVoteOk_any (nthVo vs k) n W (hf9 _ (by rw [nthVo_eq hk]; exact List.getElem_mem hk))
  have HIN : Hid (∀ b x lo hi, decide (lo ≤ x ∧ x ≤ hi) = b → ∀ W, Calls Tryz.prog 74 #[.int .i64 x, .int .i64 lo, .int .i64 hi] W fun e w' => e = .returned (.bool b) ∧ w' = W) := fun b x lo hi h W => l1InB_any b x lo hi h W
  have hn1 : Hid (-9223372036854775808 ≤ n ∧ n ≤ 9223372036854775807) := hf2
  have HSL : Hid (∀ k, k < Xs.length → ∃ a1 m1 k1 a2 m2 k2 a3 m3 k3, (nthBs Xs k).vs = .slice a1 m1 k1 ∧ (nthBs Xs k).vt = .slice a2 m2 k2 ∧ (nthBs Xs k).vm = .slice a3 m3 k3) := fun k hk => (hx3.nth hk).slices
  have HS1 : Hid (s1 = true → n = 1 ∨ n = 4 ∨ n = 7) := fun h => srvB_iff.1 (h1.trans h)
  have t0 := bx_new w 31 #[.int .i64 d, .int .i64 n, .int .i64 v, .int .i64 o, .int .i64 l, .int .i64 r, .int .i64 hp.vw, .int .i64 hp.nm, hvs, hvt, vb, vv, vn, vd]
  have b0 := below1 w (.cells #[.int .i64 d, .int .i64 n, .int .i64 v, .int .i64 o, .int .i64 l, .int .i64 r, .int .i64 hp.vw, .int .i64 hp.nm, hvs, hvt, vb, vv, vn, vd] 31)
  obtain ⟨q0, q1, q2, q3, q4, q5, q6, q7, q8, q9, q10, q11, q12, q13⟩ := t0.c14
  clear h1 h2 h3 h4 h5 h6 hp1 hkn hdd hR hx1 hx3 hx6 hf2 hf7 hf8 hf9 hf10 hf11 hs HG
  obtain ⟨bn, hbn⟩ : ∃ k, k = Xs.length := ⟨_, rfl⟩
  obtain ⟨vl, hvl⟩ : ∃ k, k = vs.length := ⟨_, rfl⟩
  obtain ⟨nl, hnl⟩ : ∃ k, k = ns.length := ⟨_, rfl⟩
  have HBN : Hid (bn = Xs.length) := hbn
  have HVL : Hid (vl = vs.length) := hvl
  have HNL : Hid (nl = ns.length) := hnl
  rw [← hbn] at hvb hlb
  rw [← hvl] at hvv hlv
  rw [← hnl] at hvn hln
  rw [← hbn, ← hvl, ← hnl] at HR
  subst hvb hvv hvn
  clear hbn hvl hnl
  go_enter Tryz.func16, Tryz.ntmps16
  go_wp2_with fail
  refine (HSV.out _).mono ?_
  rintro e w1 ⟨rfl, rfl⟩
  cases s1 with
  | false =>
    go_wp2
    go_ret
    exact ⟨ret_bool HR.out.symm, b0⟩
  | true =>
  have hn : 1 ≤ n ∧ n ≤ 7 := by have := HS1.out rfl; omega
  obtain ⟨hn0, hn7⟩ := hn
  obtain ⟨n1, hne⟩ : ∃ z, z = n - 1 := ⟨_, rfl⟩
  have hw1 : IntKind.i64.wrap (n - 1) = n1 := by rw [hne]; exact wrap_in64 (by omega) (by omega)
  have HN1 : Hid (n1 = n - 1) := hne
  clear hne
  go_wp2_with fail
  refine (HI2.out _ _ HN1.out).mono ?_
  rintro e w1 ⟨rfl, rfl⟩
  cases s2 with
  | false =>
    go_wp2
    go_ret
    exact ⟨ret_bool HR.out.symm, b0⟩
  | true =>
  go_wp2_with fail
  refine (HI3.out _).mono ?_
  rintro e w1 ⟨rfl, rfl⟩
  cases s3 with
  | false =>
    go_wp2
    go_ret
    exact ⟨ret_bool HR.out.symm, b0⟩
  | true =>
  go_wp2_with fail
  refine (HI4.out _).mono ?_
  rintro e w1 ⟨rfl, rfl⟩
  cases s4 with
  | false =>
    go_wp2
    go_ret
    exact ⟨ret_bool HR.out.symm, b0⟩
  | true =>
  go_wp2_with fail
  refine (HI5.out _).mono ?_
  rintro e w1 ⟨rfl, rfl⟩
  cases s5 with
  | false =>
    go_wp2
    go_ret
    exact ⟨ret_bool HR.out.symm, b0⟩
  | true =>
  go_wp2_with fail
  refine (HI6.out _).mono ?_
  rintro e w1 ⟨rfl, rfl⟩
  cases s6 with
  | false =>
    go_wp2
    go_ret
    exact ⟨ret_bool HR.out.symm, b0⟩
  | true =>
  go_wp2_with fail
  refine (HPO.out _ b0).mono ?_
  rintro e w1 ⟨rfl, hb1⟩
  have t1 := t0.below hb1
  have b1 := b0.trans (hb1.mono b0.size)
  clear q0 q1 q2 q3 q4 q5 q6 q7 q8 q9 q10 q11 q12 q13 t0 b0 hb1 HPO HSV HI2 HI3 HI4 HI5 HI6
  obtain ⟨q0, q1, q2, q3, q4, q5, q6, q7, q8, q9, q10, q11, q12, q13⟩ := t1.c14
  cases p with
  | false =>
    go_wp2
    go_ret
    exact ⟨ret_bool HR.out.symm, b1⟩
  | true =>
  by_cases hb60 : 60 < (bn : Int)
  · have HRF : Hid (R = false) := by
      unfold Hid
      rw [HR.out, decide_eq_false (show ¬ bn ≤ 60 by omega)]
      simp
    go_wp2
    go_ret
    exact ⟨ret_bool HRF.out.symm, b1⟩
  by_cases hv60 : 60 < (vl : Int)
  · have HRF : Hid (R = false) := by
      unfold Hid
      rw [HR.out, decide_eq_false (show ¬ vl ≤ 60 by omega)]
      simp
    go_wp2
    go_ret
    exact ⟨ret_bool HRF.out.symm, b1⟩
  by_cases hn30 : 30 < (nl : Int)
  · have HRF : Hid (R = false) := by
      unfold Hid
      rw [HR.out, decide_eq_false (show ¬ nl ≤ 30 by omega)]
      simp
    go_wp2
    go_ret
    exact ⟨ret_bool HRF.out.symm, b1⟩
  have HR2 : Hid (R = (blsB (bsOf Xs) n bn && (vs.all (fun x => vokR x n) && (ns.all (newB n) && (kn && dd))))) := by
    unfold Hid
    rw [HR.out, decide_eq_true (show bn ≤ 60 by omega), decide_eq_true (show vl ≤ 60 by omega), decide_eq_true (show nl ≤ 30 by omega)]
    simp
  clear HR
  go_wp2
  clear q0 q1 q2 q3 q4 q5 q6 q7 q8 q9 q10 q11 q12 q13
  go_loopw [3] (fun iv wr => ∃ k : Nat, k ≤ bn ∧ iv = .int .i64 k ∧ Hid (blsB (bsOf Xs) n k = true) ∧ Bx wr w.heap.size 31 #[.int .i64 d, .int .i64 n, .int .i64 v, .int .i64 o, .int .i64 l, .int .i64 r, .int .i64 hp.vw, .int .i64 hp.nm, hvs, hvt, .slice ab bn cb, .slice av vl cv, .slice an nl cn, vd] ∧ Below w.heap.size w wr) (fun iv _ => bn - (intOf iv).toNat)
  case atStart => exact ⟨0, Nat.zero_le _, rfl, rfl, t1, b1⟩
  case round =>
    clear t1 b1
    obtain ⟨k, hk, rfl, HJ, t1, b1⟩ := hrel
    obtain ⟨q0, q1, q2, q3, q4, q5, q6, q7, q8, q9, q10, q11, q12, q13⟩ := t1.c14
    by_cases hlt : k < bn
    · have hkl : k < Xs.length := by rw [← HBN.out]; exact hlt
      obtain ⟨b, off, rfl, hc⟩ := (hx2.below b1).atN k hkl
      have hkc : k < cb := by omega
      have hkc2 : k ≤ cb := by omega
      obtain ⟨bo, hbo⟩ : ∃ z, blkR (nthBs Xs k).b n = z := ⟨_, rfl⟩
      obtain ⟨kb, hkb⟩ : ∃ z, knoB (bsOf (Xs.take k)) (nthBs Xs k).b.p = z := ⟨_, rfl⟩
      have HB1 : Hid (∀ W, Below w.heap.size w W → Calls Tryz.prog 33 #[.agg #[.int .i64 (nthBs Xs k).b.vw, .int .i64 (nthBs Xs k).b.pa, .int .i64 (nthBs Xs k).b.p.vw, .int .i64 (nthBs Xs k).b.p.nm, (nthBs Xs k).vs, (nthBs Xs k).vt, (nthBs Xs k).vm, .int .i64 (nthBs Xs k).b.sv], .int .i64 n] W fun e w' => e = .returned (.bool bo) ∧ Below W.heap.size W w') := fun W hb => by rw [← hbo]; exact HBO.out k hkl W hb
      have HB2 : Hid (∀ W, Below w.heap.size w W → Calls Tryz.prog 77 #[.slice (some ⟨b, off, none⟩) k cb, .agg #[.int .i64 (nthBs Xs k).b.p.vw, .int .i64 (nthBs Xs k).b.p.nm, (nthBs Xs k).vs, (nthBs Xs k).vt]] W fun e w' => e = .returned (.bool kb) ∧ Below W.heap.size W w') := fun W hb => by rw [← hkb]; exact HKB.out k hkl W hb
      have HB3 : Hid (∀ W, Below w.heap.size w W → Calls Tryz.prog 78 #[.agg #[.int .i64 (nthBs Xs k).b.vw, .int .i64 (nthBs Xs k).b.pa, .int .i64 (nthBs Xs k).b.p.vw, .int .i64 (nthBs Xs k).b.p.nm, (nthBs Xs k).vs, (nthBs Xs k).vt, (nthBs Xs k).vm, .int .i64 (nthBs Xs k).b.sv]] W fun e w' => e = .returned (.int .i64 (namN (nthBs Xs k).b)) ∧ Below W.heap.size W w') := HNM.out k hkl
      have HST : Hid (blsB (bsOf Xs) n (k + 1) = (bo && (kb && (bsOf (Xs.take k)).all (fun c => decide (namN c ≠ namN (nthBs Xs k).b))))) := by
        unfold Hid
        rw [bls_step hkl HJ.out]
        unfold mayB
        rw [hbo, hkb]
      obtain ⟨m, hm⟩ : ∃ m, namN (nthBs Xs k).b = m := ⟨_, rfl⟩
      rw [hm] at HB3 HST
      have HSK := HSL.out k hkl
      clear hbo hkb hm
      generalize nthBs Xs k = t at hc HB1 HB2 HB3 HSK
      obtain ⟨a1, m1, k1, a2, m2, k2, a3, m3, k3, e1, e2, e3⟩ := HSK
      obtain ⟨tb, tvs, tvt, tvm⟩ := t
      simp only at e1 e2 e3
      subst e1 e2 e3
      unfold BlkAt at hc
      simp only at hc HB1 HB2 HB3
      obtain ⟨c0, c1, c2, c3, c4, c5, c6, c7⟩ := id hc
      have u2 := bx_new wr 34 #[.int .i64 tb.vw, .int .i64 tb.pa, .int .i64 tb.p.vw, .int .i64 tb.p.nm, .slice a1 m1 k1, .slice a2 m2 k2, .slice a3 m3 k3, .int .i64 tb.sv]
      have t2 := t1.below (below1 wr (.cells #[.int .i64 tb.vw, .int .i64 tb.pa, .int .i64 tb.p.vw, .int .i64 tb.p.nm, .slice a1 m1 k1, .slice a2 m2 k2, .slice a3 m3 k3, .int .i64 tb.sv] 34))
      have b2 := b1.trans ((below1 wr (.cells #[.int .i64 tb.vw, .int .i64 tb.pa, .int .i64 tb.p.vw, .int .i64 tb.p.nm, .slice a1 m1 k1, .slice a2 m2 k2, .slice a3 m3 k3, .int .i64 tb.sv] 34)).mono b1.size)
      cases bo with
      | false =>
        have HRF : Hid (R = false) := by
          unfold Hid
          rw [HR2.out, bls_no (k := k + 1) (by rw [HST.out]; rfl) (by omega)]
          rfl
        go_wp2_with fail
        generalize wr.alloc (.cells #[.int .i64 tb.vw, .int .i64 tb.pa, .int .i64 tb.p.vw, .int .i64 tb.p.nm, .slice a1 m1 k1, .slice a2 m2 k2, .slice a3 m3 k3, .int .i64 tb.sv] 34) = W2 at u2 t2 b2 ⊢
        clear q0 q1 q2 q3 q4 q5 q6 q7 q8 q9 q10 q11 q12 q13 c0 c1 c2 c3 c4 c5 c6 c7
        refine wp_region_noPanic ?_
        refine wp_region_held_drew (S := fun w' => (w'.cell? ⟨wr.heap.size, 0, none⟩ = some (.int .i64 tb.vw) ∧ w'.cell? ⟨wr.heap.size, 1, none⟩ = some (.int .i64 tb.pa) ∧ w'.cell? ⟨wr.heap.size, 2, none⟩ = some (.int .i64 tb.p.vw) ∧ w'.cell? ⟨wr.heap.size, 3, none⟩ = some (.int .i64 tb.p.nm) ∧ w'.cell? ⟨wr.heap.size, 4, none⟩ = some (.slice a1 m1 k1) ∧ w'.cell? ⟨wr.heap.size, 5, none⟩ = some (.slice a2 m2 k2) ∧ w'.cell? ⟨wr.heap.size, 6, none⟩ = some (.slice a3 m3 k3) ∧ w'.cell? ⟨wr.heap.size, 7, none⟩ = some (.int .i64 tb.sv)) ∧ (w'.cell? ⟨w.heap.size, 0, none⟩ = some (.int .i64 d) ∧ w'.cell? ⟨w.heap.size, 1, none⟩ = some (.int .i64 n) ∧ w'.cell? ⟨w.heap.size, 2, none⟩ = some (.int .i64 v) ∧ w'.cell? ⟨w.heap.size, 3, none⟩ = some (.int .i64 o) ∧ w'.cell? ⟨w.heap.size, 4, none⟩ = some (.int .i64 l) ∧ w'.cell? ⟨w.heap.size, 5, none⟩ = some (.int .i64 r) ∧ w'.cell? ⟨w.heap.size, 6, none⟩ = some (.int .i64 hp.vw) ∧ w'.cell? ⟨w.heap.size, 7, none⟩ = some (.int .i64 hp.nm) ∧ w'.cell? ⟨w.heap.size, 8, none⟩ = some (hvs) ∧ w'.cell? ⟨w.heap.size, 9, none⟩ = some (hvt) ∧ w'.cell? ⟨w.heap.size, 10, none⟩ = some (.slice (some ⟨b, off, none⟩) bn cb) ∧ w'.cell? ⟨w.heap.size, 11, none⟩ = some (.slice av vl cv) ∧ w'.cell? ⟨w.heap.size, 12, none⟩ = some (.slice an nl cn) ∧ w'.cell? ⟨w.heap.size, 13, none⟩ = some (vd))) (by kernel_rfl) ⟨(u2.below (Below.refl _ _).drew).c8, (t2.below (Below.refl _ _).drew).c14⟩ (fun h0 => ?_)
        refine tkG 0 81 h0 ?_
        try simp only [Act.put, List.setIfInBounds_toArray, List.set_cons_zero, List.set_cons_succ]
        refine tkG 1 82 h0 ?_
        try simp only [Act.put, List.setIfInBounds_toArray, List.set_cons_zero, List.set_cons_succ]
        refine tkG 2 83 h0 ?_
        try simp only [Act.put, List.setIfInBounds_toArray, List.set_cons_zero, List.set_cons_succ]
        refine wpAnyH_ready (rs := [3]) (by kernel_rfl) (by simp) ?_
        refine AllReadyH.cons rfl (fun K hK => ?_) AllReadyH.nil
        go_simp
        refine (HB1.out _ b2.drew).mono ?_
        rintro e w5 ⟨rfl, hb5⟩
        have b5 := b2.drew.trans (hb5.mono b2.drew.size)
        have u5 := (u2.below (Below.refl _ _).drew).below hb5
        have t5 := (t2.below (Below.refl _ _).drew).below hb5
        refine hK.out _ _ (⟨u5.c8, t5.c14⟩) (fun h1 => ?_)
        clear hK K
        try simp only [Act.put, List.setIfInBounds_toArray, List.set_cons_zero, List.set_cons_succ]
        clear h0
        refine tkG 4 85 h1 ?_
        try simp only [Act.put, List.setIfInBounds_toArray, List.set_cons_zero, List.set_cons_succ]
        refine tkG 5 86 h1 ?_
        try simp only [Act.put, List.setIfInBounds_toArray, List.set_cons_zero, List.set_cons_succ]
        refine tkS 6 87 h1 ?_
        try simp only [Act.put, List.setIfInBounds_toArray, List.set_cons_zero, List.set_cons_succ]
        refine tkS 7 88 h1 ?_
        try simp only [Act.put, List.setIfInBounds_toArray, List.set_cons_zero, List.set_cons_succ]
        refine tkS 8 89 h1 ?_
        try simp only [Act.put, List.setIfInBounds_toArray, List.set_cons_zero, List.set_cons_succ]
        refine tkS 9 90 h1 ?_
        try simp only [Act.put, List.setIfInBounds_toArray, List.set_cons_zero, List.set_cons_succ]
        refine tkS 10 91 h1 ?_
        try simp only [Act.put, List.setIfInBounds_toArray, List.set_cons_zero, List.set_cons_succ]
        refine tkS 11 92 h1 ?_
        try simp only [Act.put, List.setIfInBounds_toArray, List.set_cons_zero, List.set_cons_succ]
        refine tkS 12 93 h1 ?_
        try simp only [Act.put, List.setIfInBounds_toArray, List.set_cons_zero, List.set_cons_succ]
        refine tkS 13 94 h1 ?_
        try simp only [Act.put, List.setIfInBounds_toArray, List.set_cons_zero, List.set_cons_succ]
        refine tkG 14 95 h1 ?_
        try simp only [Act.put, List.setIfInBounds_toArray, List.set_cons_zero, List.set_cons_succ]
        refine wpAnyH_done (by kernel_rfl) ?_ _
        refine NoPanic.normal ?_
        go_wp2
        go_ret
        exact ⟨ret_bool HRF.out.symm, b5⟩
      | true =>
        go_wp2_with fail
        generalize wr.alloc (.cells #[.int .i64 tb.vw, .int .i64 tb.pa, .int .i64 tb.p.vw, .int .i64 tb.p.nm, .slice a1 m1 k1, .slice a2 m2 k2, .slice a3 m3 k3, .int .i64 tb.sv] 34) = W2 at u2 t2 b2 ⊢
        clear q0 q1 q2 q3 q4 q5 q6 q7 q8 q9 q10 q11 q12 q13 c0 c1 c2 c3 c4 c5 c6 c7
        refine wp_region_noPanic ?_
        refine wp_region_held_drew (S := fun w' => (w'.cell? ⟨wr.heap.size, 0, none⟩ = some (.int .i64 tb.vw) ∧ w'.cell? ⟨wr.heap.size, 1, none⟩ = some (.int .i64 tb.pa) ∧ w'.cell? ⟨wr.heap.size, 2, none⟩ = some (.int .i64 tb.p.vw) ∧ w'.cell? ⟨wr.heap.size, 3, none⟩ = some (.int .i64 tb.p.nm) ∧ w'.cell? ⟨wr.heap.size, 4, none⟩ = some (.slice a1 m1 k1) ∧ w'.cell? ⟨wr.heap.size, 5, none⟩ = some (.slice a2 m2 k2) ∧ w'.cell? ⟨wr.heap.size, 6, none⟩ = some (.slice a3 m3 k3) ∧ w'.cell? ⟨wr.heap.size, 7, none⟩ = some (.int .i64 tb.sv)) ∧ (w'.cell? ⟨w.heap.size, 0, none⟩ = some (.int .i64 d) ∧ w'.cell? ⟨w.heap.size, 1, none⟩ = some (.int .i64 n) ∧ w'.cell? ⟨w.heap.size, 2, none⟩ = some (.int .i64 v) ∧ w'.cell? ⟨w.heap.size, 3, none⟩ = some (.int .i64 o) ∧ w'.cell? ⟨w.heap.size, 4, none⟩ = some (.int .i64 l) ∧ w'.cell? ⟨w.heap.size, 5, none⟩ = some (.int .i64 r) ∧ w'.cell? ⟨w.heap.size, 6, none⟩ = some (.int .i64 hp.vw) ∧ w'.cell? ⟨w.heap.size, 7, none⟩ = some (.int .i64 hp.nm) ∧ w'.cell? ⟨w.heap.size, 8, none⟩ = some (hvs) ∧ w'.cell? ⟨w.heap.size, 9, none⟩ = some (hvt) ∧ w'.cell? ⟨w.heap.size, 10, none⟩ = some (.slice (some ⟨b, off, none⟩) bn cb) ∧ w'.cell? ⟨w.heap.size, 11, none⟩ = some (.slice av vl cv) ∧ w'.cell? ⟨w.heap.size, 12, none⟩ = some (.slice an nl cn) ∧ w'.cell? ⟨w.heap.size, 13, none⟩ = some (vd))) (by kernel_rfl) ⟨(u2.below (Below.refl _ _).drew).c8, (t2.below (Below.refl _ _).drew).c14⟩ (fun h0 => ?_)
        refine tkG 0 81 h0 ?_
        try simp only [Act.put, List.setIfInBounds_toArray, List.set_cons_zero, List.set_cons_succ]
        refine tkG 1 82 h0 ?_
        try simp only [Act.put, List.setIfInBounds_toArray, List.set_cons_zero, List.set_cons_succ]
        refine tkG 2 83 h0 ?_
        try simp only [Act.put, List.setIfInBounds_toArray, List.set_cons_zero, List.set_cons_succ]
        refine wpAnyH_ready (rs := [3]) (by kernel_rfl) (by simp) ?_
        refine AllReadyH.cons rfl (fun K hK => ?_) AllReadyH.nil
        go_simp
        refine (HB1.out _ b2.drew).mono ?_
        rintro e w5 ⟨rfl, hb5⟩
        have b5 := b2.drew.trans (hb5.mono b2.drew.size)
        have u5 := (u2.below (Below.refl _ _).drew).below hb5
        have t5 := (t2.below (Below.refl _ _).drew).below hb5
        refine hK.out _ _ (⟨u5.c8, t5.c14⟩) (fun h1 => ?_)
        clear hK K
        try simp only [Act.put, List.setIfInBounds_toArray, List.set_cons_zero, List.set_cons_succ]
        clear h0
        refine tkG 4 85 h1 ?_
        try simp only [Act.put, List.setIfInBounds_toArray, List.set_cons_zero, List.set_cons_succ]
        refine tkG 5 86 h1 ?_
        try simp only [Act.put, List.setIfInBounds_toArray, List.set_cons_zero, List.set_cons_succ]
        refine tkG 6 87 h1 ?_
        try simp only [Act.put, List.setIfInBounds_toArray, List.set_cons_zero, List.set_cons_succ]
        refine tkG 7 88 h1 ?_
        try simp only [Act.put, List.setIfInBounds_toArray, List.set_cons_zero, List.set_cons_succ]
        refine tkG 8 89 h1 ?_
        try simp only [Act.put, List.setIfInBounds_toArray, List.set_cons_zero, List.set_cons_succ]
        refine tkG 9 90 h1 ?_
        try simp only [Act.put, List.setIfInBounds_toArray, List.set_cons_zero, List.set_cons_succ]
        refine tkG 10 91 h1 ?_
        try simp only [Act.put, List.setIfInBounds_toArray, List.set_cons_zero, List.set_cons_succ]
        refine tkG 11 92 h1 ?_
        try simp only [Act.put, List.setIfInBounds_toArray, List.set_cons_zero, List.set_cons_succ]
        refine wpAnyH_ready (rs := [12]) (by kernel_rfl) (by simp) ?_
        refine AllReadyH.cons rfl (fun K hK => ?_) AllReadyH.nil
        go_simp
        refine (HB2.out _ b5).mono ?_
        rintro e w6 ⟨rfl, hb6⟩
        have b6 := b5.trans (hb6.mono b5.size)
        have u6 := u5.below hb6
        have t6 := t5.below hb6
        refine hK.out _ _ (⟨u6.c8, t6.c14⟩) (fun h2 => ?_)
        clear hK K
        try simp only [Act.put, List.setIfInBounds_toArray, List.set_cons_zero, List.set_cons_succ]
        clear h1
        refine tkG 13 94 h2 ?_
        try simp only [Act.put, List.setIfInBounds_toArray, List.set_cons_zero, List.set_cons_succ]
        refine tkG 14 95 h2 ?_
        try simp only [Act.put, List.setIfInBounds_toArray, List.set_cons_zero, List.set_cons_succ]
        refine wpAnyH_done (by kernel_rfl) ?_ _
        refine NoPanic.normal ?_
        clear u2 t2 b2 b5 u5 t5 hb5 hb6 hc t1 b1 HB1 HB2
        cases kb with
        | false =>
          have HRF : Hid (R = false) := by
            unfold Hid
            rw [HR2.out, bls_no (k := k + 1) (by rw [HST.out]; rfl) (by omega)]
            rfl
          go_wp2
          go_ret
          exact ⟨ret_bool HRF.out.symm, b6⟩
        | true =>
          have HST2 : Hid (blsB (bsOf Xs) n (k + 1) = (bsOf (Xs.take k)).all (fun c => decide (namN c ≠ m))) := by unfold Hid; rw [HST.out]; rfl
          clear HST
          go_wp2
          obtain ⟨g, hg⟩ : ∃ g, g = wr.heap.size := ⟨_, rfl⟩
          rw [← hg] at u6 ⊢
          clear hg
          have hdk : decide (k < bn) = true := decide_eq_true hlt
          try rw [hdk]
          try simp only [Bool.not_true]
          clear hdk
          go_loopw [5] (fun jv wj => ∃ j : Nat, j ≤ k ∧ jv = .int .i64 j ∧ Hid (∀ i, i < j → (namN (nthBs Xs i).b == m) = false) ∧ Bx wj g 34 #[.int .i64 tb.vw, .int .i64 tb.pa, .int .i64 tb.p.vw, .int .i64 tb.p.nm, .slice a1 m1 k1, .slice a2 m2 k2, .slice a3 m3 k3, .int .i64 tb.sv] ∧ Bx wj w.heap.size 31 #[.int .i64 d, .int .i64 n, .int .i64 v, .int .i64 o, .int .i64 l, .int .i64 r, .int .i64 hp.vw, .int .i64 hp.nm, hvs, hvt, .slice (some ⟨b, off, none⟩) bn cb, .slice av vl cv, .slice an nl cn, vd] ∧ Below w.heap.size w wj) (fun jv _ => k - (intOf jv).toNat)
          case atStart => exact ⟨0, Nat.zero_le _, rfl, (fun i h => by omega), u6, t6, b6⟩
          case round =>
            clear u6 t6 b6
            obtain ⟨j, hj, rfl, HI, u8, t8, b8⟩ := hrel
            by_cases hlj : j < k
            · have hjl : j < Xs.length := by omega
              obtain ⟨b', off', eb, hcj⟩ := (hx2.below b8).atN j hjl
              cases eb
              have hjc : j < cb := by omega
              have hjb : j < bn := by omega
              obtain ⟨mj, hmj⟩ : ∃ z, namN (nthBs Xs j).b = z := ⟨_, rfl⟩
              have HNJ : Hid (∀ W, Below w.heap.size w W → Calls Tryz.prog 78 #[.agg #[.int .i64 (nthBs Xs j).b.vw, .int .i64 (nthBs Xs j).b.pa, .int .i64 (nthBs Xs j).b.p.vw, .int .i64 (nthBs Xs j).b.p.nm, (nthBs Xs j).vs, (nthBs Xs j).vt, (nthBs Xs j).vm, .int .i64 (nthBs Xs j).b.sv]] W fun e w' => e = .returned (.int .i64 mj) ∧ Below W.heap.size W w') := fun W hb => by rw [← hmj]; exact HNM.out j hjl W hb
              have HMJ : Hid (namN (nthBs Xs j).b = mj) := hmj
              clear hmj
              generalize nthBs Xs j = x at hcj HNJ
              unfold BlkAt at hcj
              obtain ⟨q0, q1, q2, q3, q4, q5, q6, q7, q8, q9, q10, q11, q12, q13⟩ := t8.c14
              go_wp2_with fail
              clear q0 q1 q2 q3 q4 q5 q6 q7 q8 q9 q10 q11 q12 q13
              refine wp_region_noPanic ?_
              refine wp_region_held_drew (S := fun w' => (w'.cell? ⟨g, 0, none⟩ = some (.int .i64 tb.vw) ∧ w'.cell? ⟨g, 1, none⟩ = some (.int .i64 tb.pa) ∧ w'.cell? ⟨g, 2, none⟩ = some (.int .i64 tb.p.vw) ∧ w'.cell? ⟨g, 3, none⟩ = some (.int .i64 tb.p.nm) ∧ w'.cell? ⟨g, 4, none⟩ = some (.slice a1 m1 k1) ∧ w'.cell? ⟨g, 5, none⟩ = some (.slice a2 m2 k2) ∧ w'.cell? ⟨g, 6, none⟩ = some (.slice a3 m3 k3) ∧ w'.cell? ⟨g, 7, none⟩ = some (.int .i64 tb.sv)) ∧ (w'.cell? ⟨w.heap.size, 0, none⟩ = some (.int .i64 d) ∧ w'.cell? ⟨w.heap.size, 1, none⟩ = some (.int .i64 n) ∧ w'.cell? ⟨w.heap.size, 2, none⟩ = some (.int .i64 v) ∧ w'.cell? ⟨w.heap.size, 3, none⟩ = some (.int .i64 o) ∧ w'.cell? ⟨w.heap.size, 4, none⟩ = some (.int .i64 l) ∧ w'.cell? ⟨w.heap.size, 5, none⟩ = some (.int .i64 r) ∧ w'.cell? ⟨w.heap.size, 6, none⟩ = some (.int .i64 hp.vw) ∧ w'.cell? ⟨w.heap.size, 7, none⟩ = some (.int .i64 hp.nm) ∧ w'.cell? ⟨w.heap.size, 8, none⟩ = some (hvs) ∧ w'.cell? ⟨w.heap.size, 9, none⟩ = some (hvt) ∧ w'.cell? ⟨w.heap.size, 10, none⟩ = some (.slice (some ⟨b, off, none⟩) bn cb) ∧ w'.cell? ⟨w.heap.size, 11, none⟩ = some (.slice av vl cv) ∧ w'.cell? ⟨w.heap.size, 12, none⟩ = some (.slice an nl cn) ∧ w'.cell? ⟨w.heap.size, 13, none⟩ = some (vd)) ∧ (w'.cell? ⟨b, off + j * 8, none⟩ = some (.int .i64 x.b.vw) ∧ w'.cell? ⟨b, off + j * 8 + 1, none⟩ = some (.int .i64 x.b.pa) ∧ w'.cell? ⟨b, off + j * 8 + 2, none⟩ = some (.int .i64 x.b.p.vw) ∧ w'.cell? ⟨b, off + j * 8 + 3, none⟩ = some (.int .i64 x.b.p.nm) ∧ w'.cell? ⟨b, off + j * 8 + 4, none⟩ = some (x.vs) ∧ w'.cell? ⟨b, off + j * 8 + 5, none⟩ = some (x.vt) ∧ w'.cell? ⟨b, off + j * 8 + 6, none⟩ = some (x.vm) ∧ w'.cell? ⟨b, off + j * 8 + 7, none⟩ = some (.int .i64 x.b.sv))) (by kernel_rfl) ⟨(u8.below (Below.refl _ _).drew).c8, (t8.below (Below.refl _ _).drew).c14, hcj⟩ (fun h0 => ?_)
              refine tkG 0 101 h0 ?_
              try simp only [Act.put, List.setIfInBounds_toArray, List.set_cons_zero, List.set_cons_succ]
              refine tkG 1 102 h0 ?_
              try simp only [Act.put, List.setIfInBounds_toArray, List.set_cons_zero, List.set_cons_succ]
              refine tkG 2 103 h0 ?_
              try simp only [Act.put, List.setIfInBounds_toArray, List.set_cons_zero, List.set_cons_succ]
              refine tkG 3 104 h0 ?_
              try simp only [Act.put, List.setIfInBounds_toArray, List.set_cons_zero, List.set_cons_succ]
              refine tkG 4 105 h0 ?_
              try simp only [Act.put, List.setIfInBounds_toArray, List.set_cons_zero, List.set_cons_succ]
              refine tkG 6 107 h0 ?_
              try simp only [Act.put, List.setIfInBounds_toArray, List.set_cons_zero, List.set_cons_succ]
              refine wpAnyH_ready (rs := [5]) (by kernel_rfl) (by simp) ?_
              refine AllReadyH.cons rfl (fun K hK => ?_) AllReadyH.nil
              go_simp
              refine (HNJ.out _ b8.drew).mono ?_
              rintro e w9 ⟨rfl, hb9⟩
              have b9 := b8.drew.trans (hb9.mono b8.drew.size)
              have u9 := (u8.below (Below.refl _ _).drew).below hb9
              have t9 := (t8.below (Below.refl _ _).drew).below hb9
              have hc9 := BlkAt.below (w := wr.drew) (e := x) h0.2.2 hb9
              refine hK.out _ _ (⟨u9.c8, t9.c14, hc9⟩) (fun h1 => ?_)
              clear hK K
              try simp only [Act.put, List.setIfInBounds_toArray, List.set_cons_zero, List.set_cons_succ]
              clear h0
              refine wpAnyH_ready (rs := [7]) (by kernel_rfl) (by simp) ?_
              refine AllReadyH.cons rfl (fun K hK => ?_) AllReadyH.nil
              go_simp
              refine (HB3.out _ b9).mono ?_
              rintro e wA ⟨rfl, hbA⟩
              have bA := b9.trans (hbA.mono b9.size)
              have uA := u9.below hbA
              have tA := t9.below hbA
              refine hK.out _ _ (⟨uA.c8, tA.c14, BlkAt.below (w := w9) (e := x) hc9 hbA⟩) (fun h2 => ?_)
              clear hK K
              try simp only [Act.put, List.setIfInBounds_toArray, List.set_cons_zero, List.set_cons_succ]
              clear h1
              refine tkG 8 109 h2 ?_
              try simp only [Act.put, List.setIfInBounds_toArray, List.set_cons_zero, List.set_cons_succ]
              refine wpAnyH_done (by kernel_rfl) ?_ _
              refine NoPanic.normal ?_
              clear b9 u9 t9 hc9 hb9 hbA hcj u8 t8 b8 HNJ
              cases hmm : (mj == m) with
              | true =>
                have HRF : Hid (R = false) := by
                  unfold Hid
                  rw [HR2.out, bls_no (k := k + 1) (by rw [HST2.out]; exact all_take_no (by omega) hlj (by rw [HMJ.out]; exact hmm)) (by omega)]
                  rfl
                go_wp2
                go_ret
                exact ⟨ret_bool HRF.out.symm, bA⟩
              | false =>
                have HI2 : Hid (∀ i, i < j + 1 → (namN (nthBs Xs i).b == m) = false) := fun i hi => by
                  by_cases e : i = j
                  · rw [e, HMJ.out]; exact hmm
                  · exact HI.out i (by omega)
                go_wp2
                go_roundw
                case rel => exact ⟨j + 1, by omega, by go_num, HI2, uA, tA, bA⟩
                case measure => simp [intOf]; omega
            · have HB4 : Hid (blsB (bsOf Xs) n (k + 1) = true) := by
                unfold Hid
                rw [HST2.out]
                exact all_take (by omega) (fun i hi => HI.out i (by omega))
              obtain ⟨q0, q1, q2, q3, q4, q5, q6, q7, q8, q9, q10, q11, q12, q13⟩ := t8.c14
              clear HST2 HI
              go_wp2
              go_roundw
              case rel => exact ⟨k + 1, by omega, by go_num, HB4, t8, b8⟩
              case measure => simp [intOf]; omega
    · have HR3 : Hid (R = (vs.all (fun x => vokR x n) && (ns.all (newB n) && (kn && dd)))) := by
        have hke : k = bn := by omega
        unfold Hid
        rw [HR2.out, ← hke, HJ.out]
        rfl
      clear HR2 HJ HBO HKB HNM
      go_wp2
      clear q0 q1 q2 q3 q4 q5 q6 q7 q8 q9 q10 q11 q12 q13
      go_loopw [6] (fun iv wk => ∃ k9 : Nat, k9 ≤ vl ∧ iv = .int .i64 k9 ∧ Hid (∀ i, i < k9 → vokR (nthVo vs i) n = true) ∧ Bx wk w.heap.size 31 #[.int .i64 d, .int .i64 n, .int .i64 v, .int .i64 o, .int .i64 l, .int .i64 r, .int .i64 hp.vw, .int .i64 hp.nm, hvs, hvt, .slice ab bn cb, .slice av vl cv, .slice an nl cn, vd] ∧ Below w.heap.size w wk) (fun iv _ => vl - (intOf iv).toNat)
      case atStart => exact ⟨0, Nat.zero_le _, rfl, (fun i h => by omega), t1, b1⟩
      case round =>
        clear t1 b1
        obtain ⟨k9, hk9, rfl, HJ, t8, b8⟩ := hrel
        obtain ⟨q0, q1, q2, q3, q4, q5, q6, q7, q8, q9, q10, q11, q12, q13⟩ := t8.c14
        by_cases hlv9 : k9 < vl
        · have hkv : k9 < vs.length := by rw [← HVL.out]; exact hlv9
          obtain ⟨b9, o9, rfl, hcv⟩ := (hx4.below b8).at HVL.out k9 hkv
          have hkc : k9 < cv := by omega
          obtain ⟨vo, hvo⟩ : ∃ z, vokR (nthVo vs k9) n = z := ⟨_, rfl⟩
          have HVX : Hid (∀ W, Calls Tryz.prog 17 #[.agg #[.int .i64 (nthVo vs k9).vw, .int .i64 (nthVo vs k9).nm, .int .i64 (nthVo vs k9).sv, .int .i64 (nthVo vs k9).tg], .int .i64 n] W fun e w' => e = .returned (.bool vo) ∧ Below W.heap.size W w') := fun W => by rw [← hvo]; exact HVO.out k9 hkv W
          have HVE : Hid (vokR (nthVo vs k9) n = vo) := hvo
          have HRV : Hid (vo = false → R = false) := fun h => by
            rw [HR3.out]
            have : vs.all (fun x => vokR x n) = false := by
              rw [List.all_eq_false]
              exact ⟨vs[k9], List.getElem_mem hkv, by rw [← nthVo_eq hkv, hvo, h]; simp⟩
            rw [this]; rfl
          have HJ2 : Hid (vokR (nthVo vs k9) n = true → ∀ i, i < k9 + 1 → vokR (nthVo vs i) n = true) := fun h i hi => by
            by_cases e : i = k9
            · rw [e]; exact h
            · exact HJ.out i (by omega)
          clear hvo hkv
          generalize nthVo vs k9 = x at hcv HVX HVE HJ2
          unfold VotAt at hcv
          go_wp2_with fail
          clear q0 q1 q2 q3 q4 q5 q6 q7 q8 q9 q10 q11 q12 q13
          refine wp_region_noPanic ?_
          refine wp_region_held_drew (S := fun w' => (w'.cell? ⟨w.heap.size, 0, none⟩ = some (.int .i64 d) ∧ w'.cell? ⟨w.heap.size, 1, none⟩ = some (.int .i64 n) ∧ w'.cell? ⟨w.heap.size, 2, none⟩ = some (.int .i64 v) ∧ w'.cell? ⟨w.heap.size, 3, none⟩ = some (.int .i64 o) ∧ w'.cell? ⟨w.heap.size, 4, none⟩ = some (.int .i64 l) ∧ w'.cell? ⟨w.heap.size, 5, none⟩ = some (.int .i64 r) ∧ w'.cell? ⟨w.heap.size, 6, none⟩ = some (.int .i64 hp.vw) ∧ w'.cell? ⟨w.heap.size, 7, none⟩ = some (.int .i64 hp.nm) ∧ w'.cell? ⟨w.heap.size, 8, none⟩ = some (hvs) ∧ w'.cell? ⟨w.heap.size, 9, none⟩ = some (hvt) ∧ w'.cell? ⟨w.heap.size, 10, none⟩ = some (.slice ab bn cb) ∧ w'.cell? ⟨w.heap.size, 11, none⟩ = some (.slice (some ⟨b9, o9, none⟩) vl cv) ∧ w'.cell? ⟨w.heap.size, 12, none⟩ = some (.slice an nl cn) ∧ w'.cell? ⟨w.heap.size, 13, none⟩ = some (vd)) ∧ (w'.cell? ⟨b9, o9 + k9 * 4, none⟩ = some (.int .i64 x.vw) ∧ w'.cell? ⟨b9, o9 + k9 * 4 + 1, none⟩ = some (.int .i64 x.nm) ∧ w'.cell? ⟨b9, o9 + k9 * 4 + 2, none⟩ = some (.int .i64 x.sv) ∧ w'.cell? ⟨b9, o9 + k9 * 4 + 3, none⟩ = some (.int .i64 x.tg))) (by kernel_rfl) ⟨(t8.below (Below.refl _ _).drew).c14, hcv⟩ (fun h0 => ?_)
          refine tkG 0 117 h0 ?_
          try simp only [Act.put, List.setIfInBounds_toArray, List.set_cons_zero, List.set_cons_succ]
          refine tkG 1 118 h0 ?_
          try simp only [Act.put, List.setIfInBounds_toArray, List.set_cons_zero, List.set_cons_succ]
          refine tkG 2 119 h0 ?_
          try simp only [Act.put, List.setIfInBounds_toArray, List.set_cons_zero, List.set_cons_succ]
          refine tkG 3 120 h0 ?_
          try simp only [Act.put, List.setIfInBounds_toArray, List.set_cons_zero, List.set_cons_succ]
          refine tkG 4 121 h0 ?_
          try simp only [Act.put, List.setIfInBounds_toArray, List.set_cons_zero, List.set_cons_succ]
          refine tkG 5 122 h0 ?_
          try simp only [Act.put, List.setIfInBounds_toArray, List.set_cons_zero, List.set_cons_succ]
          refine tkG 6 123 h0 ?_
          try simp only [Act.put, List.setIfInBounds_toArray, List.set_cons_zero, List.set_cons_succ]
          refine wpAnyH_ready (rs := [7]) (by kernel_rfl) (by simp) ?_
          refine AllReadyH.cons rfl (fun K hK => ?_) AllReadyH.nil
          go_simp
          refine (HVX.out _).mono ?_
          rintro e w9 ⟨rfl, hb9⟩
          have bA := b8.drew.trans (hb9.mono b8.drew.size)
          have tA := (t8.below (Below.refl _ _).drew).below hb9
          refine hK.out _ _ (⟨tA.c14, VotAt.below (w := wr.drew) (e := x) h0.2 hb9⟩) (fun h1 => ?_)
          clear hK K
          try simp only [Act.put, List.setIfInBounds_toArray, List.set_cons_zero, List.set_cons_succ]
          clear h0
          refine tkG 8 125 h1 ?_
          try simp only [Act.put, List.setIfInBounds_toArray, List.set_cons_zero, List.set_cons_succ]
          refine wpAnyH_done (by kernel_rfl) ?_ _
          refine NoPanic.normal ?_
          clear hb9 hcv t8 b8 HVX
          cases vo with
          | false =>
            have HRF : Hid (R = false) := HRV.out rfl
            go_wp2
            go_ret
            exact ⟨ret_bool HRF.out.symm, bA⟩
          | true =>
            have HJ3 : Hid (∀ i, i < k9 + 1 → vokR (nthVo vs i) n = true) := HJ2.out HVE.out
            clear HJ2 HVE HRV
            go_wp2
            go_roundw
            case rel => exact ⟨k9 + 1, by omega, by go_num, HJ3, tA, bA⟩
            case measure => simp [intOf]; omega
        · have HR4 : Hid (R = (ns.all (newB n) && (kn && dd))) := by
            have hke : k9 = vl := by omega
            unfold Hid
            have : vs.all (fun x => vokR x n) = true := by
              rw [List.all_eq_true]
              intro x hx
              obtain ⟨i, hi, rfl⟩ := List.getElem_of_mem hx
              rw [← nthVo_eq hi]
              exact HJ.out i (by rw [hke, HVL.out]; exact hi)
            rw [HR3.out, this]
            rfl
          clear HR3 HJ HVO
          go_wp2
          clear q0 q1 q2 q3 q4 q5 q6 q7 q8 q9 q10 q11 q12 q13
          go_loopw [7] (fun iv wk => ∃ k9 : Nat, k9 ≤ nl ∧ iv = .int .i64 k9 ∧ Hid (∀ i, i < k9 → newB n (nthNw ns i) = true) ∧ Bx wk w.heap.size 31 #[.int .i64 d, .int .i64 n, .int .i64 v, .int .i64 o, .int .i64 l, .int .i64 r, .int .i64 hp.vw, .int .i64 hp.nm, hvs, hvt, .slice ab bn cb, .slice av vl cv, .slice an nl cn, vd] ∧ Below w.heap.size w wk) (fun iv _ => nl - (intOf iv).toNat)
          case atStart => exact ⟨0, Nat.zero_le _, rfl, (fun i h => by omega), t8, b8⟩
          case round =>
            clear t8 b8
            obtain ⟨k9, hk9, rfl, HJ, t8, b8⟩ := hrel
            obtain ⟨q0, q1, q2, q3, q4, q5, q6, q7, q8, q9, q10, q11, q12, q13⟩ := t8.c14
            by_cases hln9 : k9 < nl
            · have hkv : k9 < ns.length := by rw [← HNL.out]; exact hln9
              obtain ⟨b9, o9, rfl, hcv⟩ := (hx5.below b8).at HNL.out k9 hkv
              have hkc : k9 < cn := by omega
              have HRV : Hid (newB n (nthNw ns k9) = false → R = false) := fun h => by
                rw [HR4.out]
                have : ns.all (newB n) = false := by
                  rw [List.all_eq_false]
                  exact ⟨ns[k9], List.getElem_mem hkv, by rw [← nthNw_eq hkv, h]; simp⟩
                rw [this]; rfl
              have HJ2 : Hid (newB n (nthNw ns k9) = true → ∀ i, i < k9 + 1 → newB n (nthNw ns i) = true) := fun h i hi => by
                by_cases e : i = k9
                · rw [e]; exact h
                · exact HJ.out i (by omega)
              clear hkv
              generalize nthNw ns k9 = x at hcv HRV HJ2
              unfold NwsAt at hcv
              obtain ⟨y1, hy1⟩ : ∃ z, decide (0 ≤ x.sv ∧ x.sv ≤ n - 1) = z := ⟨_, rfl⟩
              obtain ⟨y2, hy2⟩ : ∃ z, inV x.vw = z := ⟨_, rfl⟩
              have HNB : Hid (newB n x = (y2 && y1)) := by unfold Hid newB; rw [hy1, hy2]
              have HY1 : Hid (decide (0 ≤ x.sv ∧ x.sv ≤ n1) = y1) := by unfold Hid; rw [HN1.out]; exact hy1
              have HY2 : Hid (decide (1 ≤ x.vw ∧ x.vw ≤ 100000) = y2) := hy2
              clear hy1 hy2
              cases y1 with
              | false =>
                have HRF : Hid (R = false) := HRV.out (by rw [HNB.out]; cases y2 <;> rfl)
                go_wp2_with fail
                clear q0 q1 q2 q3 q4 q5 q6 q7 q8 q9 q10 q11 q12 q13
                refine wp_region_noPanic ?_
                refine wp_region_held_drew (S := fun w' => (w'.cell? ⟨w.heap.size, 0, none⟩ = some (.int .i64 d) ∧ w'.cell? ⟨w.heap.size, 1, none⟩ = some (.int .i64 n) ∧ w'.cell? ⟨w.heap.size, 2, none⟩ = some (.int .i64 v) ∧ w'.cell? ⟨w.heap.size, 3, none⟩ = some (.int .i64 o) ∧ w'.cell? ⟨w.heap.size, 4, none⟩ = some (.int .i64 l) ∧ w'.cell? ⟨w.heap.size, 5, none⟩ = some (.int .i64 r) ∧ w'.cell? ⟨w.heap.size, 6, none⟩ = some (.int .i64 hp.vw) ∧ w'.cell? ⟨w.heap.size, 7, none⟩ = some (.int .i64 hp.nm) ∧ w'.cell? ⟨w.heap.size, 8, none⟩ = some (hvs) ∧ w'.cell? ⟨w.heap.size, 9, none⟩ = some (hvt) ∧ w'.cell? ⟨w.heap.size, 10, none⟩ = some (.slice ab bn cb) ∧ w'.cell? ⟨w.heap.size, 11, none⟩ = some (.slice av vl cv) ∧ w'.cell? ⟨w.heap.size, 12, none⟩ = some (.slice (some ⟨b9, o9, none⟩) nl cn) ∧ w'.cell? ⟨w.heap.size, 13, none⟩ = some (vd)) ∧ (w'.cell? ⟨b9, o9 + k9 * 2, none⟩ = some (.int .i64 x.vw) ∧ w'.cell? ⟨b9, o9 + k9 * 2 + 1, none⟩ = some (.int .i64 x.sv))) (by kernel_rfl) ⟨(t8.below (Below.refl _ _).drew).c14, hcv⟩ (fun h0 => ?_)
                refine tkG 0 133 h0 ?_
                try simp only [Act.put, List.setIfInBounds_toArray, List.set_cons_zero, List.set_cons_succ]
                refine tkG 1 134 h0 ?_
                try simp only [Act.put, List.setIfInBounds_toArray, List.set_cons_zero, List.set_cons_succ]
                refine tkG 2 135 h0 ?_
                try simp only [Act.put, List.setIfInBounds_toArray, List.set_cons_zero, List.set_cons_succ]
                refine tkG 3 136 h0 ?_
                try simp only [Act.put, List.setIfInBounds_toArray, List.set_cons_zero, List.set_cons_succ]
                refine tkG 4 137 h0 ?_
                try simp only [Act.put, List.setIfInBounds_toArray, List.set_cons_zero, List.set_cons_succ]
                refine tkG 5 138 h0 ?_
                try simp only [Act.put, List.setIfInBounds_toArray, List.set_cons_zero, List.set_cons_succ]
                refine tkG 6 139 h0 ?_
                try simp only [Act.put, List.setIfInBounds_toArray, List.set_cons_zero, List.set_cons_succ]
                refine tkG 7 140 h0 ?_
                try simp only [Act.put, List.setIfInBounds_toArray, List.set_cons_zero, List.set_cons_succ]
                refine tkG 8 141 h0 ?_
                try simp only [Act.put, List.setIfInBounds_toArray, List.set_cons_zero, List.set_cons_succ]
                refine wpAnyH_ready (rs := [9]) (by kernel_rfl) (by simp) ?_
                refine AllReadyH.cons rfl (fun K hK => ?_) AllReadyH.nil
                go_simp
                refine (HIN.out false _ _ _ HY1.out _).mono ?_
                rintro e w9 ⟨rfl, rfl⟩
                refine hK.out _ _ (h0) (fun h1 => ?_)
                clear hK K
                try simp only [Act.put, List.setIfInBounds_toArray, List.set_cons_zero, List.set_cons_succ]
                clear h0
                refine tkG 10 143 h1 ?_
                try simp only [Act.put, List.setIfInBounds_toArray, List.set_cons_zero, List.set_cons_succ]
                refine tkG 11 144 h1 ?_
                try simp only [Act.put, List.setIfInBounds_toArray, List.set_cons_zero, List.set_cons_succ]
                refine tkS 12 145 h1 ?_
                try simp only [Act.put, List.setIfInBounds_toArray, List.set_cons_zero, List.set_cons_succ]
                refine tkS 13 146 h1 ?_
                try simp only [Act.put, List.setIfInBounds_toArray, List.set_cons_zero, List.set_cons_succ]
                refine tkS 14 147 h1 ?_
                try simp only [Act.put, List.setIfInBounds_toArray, List.set_cons_zero, List.set_cons_succ]
                refine tkS 15 148 h1 ?_
                try simp only [Act.put, List.setIfInBounds_toArray, List.set_cons_zero, List.set_cons_succ]
                refine tkS 16 149 h1 ?_
                try simp only [Act.put, List.setIfInBounds_toArray, List.set_cons_zero, List.set_cons_succ]
                refine tkS 17 150 h1 ?_
                try simp only [Act.put, List.setIfInBounds_toArray, List.set_cons_zero, List.set_cons_succ]
                refine tkS 18 151 h1 ?_
                try simp only [Act.put, List.setIfInBounds_toArray, List.set_cons_zero, List.set_cons_succ]
                refine tkS 19 152 h1 ?_
                try simp only [Act.put, List.setIfInBounds_toArray, List.set_cons_zero, List.set_cons_succ]
                refine tkG 20 153 h1 ?_
                try simp only [Act.put, List.setIfInBounds_toArray, List.set_cons_zero, List.set_cons_succ]
                refine wpAnyH_done (by kernel_rfl) ?_ _
                refine NoPanic.normal ?_
                go_wp2
                go_ret
                exact ⟨ret_bool HRF.out.symm, b8.drew⟩
              | true =>
                go_wp2_with fail
                clear q0 q1 q2 q3 q4 q5 q6 q7 q8 q9 q10 q11 q12 q13
                refine wp_region_noPanic ?_
                refine wp_region_held_drew (S := fun w' => (w'.cell? ⟨w.heap.size, 0, none⟩ = some (.int .i64 d) ∧ w'.cell? ⟨w.heap.size, 1, none⟩ = some (.int .i64 n) ∧ w'.cell? ⟨w.heap.size, 2, none⟩ = some (.int .i64 v) ∧ w'.cell? ⟨w.heap.size, 3, none⟩ = some (.int .i64 o) ∧ w'.cell? ⟨w.heap.size, 4, none⟩ = some (.int .i64 l) ∧ w'.cell? ⟨w.heap.size, 5, none⟩ = some (.int .i64 r) ∧ w'.cell? ⟨w.heap.size, 6, none⟩ = some (.int .i64 hp.vw) ∧ w'.cell? ⟨w.heap.size, 7, none⟩ = some (.int .i64 hp.nm) ∧ w'.cell? ⟨w.heap.size, 8, none⟩ = some (hvs) ∧ w'.cell? ⟨w.heap.size, 9, none⟩ = some (hvt) ∧ w'.cell? ⟨w.heap.size, 10, none⟩ = some (.slice ab bn cb) ∧ w'.cell? ⟨w.heap.size, 11, none⟩ = some (.slice av vl cv) ∧ w'.cell? ⟨w.heap.size, 12, none⟩ = some (.slice (some ⟨b9, o9, none⟩) nl cn) ∧ w'.cell? ⟨w.heap.size, 13, none⟩ = some (vd)) ∧ (w'.cell? ⟨b9, o9 + k9 * 2, none⟩ = some (.int .i64 x.vw) ∧ w'.cell? ⟨b9, o9 + k9 * 2 + 1, none⟩ = some (.int .i64 x.sv))) (by kernel_rfl) ⟨(t8.below (Below.refl _ _).drew).c14, hcv⟩ (fun h0 => ?_)
                refine tkG 0 133 h0 ?_
                try simp only [Act.put, List.setIfInBounds_toArray, List.set_cons_zero, List.set_cons_succ]
                refine tkG 1 134 h0 ?_
                try simp only [Act.put, List.setIfInBounds_toArray, List.set_cons_zero, List.set_cons_succ]
                refine tkG 2 135 h0 ?_
                try simp only [Act.put, List.setIfInBounds_toArray, List.set_cons_zero, List.set_cons_succ]
                refine tkG 3 136 h0 ?_
                try simp only [Act.put, List.setIfInBounds_toArray, List.set_cons_zero, List.set_cons_succ]
                refine tkG 4 137 h0 ?_
                try simp only [Act.put, List.setIfInBounds_toArray, List.set_cons_zero, List.set_cons_succ]
                refine tkG 5 138 h0 ?_
                try simp only [Act.put, List.setIfInBounds_toArray, List.set_cons_zero, List.set_cons_succ]
                refine tkG 6 139 h0 ?_
                try simp only [Act.put, List.setIfInBounds_toArray, List.set_cons_zero, List.set_cons_succ]
                refine tkG 7 140 h0 ?_
                try simp only [Act.put, List.setIfInBounds_toArray, List.set_cons_zero, List.set_cons_succ]
                refine tkG 8 141 h0 ?_
                try simp only [Act.put, List.setIfInBounds_toArray, List.set_cons_zero, List.set_cons_succ]
                refine wpAnyH_ready (rs := [9]) (by kernel_rfl) (by simp) ?_
                refine AllReadyH.cons rfl (fun K hK => ?_) AllReadyH.nil
                go_simp
                refine (HIN.out true _ _ _ HY1.out _).mono ?_
                rintro e w9 ⟨rfl, rfl⟩
                refine hK.out _ _ (h0) (fun h1 => ?_)
                clear hK K
                try simp only [Act.put, List.setIfInBounds_toArray, List.set_cons_zero, List.set_cons_succ]
                clear h0
                refine tkG 10 143 h1 ?_
                try simp only [Act.put, List.setIfInBounds_toArray, List.set_cons_zero, List.set_cons_succ]
                refine tkG 11 144 h1 ?_
                try simp only [Act.put, List.setIfInBounds_toArray, List.set_cons_zero, List.set_cons_succ]
                refine tkG 12 145 h1 ?_
                try simp only [Act.put, List.setIfInBounds_toArray, List.set_cons_zero, List.set_cons_succ]
                refine tkG 13 146 h1 ?_
                try simp only [Act.put, List.setIfInBounds_toArray, List.set_cons_zero, List.set_cons_succ]
                refine tkG 14 147 h1 ?_
                try simp only [Act.put, List.setIfInBounds_toArray, List.set_cons_zero, List.set_cons_succ]
                refine tkG 15 148 h1 ?_
                try simp only [Act.put, List.setIfInBounds_toArray, List.set_cons_zero, List.set_cons_succ]
                refine tkG 16 149 h1 ?_
                try simp only [Act.put, List.setIfInBounds_toArray, List.set_cons_zero, List.set_cons_succ]
                refine tkG 17 150 h1 ?_
                try simp only [Act.put, List.setIfInBounds_toArray, List.set_cons_zero, List.set_cons_succ]
                refine wpAnyH_ready (rs := [18]) (by kernel_rfl) (by simp) ?_
                refine AllReadyH.cons rfl (fun K hK => ?_) AllReadyH.nil
                go_simp
                refine (HIN.out y2 _ _ _ HY2.out _).mono ?_
                rintro e w9 ⟨rfl, rfl⟩
                refine hK.out _ _ (h1) (fun h2 => ?_)
                clear hK K
                try simp only [Act.put, List.setIfInBounds_toArray, List.set_cons_zero, List.set_cons_succ]
                clear h1
                refine tkG 19 152 h2 ?_
                try simp only [Act.put, List.setIfInBounds_toArray, List.set_cons_zero, List.set_cons_succ]
                refine tkG 20 153 h2 ?_
                try simp only [Act.put, List.setIfInBounds_toArray, List.set_cons_zero, List.set_cons_succ]
                refine wpAnyH_done (by kernel_rfl) ?_ _
                refine NoPanic.normal ?_
                cases y2 with
                | false =>
                  have HRF : Hid (R = false) := HRV.out (by rw [HNB.out]; rfl)
                  go_wp2
                  go_ret
                  exact ⟨ret_bool HRF.out.symm, b8.drew⟩
                | true =>
                  have HJ3 : Hid (∀ i, i < k9 + 1 → newB n (nthNw ns i) = true) := HJ2.out (by rw [HNB.out]; rfl)
                  have tZ := t8.below (Below.refl _ _).drew
                  have bZ := b8.drew
                  clear HJ2 HNB HRV t8 b8 hcv
                  go_wp2
                  go_roundw
                  case rel => exact ⟨k9 + 1, by omega, by go_num, HJ3, tZ, bZ⟩
                  case measure => simp [intOf]; omega
            · have HR5 : Hid (R = (kn && dd)) := by
                have hke : k9 = nl := by omega
                unfold Hid
                have : ns.all (newB n) = true := by
                  rw [List.all_eq_true]
                  intro x hx
                  obtain ⟨i, hi, rfl⟩ := List.getElem_of_mem hx
                  rw [← nthNw_eq hi]
                  exact HJ.out i (by rw [hke, HNL.out]; exact hi)
                rw [HR4.out, this]
                rfl
              clear HR4 HJ
              go_wp2_with fail
              refine (HKH.out _ b8).mono ?_
              rintro e w9 ⟨rfl, hb9⟩
              have t9 := t8.below hb9
              have b9 := b8.trans (hb9.mono b8.size)
              clear q0 q1 q2 q3 q4 q5 q6 q7 q8 q9 q10 q11 q12 q13 t8 b8 hb9
              obtain ⟨q0, q1, q2, q3, q4, q5, q6, q7, q8, q9, q10, q11, q12, q13⟩ := t9.c14
              cases kn with
              | false =>
                go_wp2
                go_ret
                exact ⟨ret_bool HR5.out.symm, b9⟩
              | true =>
                go_wp2_with fail
                refine (HDD.out _ b9).mono ?_
                rintro e wA ⟨rfl, hbA⟩
                have bA := b9.trans (hbA.mono b9.size)
                clear q0 q1 q2 q3 q4 q5 q6 q7 q8 q9 q10 q11 q12 q13 t9 b9 hbA
                have HR6 : Hid (R = dd) := by unfold Hid; rw [HR5.out]; rfl
                go_wp2
                go_ret
                exact ⟨ret_bool HR6.out.symm, bA⟩
end Go.Proofs.YtilhaokiohbeeaaGreatDoor
