/- The contract of the program's Packed: the bytes of right entries, nothing of others. -/
import Derived.Test.YtbefmbjlogkmbaaGreatG10
import Derived.Lib.AppendZeros
namespace Go.Proofs.YtbefmbjlogkmbaaGreat
set_option maxHeartbeats 16000000
set_option maxRecDepth 100000
open Go.RowKit
theorem stampOf_any (x : Ent) (w : World) (h : okE x = true) :
    Calls Tryz.prog 153 #[.agg #[.string x.key, .string x.val, .int .i64 x.seq, .bool x.gone]] w fun e w' => e = .returned (.int .i64 (stp x : Int)) ∧ Below w.heap.size w w' := by
  obtain ⟨_, _, _, h4, h5⟩ := okE_parts h
  have hb0 := below1 w (.cells #[.string x.key, .string x.val, .int .i64 x.seq, .bool x.gone] 89)
  have hx0 := entAt_new w x 89
  obtain ⟨c0, c1, c2, c3⟩ := id hx0
  simp only [Nat.zero_add] at c1 c2 c3
  have HS : Hid ((stp x : Int) = 2 * x.seq + (if x.gone = true then 1 else 0)) := by unfold Hid stp; split <;> omega
  cases hg : x.gone with
  | true =>
    rw [hg] at c3 hb0
    have HT : Hid ((stp x : Int) = 2 * x.seq + 1) := by have := HS.out; rw [hg, if_pos rfl] at this; exact this
    clear HS hx0 h
    go_enter Tryz.func153, Tryz.ntmps153
    go_wp2
    go_ret
    exact ⟨by rw [HT.out]; rfl, hb0⟩
  | false =>
    rw [hg] at c3 hb0
    have HT : Hid ((stp x : Int) = 2 * x.seq) := by have := HS.out; rw [hg, if_neg (by simp)] at this; rw [this]; exact Int.add_zero _
    clear HS hx0 h
    go_enter Tryz.func153, Tryz.ntmps153
    go_wp2
    go_ret
    exact ⟨by rw [HT.out]; rfl, hb0⟩
theorem zeros_size (n : Nat) : (Builtin.zeroCells #[Value.int .u8 0] n).size = n := by simp [Builtin.zeroCells]
theorem grow_any (n : Nat) (w : World) (h0 : 0 < n) (h1 : n ≤ 1000000000) :
    Calls Tryz.prog 162 #[.slice none 0 0, .int .i64 (n : Int)] w fun e w' => ∃ u, e = .returned u ∧ Own w' w.heap.size u [] ∧ Below w.heap.size w w' := by
  obtain ⟨i0, hi, hz0, hz1, hz2⟩ := info_parts Tryz.info5
  have hrun := Lib.run_append_nil_zeros (P := Tryz.prog) w 102 3 102 5 i0 (.int .u8 0) .i64 .i64 Tryz.underlying102 Tryz.underlying3 hi hz0 n h0 (by rw [hz1]; decide) (by omega) (by rw [hz2]; omega)
  have hge := grownCap_ge w n 0 5
  have hle := grownCap_le_maxLen w n 0 5 (by unfold maxLen; omega)
  have HB : Hid (Below w.heap.size w (w.drew.alloc (.cells (Builtin.zeroCells #[Value.int .u8 0] n ++ Builtin.zeroCells #[Value.int .u8 0] (grownCap w n 0 5 - n)) 5))) := (Below.refl _ _).drew.alloc (Nat.le_refl _) _
  have HO : Hid (Own (w.drew.alloc (.cells (Builtin.zeroCells #[Value.int .u8 0] n ++ Builtin.zeroCells #[Value.int .u8 0] (grownCap w n 0 5 - n)) 5)) w.heap.size (.slice (some ⟨w.heap.size, 0, none⟩) 0 (grownCap w n 0 5)) []) := by
    refine ⟨rfl, .inr ⟨w.heap.size, grownCap w n 0 5, _, rfl, Nat.le_refl _, (show (w.drew.heap.push _)[w.drew.heap.size]? = some _ from Array.getElem?_push_size), Nat.zero_le _, hle, ?_, by simp [BV]⟩⟩
    rw [Array.size_append, zeros_size, zeros_size]; omega
  change (Builtin.append_ #[102, 3] 102 #[.slice none 0 0, .int .i64 (n : Int)]).run Tryz.prog w = .ok (.slice (some ⟨w.heap.size, 0, none⟩) n (grownCap w n 0 5)) (w.drew.alloc (.cells (Builtin.zeroCells #[Value.int .u8 0] n ++ Builtin.zeroCells #[Value.int .u8 0] (grownCap w n 0 5 - n)) 5)) at hrun
  generalize grownCap w n 0 5 = cap at hrun hge hle HB HO
  unfold maxLen at hle
  go_enter Tryz.func162, Tryz.ntmps162
  go_wp2_with (at_builtin; refine Lib.wpList_append_run _ rfl _ _ _ _ rfl _ _ rfl rfl _ _ hrun ?_)
  go_ret
  exact ⟨_, rfl, HO.out, HB.out⟩
def catL (ps : List (Value × List UInt8)) : List UInt8 := ps.flatMap (·.2)
theorem catL_take {ps : List (Value × List UInt8)} {k : Nat} (h : k < ps.length) : catL (ps.take (k + 1)) = catL (ps.take k) ++ ps[k].2 := by
  unfold catL; rw [List.take_succ_eq_append_getElem h, List.flatMap_append, List.flatMap_singleton]
theorem catL_le (ps : List (Value × List UInt8)) (k : Nat) : (catL (ps.take k)).length ≤ (catL ps).length := by
  have h : catL ps = catL (ps.take k) ++ catL (ps.drop k) := by unfold catL; rw [← List.flatMap_append, List.take_append_drop]
  rw [h, List.length_append]; omega
theorem concat_any (ps : List (Value × List UInt8)) (b off cap : Nat) (w : World) (hc : ∀ i (h : i < ps.length), w.cell? ⟨b, off + i, none⟩ = some ps[i].1) (ho : ∀ p ∈ ps, ∃ B, Own w B p.1 p.2) (hp : ps.length ≤ cap) (hm : cap ≤ 1000000000) (h0 : 0 < (catL ps).length) (h1 : (catL ps).length ≤ 1000000000) :
    Calls Tryz.prog 151 #[.slice (some ⟨b, off, none⟩) ps.length cap] w fun e w' => ∃ u, e = .returned u ∧ Own w' w.heap.size u (catL ps) ∧ Below w.heap.size w w' := by
  have HC : Hid (∀ i (h : i < ps.length), w.cell? ⟨b, off + i, none⟩ = some ps[i].1) := hc
  have HO : Hid (∀ p ∈ ps, ∃ B, Own w B p.1 p.2) := ho
  clear hc ho
  go_enter Tryz.func151, Tryz.ntmps151
  go_wp2
  go_loopw [3, 11] (fun s i wr => ∃ k : Nat, k ≤ ps.length ∧ i = .int .i64 k ∧ s = .int .i64 ((catL (ps.take k)).length : Int) ∧ wr = w) (fun _ i _ => ps.length - (intOf i).toNat)
  case atStart => exact ⟨0, Nat.zero_le _, rfl, rfl, rfl⟩
  case round =>
    obtain ⟨k, hk, rfl, rfl, hwr⟩ := hrel
    obtain rfl := hwr.symm
    by_cases hlt : k < ps.length
    · have hcell := HC.out k hlt
      obtain ⟨B, hob⟩ := HO.out _ (List.getElem_mem hlt)
      obtain ⟨aa, cc, hsh⟩ := hob.rd.shape
      rw [hsh] at hcell
      have HT := congrArg List.length (catL_take hlt)
      rw [List.length_append] at HT
      have hle := catL_le ps (k + 1)
      generalize ps[k].2.length = m at HT hcell
      generalize hq : (catL (ps.take k)).length = q at HT ⊢
      have hlq : (q : Int) + (m : Int) ≤ 1000000000 := by omega
      have HQ : Hid ((q : Int) + (m : Int) = ((catL (ps.take (k + 1))).length : Int)) := by unfold Hid; rw [HT]; omega
      clear HT hle hob hsh hq
      go_wp2
      go_roundw
      case rel => exact ⟨k + 1, by omega, by go_num, by rw [← HQ.out], trivial⟩
      case measure => simp [intOf]; omega
    · have hke : k = ps.length := by omega
      subst hke
      rw [List.take_length]
      go_wp2_with fail
      refine (grow_any _ _ h0 h1).mono ?_
      rintro e w1 ⟨u1, rfl, ho1, hb1⟩
      go_wp2
      go_loopw [6, 27] (fun v i wr => ∃ k : Nat, k ≤ ps.length ∧ i = .int .i64 k ∧ Own wr w.heap.size v (catL (ps.take k)) ∧ Below w.heap.size w wr) (fun _ i _ => ps.length - (intOf i).toNat)
      case atStart => exact ⟨0, Nat.zero_le _, rfl, ho1, hb1⟩
      case round =>
        obtain ⟨k, hk, rfl, hov, hbv⟩ := hrel
        clear ho1 hb1
        by_cases hlt : k < ps.length
        · have hcell := (hbv.cell (World.block_lt_of_cell? w _ (HC.out k hlt))).trans (HC.out k hlt)
          obtain ⟨B, hob⟩ := HO.out _ (List.getElem_mem hlt)
          have hob2 := hob.below hbv
          have HT := catL_take hlt
          have hle := catL_le ps (k + 1)
          rw [HT, List.length_append] at hle
          generalize ps[k].1 = u at hcell hob2
          generalize ps[k].2 = zs at HT hob2 hle
          obtain ⟨aa, cc, hsh⟩ := hob2.rd.shape
          subst hsh
          have HT2 : Hid (catL (ps.take (k + 1)) = catL (ps.take k) ++ zs) := HT
          clear hob HT
          generalize catL (ps.take k) = ys at hov hle HT2
          go_wp2_with (at_builtin; (refine wpList_append_bytes rfl _ _ rfl w.heap.size B _ _ ys zs rfl rfl hov hob2 (by omega) hbv.size ?_))
          intro v5 w5 ho5 hg5
          have b5 := grew_below hbv hov hg5 hbv.size
          rw [← HT2.out] at ho5
          clear hov hob2 hbv hg5 hle
          go_wp2
          go_roundw
          case rel => exact ⟨k + 1, by omega, by go_num, ho5, b5⟩
          case measure => simp [intOf]; omega
        · have hke : k = ps.length := by omega
          subst hke
          rw [List.take_length] at hov
          go_wp2
          go_ret
          exact ⟨_, rfl, hov, hbv⟩
theorem step_build {w : World} {ops : Array Oper} {o : Oper} {a : Act} {K : Act → World → Prop} {Q : Exit → Act → World → Prop} {E : Prop} (hgd : o.guard = none) (d : Nat) (hd : o.dst = some d) (cs : Array Value) (t : TypeId) (n : Nat)
    (hrun : (execOp a.eval o).run Tryz.prog w = .ok (.value (.slice (some ⟨w.heap.size, 0, none⟩) n n)) (w.alloc (.cells cs t)))
    (h : ∀ b W', Below w.heap.size w W' → w.heap.size ≤ b → (∀ j, W'.cell? ⟨b, j, none⟩ = cs[j]?) → K (a.put (some d) (.slice (some ⟨b, 0, none⟩) n n)) W') :
    if Region.wanted o (yielded ops a.tmps) = true then Oper.wp Tryz.prog o a w K Q else E := by
  have hw : Region.wanted o (yielded ops a.tmps) = true := by simp [Region.wanted, hgd]
  rw [if_pos hw]
  have h' := h w.heap.size _ (below1 w (.cells cs t)) (Nat.le_refl _) (fun j => by simp)
  rw [← hd] at h'
  unfold Oper.wp
  rw [hrun]
  exact h'
theorem fourCells {W : World} {b : Nat} {x0 x1 x2 x3 : Value × List UInt8} (h : ∀ j, W.cell? ⟨b, j, none⟩ = #[x0.1, x1.1, x2.1, x3.1][j]?) : ∀ i (h : i < [x0, x1, x2, x3].length), W.cell? ⟨b, 0 + i, none⟩ = some [x0, x1, x2, x3][i].1
  | 0, _ => h 0
  | 1, _ => h 1
  | 2, _ => h 2
  | 3, _ => h 3
theorem fourOwn {W : World} {B0 B1 B2 B3 : Nat} {x0 x1 x2 x3 : Value × List UInt8} (h0 : Own W B0 x0.1 x0.2) (h1 : Own W B1 x1.1 x1.2) (h2 : Own W B2 x2.1 x2.2) (h3 : Own W B3 x3.1 x3.2) : ∀ p ∈ [x0, x1, x2, x3], ∃ B, Own W B p.1 p.2 := by
  intro p hp
  simp only [List.mem_cons, List.not_mem_nil, or_false] at hp
  rcases hp with rfl | rfl | rfl | rfl
  · exact ⟨_, h0⟩
  · exact ⟨_, h1⟩
  · exact ⟨_, h2⟩
  · exact ⟨_, h3⟩
theorem fourCat (x0 x1 x2 x3 : Value × List UInt8) : catL [x0, x1, x2, x3] = x0.2 ++ (x1.2 ++ (x2.2 ++ x3.2)) := by simp [catL]
theorem packedBehind_any (last : ByteArray) (y : Ent) (w : World) (hls : last.size ≤ 40) (hok : okE y = true) :
    Calls Tryz.prog 137 #[.string last, .agg #[.string y.key, .string y.val, .int .i64 y.seq, .bool y.gone]] w fun e w' => ∃ u, e = .returned u ∧ Own w' w.heap.size u (packE last y) ∧ Below w.heap.size w w' := by
  obtain ⟨hy1, hy2, hy3, hy4, hy5⟩ := okE_parts hok
  have HOY : Hid (okE y = true) := hok
  have hst := stp_le hok
  clear hok
  have hx0 := entAt_new w y 89
  have b0 := below1 w (.cells #[.string y.key, .string y.val, .int .i64 y.seq, .bool y.gone] 89)
  have HE : Hid (packE last y = enc (com last y.key) ++ ((enc (y.key.size - com last y.key) ++ y.key.data.toList.drop (com last y.key)) ++ (enc (stp y) ++ (enc y.val.size ++ y.val.data.toList)))) := rfl
  have hpl := packE_len (last := last) HOY.out
  have hcl := com_le last y.key
  obtain ⟨P, hP⟩ : ∃ P, P = packE last y := ⟨_, rfl⟩
  rw [← hP] at HE hpl ⊢
  clear hP
  obtain ⟨c0, c1, c2, c3⟩ := id hx0
  simp only [Nat.zero_add] at c1 c2 c3
  go_enter Tryz.func137, Tryz.ntmps137
  go_wp2_with fail
  refine (implCommon_any _ _ _ (by omega) (by omega)).mono ?_
  rintro e w3 ⟨rfl, n3, rfl⟩
  have hx3 : EntAt ((w.alloc (.cells #[.string y.key, .string y.val, .int .i64 y.seq, .bool y.gone] 89)).drewN n3) w.heap.size 0 y := hx0
  have b3 := below_drewN b0 n3
  generalize com last y.key = c at hcl HE ⊢
  clear hx0 b0 c0 c1 c2 c3
  generalize (w.alloc (.cells #[.string y.key, .string y.val, .int .i64 y.seq, .bool y.gone] 89)).drewN n3 = W3 at hx3 b3 ⊢
  obtain ⟨hcl1, hcl2⟩ := hcl
  obtain ⟨kr, hkr⟩ : ∃ kr, kr = y.key.extract c y.key.size := ⟨_, rfl⟩
  have hk1 : kr.size ≤ 40 := by rw [hkr, ByteArray.size_extract]; omega
  have HK1 : Hid (enc kr.size ++ kr.data.toList = enc (y.key.size - c) ++ y.key.data.toList.drop c) := by rw [hkr]; exact cut_bytes y.key c
  have N1 : Hid (num (c : Int) = enc c) := num_in _ (by omega) (by omega)
  have N2 : Hid (textOf kr = enc kr.size ++ kr.data.toList) := text_in kr (by omega)
  have N3 : Hid (num (stp y : Int) = enc (stp y)) := num_in _ (by omega) (by omega)
  have N4 : Hid (textOf y.val = enc y.val.size ++ y.val.data.toList) := text_in y.val (by omega)
  have HPc : Hid (P = num (c : Int) ++ (textOf kr ++ (num (stp y : Int) ++ textOf y.val))) := by unfold Hid; rw [N1.out, N2.out, N3.out, N4.out, HK1.out, HE.out]
  clear N1 N2 N3 N4 HK1 HE
  go_wp2_with fail
  refine wp_region_noPanic ?_
  refine wp_region_held_drew (S := fun w' => EntAt w' w.heap.size 0 y) (by kernel_rfl) hx3 (fun hH => ?_)
  have qb := b3.drew
  clear b3 hx3
  revert hH qb
  generalize W3.drew = W0
  intro hH qb
  refine tkA 0 10 hH ?_; try simp only [Act.put, sA, sZ, sS]
  refine tkA 2 12 hH ?_; try simp only [Act.put, sA, sZ, sS]
  refine tkA 3 13 hH ?_; try simp only [Act.put, sA, sZ, sS]
  refine tkA 4 14 hH ?_; try simp only [Act.put, sA, sZ, sS]
  refine tkA 5 15 hH ?_; try simp only [Act.put, sA, sZ, sS]
  refine tkA 7 17 hH ?_; try simp only [Act.put, sA, sZ, sS]
  refine tkA 10 20 hH ?_; try simp only [Act.put, sA, sZ, sS]
  refine tkA 11 21 hH ?_; try simp only [Act.put, sA, sZ, sS]
  rw [← hkr]
  clear hkr
  refine wpAnyH_ready (rs := [1]) (by kernel_rfl) (by simp) ?_
  refine AllReadyH.cons rfl (fun K hK => ?_) AllReadyH.nil
  go_simp
  refine (implNumber_any _ _).mono ?_
  rintro e w1 ⟨u1, rfl, ho1, hb1⟩
  replace qb := qb.trans (hb1.mono qb.size)
  replace hH := hH.below hb1
  refine hK.out _ _ hH (fun h4 => ?_)
  clear hK K h4
  try simp only [Act.put, sA, sZ, sS]
  refine wpAnyH_ready (rs := [6]) (by kernel_rfl) (by simp) ?_
  refine AllReadyH.cons rfl (fun K hK => ?_) AllReadyH.nil
  go_simp
  refine (implText_any kr _ (by omega)).mono ?_
  rintro e w2 ⟨u2, rfl, ho2, hb2⟩
  replace qb := qb.trans (hb2.mono qb.size)
  replace hH := hH.below hb2
  replace ho1 := ho1.below hb2
  refine hK.out _ _ hH (fun h4 => ?_)
  clear hK K h4
  try simp only [Act.put, sA, sZ, sS]
  refine wpAnyH_ready (rs := [8]) (by kernel_rfl) (by simp) ?_
  refine AllReadyH.cons rfl (fun K hK => ?_) AllReadyH.nil
  go_simp
  refine (stampOf_any y _ HOY.out).mono ?_
  rintro e w3 ⟨rfl, hb3⟩
  replace qb := qb.trans (hb3.mono qb.size)
  replace hH := hH.below hb3
  replace ho1 := ho1.below hb3
  replace ho2 := ho2.below hb3
  refine hK.out _ _ hH (fun h4 => ?_)
  clear hK K h4
  try simp only [Act.put, sA, sZ, sS]
  refine wpAnyH_ready (rs := [9]) (by kernel_rfl) (by simp) ?_
  refine AllReadyH.cons rfl (fun K hK => ?_) AllReadyH.nil
  go_simp
  refine (implNumber_any _ _).mono ?_
  rintro e w4 ⟨u4, rfl, ho4, hb4⟩
  replace qb := qb.trans (hb4.mono qb.size)
  replace hH := hH.below hb4
  replace ho1 := ho1.below hb4
  replace ho2 := ho2.below hb4
  refine hK.out _ _ hH (fun h4 => ?_)
  clear hK K h4
  try simp only [Act.put, sA, sZ, sS]
  refine wpAnyH_ready (rs := [12]) (by kernel_rfl) (by simp) ?_
  refine AllReadyH.cons rfl (fun K hK => ?_) AllReadyH.nil
  go_simp
  refine (implText_any y.val _ (by omega)).mono ?_
  rintro e w5 ⟨u5, rfl, ho5, hb5⟩
  replace qb := qb.trans (hb5.mono qb.size)
  replace hH := hH.below hb5
  replace ho1 := ho1.below hb5
  replace ho2 := ho2.below hb5
  replace ho4 := ho4.below hb5
  refine hK.out _ _ hH (fun h4 => ?_)
  clear hK K h4
  try simp only [Act.put, sA, sZ, sS]
  obtain ⟨a1, k1, hs1⟩ := ho1.rd.shape
  obtain ⟨a2, k2, hs2⟩ := ho2.rd.shape
  obtain ⟨a4, k4, hs4⟩ := ho4.rd.shape
  obtain ⟨a5, k5, hs5⟩ := ho5.rd.shape
  refine wpAnyH_ready (rs := [13]) (by kernel_rfl) (by simp) ?_
  refine AllReadyH.cons rfl (fun K hK => ?_) AllReadyH.nil
  subst hs1
  subst hs2
  subst hs4
  subst hs5
  refine step_build rfl 23 rfl #[.slice a1 (num (c : Int)).length k1, .slice a2 (textOf kr).length k2, .slice a4 (num (stp y : Int)).length k4, .slice a5 (textOf y.val).length k5] 102 4 (by go_simp; (try rfl)) ?_
  intro bP w6 hb6 hge hcl
  replace qb := qb.trans (hb6.mono qb.size)
  replace hH := hH.below hb6
  replace ho1 := ho1.below hb6
  replace ho2 := ho2.below hb6
  replace ho4 := ho4.below hb6
  replace ho5 := ho5.below hb6
  refine hK.out _ _ hH (fun h4 => ?_)
  clear hK K h4
  try simp only [Act.put, sA, sZ, sS]
  refine wpAnyH_ready (rs := [14]) (by kernel_rfl) (by simp) ?_
  refine AllReadyH.cons rfl (fun K hK => ?_) AllReadyH.nil
  go_simp
  have HL : Hid (catL [(Value.slice a1 (num (c : Int)).length k1, num (c : Int)), (.slice a2 (textOf kr).length k2, textOf kr), (.slice a4 (num (stp y : Int)).length k4, num (stp y : Int)), (.slice a5 (textOf y.val).length k5, textOf y.val)] = P) := by unfold Hid; rw [fourCat, HPc.out]
  have hp0 : 0 < P.length := by
    rw [HPc.out, num_in (c : Int) (by omega) (by omega), List.length_append]
    have := enc_pos (c : Int).toNat
    omega
  refine (concat_any [(Value.slice a1 (num (c : Int)).length k1, num (c : Int)), (.slice a2 (textOf kr).length k2, textOf kr), (.slice a4 (num (stp y : Int)).length k4, num (stp y : Int)), (.slice a5 (textOf y.val).length k5, textOf y.val)] bP 0 4 w6 (fourCells hcl) (fourOwn ho1 ho2 ho4 ho5) (Nat.le_refl _) (by omega) (by rw [HL.out]; exact hp0) (by rw [HL.out]; omega)).mono ?_
  rw [HL.out]
  rintro e w7 ⟨u7, rfl, ho7, hb7⟩
  have s6 := qb.size
  replace qb := qb.trans (hb7.mono qb.size)
  replace hH := hH.below hb7
  refine hK.out _ _ hH (fun h4 => ?_)
  clear hK K h4
  try simp only [Act.put, sA, sZ, sS]
  refine tkA 15 4 hH ?_; try simp only [Act.put, sA, sZ, sS]
  refine wpAnyH_done (by kernel_rfl) ?_ _
  refine NoPanic.normal ?_
  go_wp2
  go_ret
  exact ⟨_, rfl, ho7.mono s6, qb⟩
theorem implPacked_any (v : Value) (es : List Ent) (w : World) (hr : RdE w v es) (hf : ∀ e ∈ es, Fits e) :
    Calls Tryz.prog 111 #[v] w fun e w' => ∃ u, e = .returned u ∧ Own w' w.heap.size u (packL es) ∧ Below w.heap.size w w' := by
  have HF : Hid (∀ e ∈ es, Fits e) := hf
  clear hf
  cases hok : okL es with
  | false =>
    rw [packL_no hok]
    have HOK : Hid (okL es = false) := hok
    clear hok
    go_enter Tryz.func111, Tryz.ntmps111
    go_wp2_with fail
    refine (implOk_no v es _ hr HF.out HOK.out).mono ?_
    rintro e w1 ⟨rfl, hb1⟩
    go_wp2
    go_ret
    exact ⟨_, rfl, (own_none w1).mono hb1.size, hb1.alloc hb1.size _⟩
  | true =>
    rw [packL_ok hok]
    obtain ⟨a, cap, hv, hl, hm, _⟩ := id hr
    unfold maxLen at hm
    subst hv
    have hlen := okL_len hok
    have HOK : Hid (okL es = true) := hok
    clear hok
    have N0 : Hid (num (es.length : Int) = enc es.length) := num_in _ (by omega) (by omega)
    go_enter Tryz.func111, Tryz.ntmps111
    go_wp2_with fail
    refine (implOk_yes _ es _ hr HF.out HOK.out).mono ?_
    rintro e w0 ⟨rfl, hb0⟩
    have hr0 := hr.below hb0
    go_wp2_with fail
    refine (implNumber_any _ _).mono ?_
    rw [N0.out]
    rintro e w1 ⟨u1, rfl, ho1, hb1⟩
    have he9 := enc_len9 es.length (by omega)
    have b1 := hb0.trans (hb1.mono hb0.size)
    replace ho1 := ho1.mono hb0.size
    clear hb0 hb1 hr0
    go_wp2
    go_loopw [3, 4, 16] (fun v l i wr => ∃ (k : Nat) (last : ByteArray) (ys : List UInt8), k ≤ es.length ∧ i = .int .i64 k ∧ l = .string last ∧ last.size ≤ 40 ∧ Hid (ys ++ packF k last (es.drop k) = packA es) ∧ 0 < ys.length ∧ ys.length ≤ 9 + 300 * k ∧ Own wr w.heap.size v ys ∧ Below w.heap.size w wr) (fun _ _ i _ => es.length - (intOf i).toNat)
    case atStart => exact ⟨0, ⟨#[]⟩, _, Nat.zero_le _, rfl, rfl, Nat.zero_le _, by unfold Hid packA; rfl, enc_pos _, by omega, ho1, b1⟩
    case round =>
      obtain ⟨k, last, ys, hk, rfl, rfl, hls, HP, hy0, hyl, ho, hb⟩ := hrel
      clear ho1 b1
      by_cases hlt : k < es.length
      · obtain ⟨b, off, rfl, hc⟩ := (hr.below hb).at rfl k hlt
        obtain ⟨y, hy⟩ : ∃ y, y = nth es k := ⟨_, rfl⟩
        rw [← hy] at hc
        have HY : Hid (y = nth es k) := hy
        have hoky : okE y = true := by rw [hy]; exact nth_ok HOK.out hlt
        obtain ⟨hy1, hy2, hy3, hy4, hy5⟩ := okE_parts hoky
        have HOY : Hid (okE y = true) := hoky
        clear hy hoky
        obtain ⟨c0, c1, c2, c3⟩ := id hc
        have hx2 := entAt_new wr y 89
        have b2 := hb.alloc hb.size (.cells #[.string y.key, .string y.val, .int .i64 y.seq, .bool y.gone] 89)
        have ho2 := ho.below (below1 _ (.cells #[.string y.key, .string y.val, .int .i64 y.seq, .bool y.gone] 89))
        by_cases h8 : k % 8 = 0
        · have h8d : ((k : Int) % 8 == 0) = true := by simp; omega
          have HL : Hid (ahead k last = ⟨#[]⟩) := by unfold Hid ahead; rw [if_pos h8]
          go_wp2_with fail
          refine (packedBehind_any _ y _ (Nat.zero_le _) HOY.out).mono ?_
          obtain ⟨P, hP⟩ : ∃ P, P = packE ⟨#[]⟩ y := ⟨_, rfl⟩
          rw [← hP]
          have HPE : Hid (P = packE (ahead k last) y) := by rw [HL.out]; exact hP
          clear hP
          rintro e w3 ⟨u3, rfl, ho3, hb3⟩
          have hpl : P.length ≤ 300 := by rw [HPE.out]; exact packE_len HOY.out
          have b3 := b2.trans (hb3.mono b2.size)
          have ho4 := ho2.below hb3
          have hx3 := hx2.below hb3
          clear ho hb ho2 b2 hx2 hb3 c0 c1 c2 c3 hc
          go_wp2_with (at_builtin; (refine wpList_append_bytes rfl _ _ rfl w.heap.size _ _ _ ys P rfl rfl ho4 ho3 (by omega) b3.size ?_))
          intro v5 w5 ho5 hg5
          have hx5 := hx3.grew ho4 hy0 hg5
          have b5 := grew_below b3 ho4 hg5 b3.size
          obtain ⟨xs, hxs⟩ : ∃ xs, xs = ys ++ P := ⟨_, rfl⟩
          rw [← hxs] at ho5
          have hxl : xs.length ≤ 9 + 300 * (k + 1) := by rw [hxs]; simp only [List.length_append]; omega
          have hx0 : 0 < xs.length := by rw [hxs]; simp only [List.length_append]; omega
          have HX : Hid (xs ++ packF (k + 1) y.key (es.drop (k + 1)) = packA es) := by
            unfold Hid
            rw [← HP.out, packF_at hlt, ← HY.out, hxs, HPE.out]
            simp only [List.append_assoc]
          clear hxs HP HPE ho4 ho3 hg5 hx3 b3
          obtain ⟨d0, d1, d2, d3⟩ := id hx5
          simp only [Nat.zero_add] at d1 d2 d3
          go_wp2
          go_roundw
          case rel => exact ⟨k + 1, y.key, xs, by omega, by go_num, rfl, hy2, HX, hx0, hxl, ho5, b5⟩
          case measure => simp [intOf]; omega
        · have h8d : ((k : Int) % 8 == 0) = false := by simp; omega
          have HL : Hid (ahead k last = last) := by unfold Hid ahead; rw [if_neg h8]
          go_wp2_with fail
          refine (packedBehind_any _ y _ hls HOY.out).mono ?_
          obtain ⟨P, hP⟩ : ∃ P, P = packE last y := ⟨_, rfl⟩
          rw [← hP]
          have HPE : Hid (P = packE (ahead k last) y) := by rw [HL.out]; exact hP
          clear hP
          rintro e w3 ⟨u3, rfl, ho3, hb3⟩
          have hpl : P.length ≤ 300 := by rw [HPE.out]; exact packE_len HOY.out
          have b3 := b2.trans (hb3.mono b2.size)
          have ho4 := ho2.below hb3
          have hx3 := hx2.below hb3
          clear ho hb ho2 b2 hx2 hb3 c0 c1 c2 c3 hc
          go_wp2_with (at_builtin; (refine wpList_append_bytes rfl _ _ rfl w.heap.size _ _ _ ys P rfl rfl ho4 ho3 (by omega) b3.size ?_))
          intro v5 w5 ho5 hg5
          have hx5 := hx3.grew ho4 hy0 hg5
          have b5 := grew_below b3 ho4 hg5 b3.size
          obtain ⟨xs, hxs⟩ : ∃ xs, xs = ys ++ P := ⟨_, rfl⟩
          rw [← hxs] at ho5
          have hxl : xs.length ≤ 9 + 300 * (k + 1) := by rw [hxs]; simp only [List.length_append]; omega
          have hx0 : 0 < xs.length := by rw [hxs]; simp only [List.length_append]; omega
          have HX : Hid (xs ++ packF (k + 1) y.key (es.drop (k + 1)) = packA es) := by
            unfold Hid
            rw [← HP.out, packF_at hlt, ← HY.out, hxs, HPE.out]
            simp only [List.append_assoc]
          clear hxs HP HPE ho4 ho3 hg5 hx3 b3
          obtain ⟨d0, d1, d2, d3⟩ := id hx5
          simp only [Nat.zero_add] at d1 d2 d3
          go_wp2
          go_roundw
          case rel => exact ⟨k + 1, y.key, xs, by omega, by go_num, rfl, hy2, HX, hx0, hxl, ho5, b5⟩
          case measure => simp [intOf]; omega
      · have hke : k = es.length := by omega
        have HE : Hid (ys = packA es) := by have h := HP.out; rw [hke, packF_end, List.append_nil] at h; exact h
        clear HP
        go_wp2
        go_ret
        exact ⟨_, rfl, by rw [← HE.out]; exact ho, hb⟩
end Go.Proofs.YtbefmbjlogkmbaaGreat
