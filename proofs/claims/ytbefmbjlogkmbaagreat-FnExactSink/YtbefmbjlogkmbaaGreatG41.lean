/- The contract of the model's Sink. From a plain walk to one inside a round of a range over a function: no function of the program is walked here. The contract of the program's iterator over a tree's tables. -/
import Derived.Test.YtbefmbjlogkmbaaGreatTreSnk1
import Derived.Test.YtbefmbjlogkmbaaGreatTreSpec3
import Derived.RangeFuncNested
import Derived.RangeFuncBound
import Derived.RangeFuncCalls
import Derived.RangeFuncLeaves
import Derived.RangeFuncBox
import Derived.Shelf.Abstract
import Derived.Shelf.RegionOpen
import Derived.OwnWalkIn
import Derived.TacticsInMore
import Derived.LoopNIn
import Derived.LoopIn
import Derived.Deep.RegionHeld3
namespace Go.Proofs.YtbefmbjlogkmbaaGreat
set_option maxHeartbeats 16000000
set_option maxRecDepth 100000
open Go.RowKit
def sinkOk (T : Tre) : Bool := decide (T.young.length ≠ 0) && decide ((mergedL (tabL T)).length ≤ 300)
def sinkR (T : Tre) : Tre := if treeOk T = true then (if sinkOk T = true then sinkT T else T) else zeroTr
def sinkO (T : Tre) : Bool := treeOk T && sinkOk T
theorem tabL_tl {ys os : List TV} {T : Tre} (h1 : ys.map (·.T) = T.young) (h2 : os.map (·.T) = T.old) : tl ys ys.length ++ tl os os.length = tabL T := by
  rw [tl_all, tl_all]
  unfold tabL
  rw [← h1, ← h2, List.map_append, List.map_map, List.map_map]
  rfl
def SSinkPost (w : World) (X : TrX) (e : Ending) (w' : World) : Prop :=
  ∃ Y : TrX, e = .returned (.tuple #[.agg #[Y.vm, Y.vy, Y.vo, .int .i64 Y.seq, Y.vs], .bool (sinkO X.tre)]) ∧ Y.tre = sinkR X.tre ∧ RowsTr w' w.heap.size Y ∧ Below w.heap.size w w'
theorem specSink_any (X : TrX) (w : World) (hx : RdTr w X) (hf : FitTr X) (hs : treeOk X.tre = true → SizTr X) :
    Calls Tryz.prog 19 #[.agg #[X.vm, X.vy, X.vo, .int .i64 X.seq, X.vs]] w fun e w' => SSinkPost w X e w' := by
  have HTK : Hid (∀ W, RdTr W X → Calls Tryz.prog 25 #[.agg #[X.vm, X.vy, X.vo, .int .i64 X.seq, X.vs]] W fun e w' => e = .returned (.bool (treeOk X.tre)) ∧ Below W.heap.size W w') := fun W h => specTreeOk_any X W h hf
  have HCP : Hid (treeOk X.tre = true → ∀ W, RdTr W X → Calls Tryz.prog 26 #[.agg #[X.vm, X.vy, X.vo, .int .i64 X.seq, X.vs]] W fun e w' => CopyPost W X e w') := fun ht W h => l7Copy_any X W h (hs ht)
  have HFI : Hid (FitTr X) := hf
  clear hs hf
  have t0 := treAt_new w X 33
  obtain ⟨V0, hV0⟩ : ∃ V0, V0 = w.alloc (.cells #[X.vm, X.vy, X.vo, .int .i64 X.seq, X.vs] 33) := ⟨_, rfl⟩
  have b0 : Below w.heap.size w V0 := by rw [hV0]; exact below1 w _
  have s0 : V0.heap.size = w.heap.size + 1 := by rw [hV0]; simp
  rw [← hV0] at t0
  have z1 := boxTr_new V0 (.slice none 0 0) (.slice none 0 0) (.slice none 0 0) (.slice none 0 0) 0
  obtain ⟨W0, hW0⟩ : ∃ W0, W0 = V0.alloc (.cells #[.slice none 0 0, .slice none 0 0, .slice none 0 0, .int .i64 0, .slice none 0 0] 33) := ⟨_, rfl⟩
  have b1 : Below V0.heap.size V0 W0 := by rw [hW0]; exact below1 V0 _
  have s1 : W0.heap.size = w.heap.size + 2 := by rw [hW0]; simp; omega
  rw [← hW0, s0] at z1
  have t1 := t0.below b1
  have bw : Below w.heap.size w W0 := b0.trans (b1.mono (by omega))
  have HW0 : Hid ((w.alloc (.cells #[X.vm, X.vy, X.vo, .int .i64 X.seq, X.vs] 33)).alloc (.cells #[.slice none 0 0, .slice none 0 0, .slice none 0 0, .int .i64 0, .slice none 0 0] 33) = W0) := by unfold Hid; rw [hW0, hV0]
  obtain ⟨q0, q1, q2, q3, q4⟩ := id t1
  rw [hW0, hV0] at q0 q1 q2 q3 q4
  clear t0 b0 b1 s0 hV0 hW0
  go_enter Tryz.func19, Tryz.ntmps19
  go_wp2_with fail
  rw [HW0.out]
  clear q0 q1 q2 q3 q4
  refine (HTK.out _ (hx.below bw)).mono ?_
  rintro e w1 ⟨rfl, hb1⟩
  have t2 := t1.below hb1
  have z2 := z1.on hb1
  have bw1 := bw.trans (hb1.mono bw.size)
  have s2 : w.heap.size + 2 ≤ w1.heap.size := by rw [← s1]; exact hb1.size
  clear t1 z1 bw hb1 s1 HTK HW0
  cases htk : treeOk X.tre with
  | false =>
    obtain ⟨y0, y1, y2, y3, y4, g0, g1, g2, g3, g4⟩ := z2.facts
    have hzF := boxTr_put5 z2 (.slice none 0 0) (.slice none 0 0) (.slice none 0 0) (.slice none 0 0) 0
    obtain ⟨f0, f1, f2, f3, f4, -⟩ := hzF.facts
    have END : Hid (SSinkPost w X (.returned (.tuple #[.agg #[.slice none 0 0, .slice none 0 0, .slice none 0 0, .int .i64 0, .slice none 0 0], .bool false])) (put5 w1 (w.heap.size + 1) (.slice none 0 0) (.slice none 0 0) (.slice none 0 0) (.int .i64 0) (.slice none 0 0))) := by
      have h0 := ownTree_zero (put5 w1 (w.heap.size + 1) (.slice none 0 0) (.slice none 0 0) (.slice none 0 0) (.int .i64 0) (.slice none 0 0)) w.heap.size
      refine ⟨⟨.slice none 0 0, .slice none 0 0, .slice none 0 0, .slice none 0 0, [], [], [], 0, []⟩, by unfold sinkO; rw [htk]; rfl, by unfold sinkR; rw [if_neg (by rw [htk]; simp)]; rfl, ⟨h0.mem, h0.young, h0.youngs, h0.old, h0.olds, h0.snaps⟩, below_put5 bw1 (by omega)⟩
    unfold put5 at f0 f1 f2 f3 f4
    clear z2 t2 hzF bw1 htk
    go_wp2
    exact bodyPost_ret (v := .tuple #[.agg #[.slice none 0 0, .slice none 0 0, .slice none 0 0, .int .i64 0, .slice none 0 0], .bool false]) (by simp [results, Tryz.results19, go_sem, f0, f1, f2, f3, f4]) rfl END.out
  | true =>
    obtain ⟨q0, q1, q2, q3, q4⟩ := id t2
    go_wp2_with fail
    refine (HCP.out htk _ (hx.below bw1)).mono ?_
    rintro e w2 ⟨Y, rfl, heY, hoY, hb2⟩
    have t3 := t2.below hb2
    have z3 := z2.on hb2
    have bw2 := bw1.trans (hb2.mono bw1.size)
    have s3 := hb2.size
    have HRW : Hid (RowsTr w2 w1.heap.size Y) := ⟨hoY.mem, hoY.young, hoY.youngs, hoY.old, hoY.olds, hoY.snaps⟩
    clear q0 q1 q2 q3 q4 t2 z2 hb2 bw1 HCP
    obtain ⟨am, ay, ao, an, mn, yn, on, nn, cm, cy, co, cn, v0, v1, v2, v3⟩ := HRW.out.rd.slices
    obtain ⟨vm4, vy4, vo4, vs4, mem4, ys4, os4, seq4, snaps4⟩ := Y
    simp only at v0 v1 v2 v3
    subst v0
    subst v1
    subst v2
    subst v3
    clear hoY
    have HMY : Hid (mem4 = X.tre.mem) := congrArg Tre.mem heY
    have HQY : Hid (seq4 = X.tre.seq) := congrArg Tre.seq heY
    have HEY : Hid (_ = _) := heY
    clear heY
    have zb := boxTr_new w2 (.slice am mn cm) (.slice ay yn cy) (.slice ao on co) (.slice an nn cn) seq4
    have bb := below1 w2 (.cells #[.slice am mn cm, .slice ay yn cy, .slice ao on co, .int .i64 seq4, .slice an nn cn] 33)
    have z4 := z3.on bb
    have bw3 := bw2.trans (bb.mono bw2.size)
    have hr3 := HRW.out.below bb
    have UB : Hid (∀ k ∈ trB (⟨.slice am mn cm, .slice ay yn cy, .slice ao on co, .slice an nn cn, mem4, ys4, os4, seq4, snaps4⟩ : TrX), w1.heap.size ≤ k ∧ k < w2.heap.size) := fun k hk => HRW.out.bound hk
    have s4 : w2.heap.size < (w2.alloc (.cells #[.slice am mn cm, .slice ay yn cy, .slice ao on co, .int .i64 seq4, .slice an nn cn] 33)).heap.size := by simp
    have hTP := (treeOk_iff X.tre).1 htk
    clear HRW bb bw2
    go_wp2_with fail
    generalize w2.alloc (.cells #[.slice am mn cm, .slice ay yn cy, .slice ao on co, .int .i64 seq4, .slice an nn cn] 33) = W3 at zb z4 bw3 hr3 s4 ⊢
    have H1 : ∀ k ∈ [w2.heap.size], k = w2.heap.size := fun k hk => by simpa using hk
    have EY : ys4.map (·.T) = X.tre.young := congrArg Tre.young HEY.out
    have EO : os4.map (·.T) = X.tre.old := congrArg Tre.old HEY.out
    have ES : snaps4 = X.tre.snaps := congrArg Tre.snaps HEY.out
    have HTL : Hid (tl ys4 ys4.length ++ tl os4 os4.length = tabL X.tre) := tabL_tl EY EO
    have LY : ys4.length = X.tre.young.length := by rw [← EY, List.length_map]
    have LO : os4.length = X.tre.old.length := by rw [← EO, List.length_map]
    have HFT := fit_same HEY.out HFI.out
    have hcall := l7Sink_any w2.heap.size (.slice am mn cm) (.slice ay yn cy) (.slice ao on co) (.slice an nn cn) ys4 os4 seq4 snaps4 W3 zb (hr3.young.rd hr3.youngs) (hr3.old.rd hr3.olds) hr3.snaps.rd HFT.young HFT.old (by rw [LY]; exact hTP.young) (by rw [LO]; exact hTP.old) (by rw [ES]; exact hTP.few) (fun hn => by
      rw [HTL.out] at hn ⊢
      have h0 : sinkM (tabL X.tre) snaps4 seq4 = sinkL X.tre := by rw [ES, HQY.out]; rfl
      rw [h0]
      have hok := sink_ok hTP hn
      exact ⟨fun e he => okE_pk (((okL_iff _).1 hok).2.1 e he), by have := okL_len hok; omega⟩)
    rw [HTL.out] at hcall
    have HCA : Hid (Calls _ _ _ _ _) := hcall
    clear hcall HFT HTL HFI
    refine HCA.out.mono ?_
    rintro e w5 ⟨ok, rfl, hok, hno, hyes⟩
    rw [LY] at hok
    have HOK : Hid (ok = sinkOk X.tre) := hok
    clear hok HCA
    cases ok with
    | false =>
      have hb5 := hno rfl
      have zb5 := zb.on hb5
      have z5 := z4.on hb5
      have bw5 := bw3.trans (hb5.mono bw3.size)
      have hr5 := hr3.below hb5
      have HFIN : Hid (false = sinkO X.tre ∧ (⟨mem4, ys4.map (·.T), os4.map (·.T), seq4, snaps4⟩ : Tre) = sinkR X.tre) := by
        unfold Hid sinkO sinkR
        rw [htk, if_pos rfl, Bool.true_and, ← HOK.out, if_neg (by simp)]
        exact ⟨rfl, HEY.out⟩
      obtain ⟨y0, y1, y2, y3, y4, g0, g1, g2, g3, g4⟩ := zb5.facts
      obtain ⟨m0, m1, m2, m3, m4, n0, n1, n2, n3, n4⟩ := z5.facts
      have hzF := boxTr_put5 z5 (.slice am mn cm) (.slice ay yn cy) (.slice ao on co) (.slice an nn cn) seq4
      obtain ⟨f0, f1, f2, f3, f4, -⟩ := hzF.facts
      have END : Hid (SSinkPost w X (.returned (.tuple #[.agg #[.slice am mn cm, .slice ay yn cy, .slice ao on co, .int .i64 seq4, .slice an nn cn], .bool false])) (put5 w5 (w.heap.size + 1) (.slice am mn cm) (.slice ay yn cy) (.slice ao on co) (.int .i64 seq4) (.slice an nn cn))) := by
        have hc : w.heap.size + 1 < w1.heap.size := by omega
        refine ⟨⟨.slice am mn cm, .slice ay yn cy, .slice ao on co, .slice an nn cn, mem4, ys4, os4, seq4, snaps4⟩, by rw [← HFIN.out.1], HFIN.out.2, RowsTr.mono (lo := w1.heap.size) ⟨row_put5 hr5.mem hc, row_put5 hr5.young hc, hr5.youngs.put5 hc, row_put5 hr5.old hc, hr5.olds.put5 hc, row_put5 hr5.snaps hc⟩ (by omega), below_put5 bw5 (by omega)⟩
      unfold put5 at f0 f1 f2 f3 f4
      clear HFIN HEY hzF zb5 z5 bw5 hr5 hTP hr3 zb z4 bw3 hno hyes hb5 EY EO ES LY LO
      go_wp2
      exact bodyPost_ret (v := .tuple #[.agg #[.slice am mn cm, .slice ay yn cy, .slice ao on co, .int .i64 seq4, .slice an nn cn], .bool false]) (by simp [results, Tryz.results19, go_sem, f0, f1, f2, f3, f4]) rfl END.out
    | true =>
      obtain ⟨vy', vo', ts, zb5, oy5, oo5, in5, hts, hto⟩ := hyes rfl
      have hr5 := hr3.touch hto (fun k hk e => by have := UB.out k hk; have := H1 k e; omega)
      have bw5 : Below w.heap.size w w5 := hto.below bw3 (fun k hk => by have := H1 k hk; omega)
      have z5 : BoxTr w5 (w.heap.size + 1) (.slice none 0 0) (.slice none 0 0) (.slice none 0 0) 0 (.slice none 0 0) := (hto.block _ (by omega) (fun e => by have := H1 _ e; omega)).trans z4
      obtain ⟨av, cv, hvv⟩ := own_sliceT oy5
      obtain ⟨aw, cw, hvw⟩ := own_sliceT oo5
      have HFIN : Hid (true = sinkO X.tre ∧ (⟨mem4, ([] : List TV).map (·.T), ts.map (·.T), seq4, snaps4⟩ : Tre) = sinkR X.tre) := by
        have h0 : sinkM (tabL X.tre) snaps4 seq4 = sinkL X.tre := by rw [ES, HQY.out]; rfl
        unfold Hid sinkO sinkR
        rw [htk, if_pos rfl, Bool.true_and, ← HOK.out, if_pos rfl, hts, h0, HMY.out, HQY.out, ES]
        exact ⟨rfl, rfl⟩
      generalize ([] : List TV).length = vn at hvv
      generalize ts.length = vw at hvw
      subst hvv
      subst hvw
      obtain ⟨y0, y1, y2, y3, y4, g0, g1, g2, g3, g4⟩ := zb5.facts
      obtain ⟨m0, m1, m2, m3, m4, n0, n1, n2, n3, n4⟩ := z5.facts
      have hzF := boxTr_put5 z5 (.slice am mn cm) (.slice av vn cv) (.slice aw vw cw) (.slice an nn cn) seq4
      obtain ⟨f0, f1, f2, f3, f4, -⟩ := hzF.facts
      have END : Hid (SSinkPost w X (.returned (.tuple #[.agg #[.slice am mn cm, .slice av vn cv, .slice aw vw cw, .int .i64 seq4, .slice an nn cn], .bool true])) (put5 w5 (w.heap.size + 1) (.slice am mn cm) (.slice av vn cv) (.slice aw vw cw) (.int .i64 seq4) (.slice an nn cn))) := by
        have hc : w.heap.size + 1 < w1.heap.size := by omega
        have hc3 : w.heap.size + 1 < W3.heap.size := by omega
        have h1 : RowsTr (put5 w5 (w.heap.size + 1) (.slice am mn cm) (.slice av vn cv) (.slice aw vw cw) (.int .i64 seq4) (.slice an nn cn)) w1.heap.size ⟨.slice am mn cm, .slice av vn cv, .slice aw vw cw, .slice an nn cn, mem4, [], ts, seq4, snaps4⟩ :=
          ⟨row_put5 hr5.mem hc, OwnT.mono (row_put5 oy5 hc3) (by omega), (fun t ht => by cases ht), OwnT.mono (row_put5 oo5 hc3) (by omega), InT.mono (in5.put5 hc3) (by omega), row_put5 hr5.snaps hc⟩
        exact ⟨⟨.slice am mn cm, .slice av vn cv, .slice aw vw cw, .slice an nn cn, mem4, [], ts, seq4, snaps4⟩, by rw [← HFIN.out.1], HFIN.out.2, h1.mono (by omega), below_put5 bw5 (by omega)⟩
      unfold put5 at f0 f1 f2 f3 f4
      clear HFIN HEY hzF zb5 z5 bw5 hr5 hTP hr3 zb z4 bw3 hno hyes hto oy5 oo5 in5 hts EY EO ES LY LO
      go_wp2
      exact bodyPost_ret (v := .tuple #[.agg #[.slice am mn cm, .slice av vn cv, .slice aw vw cw, .int .i64 seq4, .slice an nn cn], .bool true]) (by simp [results, Tryz.results19, go_sem, f0, f1, f2, f3, f4]) rfl END.out
open Go.RowKit
open Go.RowKit Go.Shelf
attribute [local go_sem] Oper.semAt_some
abbrev RT (w : World) := { t : TV // RdI w t.vb t.T.bits ∧ RdS w t.vk t.T.blocks ∧ ∀ s ∈ t.T.blocks, s.size ≤ 1000000000 }
def KpT (n₀ : Nat) (W W' : World) : Prop := Below n₀ W W' ∧ ∀ (k : Nat) (cs : Array Value) (fz : Nat × Nat), W.heap[k]? = some (.cells cs 31 fz) → W'.heap[k]? = W.heap[k]?
theorem KpT.trans {n₀ : Nat} {A B C : World} (h : KpT n₀ A B) (k : KpT n₀ B C) : KpT n₀ A C :=
  ⟨h.1.trans k.1, fun i cs fz hi => (k.2 i cs fz ((h.2 i cs fz hi).trans hi)).trans (h.2 i cs fz hi)⟩
theorem KpT.putObj {n₀ : Nat} {w : World} (hB : n₀ ≤ w.heap.size) (W : World) (l : Nat) (o o' : Obj) (hl : w.heap.size ≤ l) (ho : W.heap[l]? = some o) (hc : o.isCells = false) (hw : o.isWalk = false) : KpT n₀ W (W.putObj l o') := by
  refine ⟨belowK_b hB W l o o' hl ho hc hw, fun k cs fz hk => World.putObj_heap_other (fun e => ?_)⟩
  subst e; rw [ho] at hk; cases hk; cases hc
theorem KpT.alloc {n₀ : Nat} {W : World} (h : n₀ ≤ W.heap.size) (o : Obj) : KpT n₀ W (W.alloc o) :=
  ⟨(Below.refl n₀ W).alloc h o, fun k _ _ hk => Below.heap_alloc W o k (Array.getElem?_eq_some_iff.1 hk).1⟩
theorem rt_nth {w : World} {zs : List (RT w)} {k : Nat} (h : k < zs.length) : nthT (zs.map (·.1)) k = (zs[k]).1 := by rw [nthT_eq (by simpa using h)]; simp
theorem lv_cells {w : World} {G : Nat} {vy vo : Value} (h : w.heap[G]? = some (.cells #[vy, vo] 31 (0, 0))) : w.cell? ⟨G, 0, none⟩ = some vy ∧ w.cell? ⟨G, 1, none⟩ = some vo := by
  constructor <;> simp [World.cell?, h]
theorem take_snoc2 {α : Type} {zs : List α} {k : Nat} (h : k < zs.length) (pre : List α) : pre ++ zs.take (k + 1) = (pre ++ zs.take k) ++ [zs[k]] := by
  rw [List.take_succ_eq_append_getElem h, List.append_assoc]
theorem take_snoc1 {α : Type} {zs : List α} {k : Nat} (h : k < zs.length) (_ : List α) : zs.take (k + 1) = zs.take k ++ [zs[k]] := List.take_succ_eq_append_getElem h
theorem tables1_in (w0 : World) (n : Nat) (hn : 1 ≤ n) (l Bn : Nat) (vy vo : Value) (ys os : List (RT w0)) (J Jx : List (RT w0) → World → Prop)
    (hY : ∀ pre x W, J pre W → pre.length < ys.length + os.length → YieldAt Fence.wide (n - 1) Tryz.prog l #[.agg #[.string x.1.T.first, .string x.1.T.last, x.1.vb, x.1.vk]] W fun e W' =>
      (e = .returned (.bool true) ∧ J (pre ++ [x]) W' ∧ KpT w0.heap.size W W') ∨ (e = .returned (.bool false) ∧ Jx (pre ++ [x]) W'))
    (W : World) (hJ : AbidesFrom W.heap.size J) (h1 : W.cell? ⟨Bn, 1, none⟩ = some vy) (h2 : W.cell? ⟨Bn, 2, none⟩ = some vo) (hry : RdTs w0 vy (ys.map (·.1))) (hro : RdTs w0 vo (os.map (·.1))) (hb : Below w0.heap.size w0 W) (h0 : J [] W) :
    CallsIn Fence.wide n Tryz.prog 116 #[.func (.yield l) #[] #[], .pointer (some ⟨Bn, 0, none⟩)] W fun e W' => (∃ v, e = .returned v) ∧
      ((∃ zs, zs = ys ++ os ∧ J zs W') ∨ (∃ pre, pre <+: ys ++ os ∧ Jx pre W')) := by
  obtain ⟨ay, cy, hvy, hly, hmy, -⟩ := id hry
  obtain ⟨ao, co, hvo, hlo, hmo, -⟩ := id hro
  rw [List.length_map] at hvy hly hvo hlo
  obtain ⟨yn, hyn⟩ : ∃ yn, yn = ys.length := ⟨_, rfl⟩
  obtain ⟨on, hon⟩ : ∃ on, on = os.length := ⟨_, rfl⟩
  have HYN : Hid (yn = ys.length) := hyn
  have HON : Hid (on = os.length) := hon
  rw [← hyn] at hvy hly hY
  rw [← hon] at hvo hlo hY
  subst hvy
  subst hvo
  unfold maxLen at hmy hmo
  have HY : Hid (∀ pre x W, J pre W → pre.length < yn + on → _) := hY
  have HJ : Hid (AbidesFrom W.heap.size J) := hJ
  have hJ1 : J [] (W.alloc (.cells #[.slice ay yn cy, .slice ao on co] 31)) := hJ [] W _ none h0 (World.grownBy_alloc W _ none) (fun r e => by cases e)
  have hb1 : Below w0.heap.size w0 (W.alloc (.cells #[.slice ay yn cy, .slice ao on co] 31)) := hb.alloc hb.size _
  have hG : (W.alloc (.cells #[.slice ay yn cy, .slice ao on co] 31)).heap[W.heap.size]? = some (.cells #[.slice ay yn cy, .slice ao on co] 31 (0, 0)) := World.alloc_heap_new W _
  clear hyn hon hY hJ h0
  refine callsIn_of_wp Tryz.func116 rfl trivial ?_ rfl
  simp only [Tryz.ntmps116, List.size_toArray, List.length_cons, List.length_nil, Nat.reduceAdd, Nat.reduceSub, Array.replicate_succ, Array.replicate_zero, List.push_toArray, List.append_toArray, List.nil_append, List.cons_append]
  gi_wp2
  gi_loopw [13] (fun i wr => ∃ j : Nat, j ≤ 2 ∧ i = .int .i64 j ∧ J (if j = 0 then [] else if j = 1 then ys else ys ++ os) wr ∧ wr.heap[W.heap.size]? = some (.cells #[.slice ay yn cy, .slice ao on co] 31 (0, 0)) ∧ Below w0.heap.size w0 wr ∧ W.heap.size ≤ wr.heap.size) (fun i _ => 2 - (intOf i).toNat)
  case atStart => exact ⟨0, Nat.zero_le _, rfl, hJ1, hG, hb1, by simp⟩
  case round =>
    obtain ⟨j, hj, rfl, hJs, hGs, hbs, hWs⟩ := hrel
    clear hJ1 hb1 hG hb h1 h2
    obtain ⟨g0, g1⟩ := lv_cells hGs
    obtain rfl | rfl | rfl : j = 0 ∨ j = 1 ∨ j = 2 := by omega
    · gi_wp2
      gi_loopw [19] (fun i wr => ∃ k : Nat, k ≤ yn ∧ i = .int .i64 k ∧ J (ys.take k) wr ∧ wr.heap[W.heap.size]? = some (.cells #[.slice ay yn cy, .slice ao on co] 31 (0, 0)) ∧ Below w0.heap.size w0 wr ∧ W.heap.size ≤ wr.heap.size) (fun i _ => yn - (intOf i).toNat)
      case atStart => exact ⟨0, Nat.zero_le _, rfl, by simpa using hJs, hGs, hbs, hWs⟩
      case round =>
        clear hJs hGs hbs g0 g1 hWs
        obtain ⟨k, hk, rfl, hJs, hGs, hbs, hWs⟩ := hrel
        by_cases hlt : k < yn
        · have hkl : k < ys.length := by rw [← HYN.out]; exact hlt
          obtain ⟨b, off, rfl, hc, -, -⟩ := (hry.below hbs).at k (by rw [List.length_map]; exact hkl)
          rw [rt_nth hkl] at hc
          obtain ⟨x, hx⟩ : ∃ x, x = ys[k] := ⟨_, rfl⟩
          rw [← hx] at hc
          have HTK : Hid (ys.take (k + 1) = (ys.take k) ++ [x]) := by rw [hx]; exact take_snoc1 hkl []
          have hlen : (ys.take k).length < yn + on := by
            have h1 := HYN.out
            have h2 := HON.out
            simp
            omega
          have HPF : Hid ((ys.take k) ++ [x] <+: ys ++ os) := by
            rw [← HTK.out]
            exact (List.take_prefix _ _).trans (List.prefix_append _ _)
          obtain ⟨c0, c1, c2, c3⟩ := id hc
          have hkc : k < cy := by omega
          have hYx := fun W hJ => HY.out (ys.take k) x W hJ hlen
          obtain ⟨ab, cb, hvb, -⟩ := id x.2.1
          obtain ⟨ak, ck, hvk, -⟩ := id x.2.2.1
          generalize x.1.T.bits.length = bn at hvb
          generalize x.1.T.blocks.length = kn at hvk
          rw [hvb] at c2 hYx
          rw [hvk] at c3 hYx
          have hJ2 := HJ.out _ wr _ none hJs (World.grownBy_alloc wr (.cells #[.string x.1.T.first, .string x.1.T.last, .slice ab bn cb, .slice ak kn ck] 72) none) (fun r e => by cases e)
          have hb2 := hbs.alloc hbs.size (.cells #[.string x.1.T.first, .string x.1.T.last, .slice ab bn cb, .slice ak kn ck] 72)
          have hG2 := (Below.heap_alloc wr (.cells #[.string x.1.T.first, .string x.1.T.last, .slice ab bn cb, .slice ak kn ck] 72) _ (Array.getElem?_eq_some_iff.1 hGs).1).trans hGs
          have hs2 : W.heap.size ≤ (wr.alloc (.cells #[.string x.1.T.first, .string x.1.T.last, .slice ab bn cb, .slice ak kn ck] 72)).heap.size := by simp; omega
          obtain ⟨fn, tmps, assign, body, hy, hR⟩ := hYx _ hJ2
          have HR : Hid (RoundIn _ _ _ _ _ _ _ _ _ _) := hR
          clear hR hx hkl hJs hGs hbs hWs hJ2 hc hlen hYx hvb hvk
          gi_wp2
          refine HR.out.mono ?_
          rintro e W3 (⟨rfl, hJ3, hk3⟩ | ⟨rfl, hJx3⟩)
          · have hG3 := (hk3.2 _ _ _ hG2).trans hG2
            have hb3 := hb2.trans hk3.1
            have hs3 : W.heap.size ≤ W3.heap.size := Nat.le_trans hs2 (by have := (Array.getElem?_eq_some_iff.1 hG3).1; exact Nat.le_of_lt_succ (Nat.lt_succ_of_le (Nat.le_trans (Nat.le_refl _) hk3.1.size)))
            rw [← HTK.out] at hJ3
            clear HR hy hk3 hG2 hb2 hs2 c0 c1 c2 c3
            gi_wp2
            go_roundw
            case rel => exact ⟨k + 1, by omega, by go_num, hJ3, hG3, hb3, hs3⟩
            case measure => simp [intOf]; omega
          · clear HR hy
            gi_wp2
            refine bodyPost_ret (results_none rfl _ _ _) rfl ?_
            exact ⟨⟨_, rfl⟩, .inr ⟨_, HPF.out, hJx3⟩⟩
        · have hke : k = yn := by omega
          rw [hke, HYN.out, List.take_length] at hJs
          clear hke
          gi_wp2
          go_roundw
          case rel => exact ⟨1, by omega, by go_num, hJs, hGs, hbs, hWs⟩
          case measure => simp [intOf]
    · gi_wp2
      gi_loopw [19] (fun i wr => ∃ k : Nat, k ≤ on ∧ i = .int .i64 k ∧ J (ys ++ os.take k) wr ∧ wr.heap[W.heap.size]? = some (.cells #[.slice ay yn cy, .slice ao on co] 31 (0, 0)) ∧ Below w0.heap.size w0 wr ∧ W.heap.size ≤ wr.heap.size) (fun i _ => on - (intOf i).toNat)
      case atStart => exact ⟨0, Nat.zero_le _, rfl, by simpa using hJs, hGs, hbs, hWs⟩
      case round =>
        clear hJs hGs hbs g0 g1 hWs
        obtain ⟨k, hk, rfl, hJs, hGs, hbs, hWs⟩ := hrel
        by_cases hlt : k < on
        · have hkl : k < os.length := by rw [← HON.out]; exact hlt
          obtain ⟨b, off, rfl, hc, -, -⟩ := (hro.below hbs).at k (by rw [List.length_map]; exact hkl)
          rw [rt_nth hkl] at hc
          obtain ⟨x, hx⟩ : ∃ x, x = os[k] := ⟨_, rfl⟩
          rw [← hx] at hc
          have HTK : Hid (ys ++ os.take (k + 1) = (ys ++ os.take k) ++ [x]) := by rw [hx]; exact take_snoc2 hkl ys
          have hlen : (ys ++ os.take k).length < yn + on := by
            have h1 := HYN.out
            have h2 := HON.out
            simp
            omega
          have HPF : Hid ((ys ++ os.take k) ++ [x] <+: ys ++ os) := by
            rw [← HTK.out]
            exact List.prefix_append_right_inj ys |>.2 (List.take_prefix _ _)
          obtain ⟨c0, c1, c2, c3⟩ := id hc
          have hkc : k < co := by omega
          have hYx := fun W hJ => HY.out (ys ++ os.take k) x W hJ hlen
          obtain ⟨ab, cb, hvb, -⟩ := id x.2.1
          obtain ⟨ak, ck, hvk, -⟩ := id x.2.2.1
          generalize x.1.T.bits.length = bn at hvb
          generalize x.1.T.blocks.length = kn at hvk
          rw [hvb] at c2 hYx
          rw [hvk] at c3 hYx
          have hJ2 := HJ.out _ wr _ none hJs (World.grownBy_alloc wr (.cells #[.string x.1.T.first, .string x.1.T.last, .slice ab bn cb, .slice ak kn ck] 72) none) (fun r e => by cases e)
          have hb2 := hbs.alloc hbs.size (.cells #[.string x.1.T.first, .string x.1.T.last, .slice ab bn cb, .slice ak kn ck] 72)
          have hG2 := (Below.heap_alloc wr (.cells #[.string x.1.T.first, .string x.1.T.last, .slice ab bn cb, .slice ak kn ck] 72) _ (Array.getElem?_eq_some_iff.1 hGs).1).trans hGs
          have hs2 : W.heap.size ≤ (wr.alloc (.cells #[.string x.1.T.first, .string x.1.T.last, .slice ab bn cb, .slice ak kn ck] 72)).heap.size := by simp; omega
          obtain ⟨fn, tmps, assign, body, hy, hR⟩ := hYx _ hJ2
          have HR : Hid (RoundIn _ _ _ _ _ _ _ _ _ _) := hR
          clear hR hx hkl hJs hGs hbs hWs hJ2 hc hlen hYx hvb hvk
          gi_wp2
          refine HR.out.mono ?_
          rintro e W3 (⟨rfl, hJ3, hk3⟩ | ⟨rfl, hJx3⟩)
          · have hG3 := (hk3.2 _ _ _ hG2).trans hG2
            have hb3 := hb2.trans hk3.1
            have hs3 : W.heap.size ≤ W3.heap.size := Nat.le_trans hs2 (by have := (Array.getElem?_eq_some_iff.1 hG3).1; exact Nat.le_of_lt_succ (Nat.lt_succ_of_le (Nat.le_trans (Nat.le_refl _) hk3.1.size)))
            rw [← HTK.out] at hJ3
            clear HR hy hk3 hG2 hb2 hs2 c0 c1 c2 c3
            gi_wp2
            go_roundw
            case rel => exact ⟨k + 1, by omega, by go_num, hJ3, hG3, hb3, hs3⟩
            case measure => simp [intOf]; omega
          · clear HR hy
            gi_wp2
            refine bodyPost_ret (results_none rfl _ _ _) rfl ?_
            exact ⟨⟨_, rfl⟩, .inr ⟨_, HPF.out, hJx3⟩⟩
        · have hke : k = on := by omega
          rw [hke, HON.out, List.take_length] at hJs
          clear hke
          gi_wp2
          go_roundw
          case rel => exact ⟨2, by omega, by go_num, hJs, hGs, hbs, hWs⟩
          case measure => simp [intOf]
    · gi_wp2
      go_end0
      exact ⟨⟨_, rfl⟩, .inl ⟨_, rfl, hJs⟩⟩
theorem tables_any (X : TrX) (w : World) :
    Calls Tryz.prog 83 #[.agg #[X.vm, X.vy, X.vo, .int .i64 X.seq, X.vs]] w fun e w' => e = .returned (.func (.func 116) #[] #[.pointer (some ⟨w.heap.size, 0, none⟩)]) ∧ w' = w.alloc (.cells #[X.vm, X.vy, X.vo, .int .i64 X.seq, X.vs] 33) := by
  go_enter Tryz.func83, Tryz.ntmps83
  go_wp2
  go_ret
  exact ⟨rfl, rfl⟩
theorem tables_stops (w0 : World) (n : Nat) (hn : 1 ≤ n) (Bn : Nat) (vy vo : Value) (ys os : List (RT w0)) (w : World) (hBn : Bn < w.heap.size) (h0 : w0.heap.size ≤ w.heap.size) (c1 : w.cell? ⟨Bn, 1, none⟩ = some vy) (c2 : w.cell? ⟨Bn, 2, none⟩ = some vo) (hry : RdTs w0 vy (ys.map (·.1))) (hro : RdTs w0 vo (os.map (·.1))) (hb : Below w0.heap.size w0 w) :
    SeqStopsK Fence.wide n Tryz.prog 116 #[.pointer (some ⟨Bn, 0, none⟩)] (fun x : RT w0 => #[.agg #[.string x.1.T.first, .string x.1.T.last, x.1.vb, x.1.vk]]) (KpT w0.heap.size) (fun zs => zs = ys ++ os) (fun pre => pre <+: ys ++ os) (ys.length + os.length) w := fun l J Jx W hW hJ _ hY h1 =>
  tables1_in w0 n hn l Bn vy vo ys os J Jx hY W hJ ((hW.cell (p := ⟨Bn, 1, none⟩) hBn).trans c1) ((hW.cell (p := ⟨Bn, 2, none⟩) hBn).trans c2) hry hro (hb.trans (hW.mono h0)) h1
end Go.Proofs.YtbefmbjlogkmbaaGreat
