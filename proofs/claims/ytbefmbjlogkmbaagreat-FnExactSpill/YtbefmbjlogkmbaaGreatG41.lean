/- The contract of the model's Spill. The contract of the model's Sink. From a plain walk to one inside a round of a range over a function: no function of the program is walked here. -/
import Derived.Test.YtbefmbjlogkmbaaGreatTreSpl1
import Derived.Test.YtbefmbjlogkmbaaGreatTreSpec3
import Derived.RangeFuncNested
import Derived.RangeFuncBound
import Derived.RangeFuncCalls
import Derived.RangeFuncLeaves
import Derived.RangeFuncBox
import Derived.Shelf.Abstract
import Derived.Shelf.RegionOpen
import Derived.OwnWalkIn
import Derived.TacticsInMore
import Derived.LoopNIn
import Derived.LoopIn
import Derived.Deep.RegionHeld3
namespace Go.Proofs.YtbefmbjlogkmbaaGreat
set_option maxHeartbeats 16000000
set_option maxRecDepth 100000
open Go.RowKit
def spillOk (T : Tre) : Bool := decide (T.mem.length ≠ 0) && decide (T.young.length ≠ 6)
def spillR (T : Tre) : Tre := if treeOk T = true then (if spillOk T = true then spillT T else T) else zeroTr
def spillO (T : Tre) : Bool := treeOk T && spillOk T
def SSpillPost (w : World) (X : TrX) (e : Ending) (w' : World) : Prop :=
  ∃ Y : TrX, e = .returned (.tuple #[.agg #[Y.vm, Y.vy, Y.vo, .int .i64 Y.seq, Y.vs], .bool (spillO X.tre)]) ∧ Y.tre = spillR X.tre ∧ RowsTr w' w.heap.size Y ∧ Below w.heap.size w w'
theorem specSpill_any (X : TrX) (w : World) (hx : RdTr w X) (hf : FitTr X) (hs : treeOk X.tre = true → SizTr X) :
    Calls Tryz.prog 17 #[.agg #[X.vm, X.vy, X.vo, .int .i64 X.seq, X.vs]] w fun e w' => SSpillPost w X e w' := by
  have HTK : Hid (∀ W, RdTr W X → Calls Tryz.prog 25 #[.agg #[X.vm, X.vy, X.vo, .int .i64 X.seq, X.vs]] W fun e w' => e = .returned (.bool (treeOk X.tre)) ∧ Below W.heap.size W w') := fun W h => specTreeOk_any X W h hf
  have HCP : Hid (treeOk X.tre = true → ∀ W, RdTr W X → Calls Tryz.prog 26 #[.agg #[X.vm, X.vy, X.vo, .int .i64 X.seq, X.vs]] W fun e w' => CopyPost W X e w') := fun ht W h => l7Copy_any X W h (hs ht)
  have HFI : Hid (FitTr X) := hf
  clear hs hf
  have t0 := treAt_new w X 33
  obtain ⟨V0, hV0⟩ : ∃ V0, V0 = w.alloc (.cells #[X.vm, X.vy, X.vo, .int .i64 X.seq, X.vs] 33) := ⟨_, rfl⟩
  have b0 : Below w.heap.size w V0 := by rw [hV0]; exact below1 w _
  have s0 : V0.heap.size = w.heap.size + 1 := by rw [hV0]; simp
  rw [← hV0] at t0
  have z1 := boxTr_new V0 (.slice none 0 0) (.slice none 0 0) (.slice none 0 0) (.slice none 0 0) 0
  obtain ⟨W0, hW0⟩ : ∃ W0, W0 = V0.alloc (.cells #[.slice none 0 0, .slice none 0 0, .slice none 0 0, .int .i64 0, .slice none 0 0] 33) := ⟨_, rfl⟩
  have b1 : Below V0.heap.size V0 W0 := by rw [hW0]; exact below1 V0 _
  have s1 : W0.heap.size = w.heap.size + 2 := by rw [hW0]; simp; omega
  rw [← hW0, s0] at z1
  have t1 := t0.below b1
  have bw : Below w.heap.size w W0 := b0.trans (b1.mono (by omega))
  have HW0 : Hid ((w.alloc (.cells #[X.vm, X.vy, X.vo, .int .i64 X.seq, X.vs] 33)).alloc (.cells #[.slice none 0 0, .slice none 0 0, .slice none 0 0, .int .i64 0, .slice none 0 0] 33) = W0) := by unfold Hid; rw [hW0, hV0]
  obtain ⟨q0, q1, q2, q3, q4⟩ := id t1
  rw [hW0, hV0] at q0 q1 q2 q3 q4
  clear t0 b0 b1 s0 hV0 hW0
  go_enter Tryz.func17, Tryz.ntmps17
  go_wp2_with fail
  rw [HW0.out]
  clear q0 q1 q2 q3 q4
  refine (HTK.out _ (hx.below bw)).mono ?_
  rintro e w1 ⟨rfl, hb1⟩
  have t2 := t1.below hb1
  have z2 := z1.on hb1
  have bw1 := bw.trans (hb1.mono bw.size)
  have s2 : w.heap.size + 2 ≤ w1.heap.size := by rw [← s1]; exact hb1.size
  clear t1 z1 bw hb1 s1 HTK HW0
  cases htk : treeOk X.tre with
  | false =>
    obtain ⟨y0, y1, y2, y3, y4, g0, g1, g2, g3, g4⟩ := z2.facts
    have hzF := boxTr_put5 z2 (.slice none 0 0) (.slice none 0 0) (.slice none 0 0) (.slice none 0 0) 0
    obtain ⟨f0, f1, f2, f3, f4, -⟩ := hzF.facts
    have END : Hid (SSpillPost w X (.returned (.tuple #[.agg #[.slice none 0 0, .slice none 0 0, .slice none 0 0, .int .i64 0, .slice none 0 0], .bool false])) (put5 w1 (w.heap.size + 1) (.slice none 0 0) (.slice none 0 0) (.slice none 0 0) (.int .i64 0) (.slice none 0 0))) := by
      have h0 := ownTree_zero (put5 w1 (w.heap.size + 1) (.slice none 0 0) (.slice none 0 0) (.slice none 0 0) (.int .i64 0) (.slice none 0 0)) w.heap.size
      refine ⟨⟨.slice none 0 0, .slice none 0 0, .slice none 0 0, .slice none 0 0, [], [], [], 0, []⟩, by unfold spillO; rw [htk]; rfl, by unfold spillR; rw [if_neg (by rw [htk]; simp)]; rfl, ⟨h0.mem, h0.young, h0.youngs, h0.old, h0.olds, h0.snaps⟩, below_put5 bw1 (by omega)⟩
    unfold put5 at f0 f1 f2 f3 f4
    clear z2 t2 hzF bw1 htk
    go_wp2
    exact bodyPost_ret (v := .tuple #[.agg #[.slice none 0 0, .slice none 0 0, .slice none 0 0, .int .i64 0, .slice none 0 0], .bool false]) (by simp [results, Tryz.results17, go_sem, f0, f1, f2, f3, f4]) rfl END.out
  | true =>
    obtain ⟨q0, q1, q2, q3, q4⟩ := id t2
    go_wp2_with fail
    refine (HCP.out htk _ (hx.below bw1)).mono ?_
    rintro e w2 ⟨Y, rfl, heY, hoY, hb2⟩
    have t3 := t2.below hb2
    have z3 := z2.on hb2
    have bw2 := bw1.trans (hb2.mono bw1.size)
    have s3 := hb2.size
    have HRW : Hid (RowsTr w2 w1.heap.size Y) := ⟨hoY.mem, hoY.young, hoY.youngs, hoY.old, hoY.olds, hoY.snaps⟩
    clear q0 q1 q2 q3 q4 t2 z2 hb2 bw1 HCP
    obtain ⟨am, ay, ao, an, mn, yn, on, nn, cm, cy, co, cn, v0, v1, v2, v3⟩ := HRW.out.rd.slices
    obtain ⟨vm4, vy4, vo4, vs4, mem4, ys4, os4, seq4, snaps4⟩ := Y
    simp only at v0 v1 v2 v3
    subst v0
    subst v1
    subst v2
    subst v3
    clear hoY
    have HMY : Hid (mem4 = X.tre.mem) := congrArg Tre.mem heY
    have HQY : Hid (seq4 = X.tre.seq) := congrArg Tre.seq heY
    have HEY : Hid (_ = _) := heY
    clear heY
    have zb := boxTr_new w2 (.slice am mn cm) (.slice ay yn cy) (.slice ao on co) (.slice an nn cn) seq4
    have bb := below1 w2 (.cells #[.slice am mn cm, .slice ay yn cy, .slice ao on co, .int .i64 seq4, .slice an nn cn] 33)
    have z4 := z3.on bb
    have bw3 := bw2.trans (bb.mono bw2.size)
    have hr3 := HRW.out.below bb
    have UB : Hid (∀ k ∈ trB (⟨.slice am mn cm, .slice ay yn cy, .slice ao on co, .slice an nn cn, mem4, ys4, os4, seq4, snaps4⟩ : TrX), w1.heap.size ≤ k ∧ k < w2.heap.size) := fun k hk => HRW.out.bound hk
    have s4 : w2.heap.size < (w2.alloc (.cells #[.slice am mn cm, .slice ay yn cy, .slice ao on co, .int .i64 seq4, .slice an nn cn] 33)).heap.size := by simp
    have hTP := (treeOk_iff X.tre).1 htk
    clear HRW bb bw2
    go_wp2_with fail
    generalize w2.alloc (.cells #[.slice am mn cm, .slice ay yn cy, .slice ao on co, .int .i64 seq4, .slice an nn cn] 33) = W3 at zb z4 bw3 hr3 s4 ⊢
    have H1 : ∀ k ∈ [w2.heap.size], k = w2.heap.size := fun k hk => by simpa using hk
    have EY : ys4.map (·.T) = X.tre.young := congrArg Tre.young HEY.out
    have EO : os4.map (·.T) = X.tre.old := congrArg Tre.old HEY.out
    have ES : snaps4 = X.tre.snaps := congrArg Tre.snaps HEY.out
    have LY : ys4.length = X.tre.young.length := by rw [← EY, List.length_map]
    have hcall := l7Spill_any w2.heap.size (.slice am mn cm) (.slice ay yn cy) (.slice ao on co) (.slice an nn cn) mem4 ys4 seq4 W3 zb hr3.mem.rd (hr3.young.rd hr3.youngs) (own_nil hr3.young) (fun e he => okE_pk (((okL_iff _).1 hTP.mem).2.1 e (HMY.out ▸ he))) (by have := okL_len hTP.mem; rw [HMY.out]; omega) (by rw [LY]; exact hTP.young)
    have HCA : Hid (Calls _ _ _ _ _) := hcall
    clear hcall HFI
    refine HCA.out.mono ?_
    rintro e w5 ⟨ok, rfl, hok, hno, hyes⟩
    rw [LY, HMY.out] at hok
    have HOK : Hid (ok = spillOk X.tre) := hok
    clear hok HCA
    cases ok with
    | false =>
      have hb5 := hno rfl
      have zb5 := zb.on hb5
      have z5 := z4.on hb5
      have bw5 := bw3.trans (hb5.mono bw3.size)
      have hr5 := hr3.below hb5
      have HFIN : Hid (false = spillO X.tre ∧ (⟨mem4, ys4.map (·.T), os4.map (·.T), seq4, snaps4⟩ : Tre) = spillR X.tre) := by
        unfold Hid spillO spillR
        rw [htk, if_pos rfl, Bool.true_and, ← HOK.out, if_neg (by simp)]
        exact ⟨rfl, HEY.out⟩
      obtain ⟨y0, y1, y2, y3, y4, g0, g1, g2, g3, g4⟩ := zb5.facts
      obtain ⟨m0, m1, m2, m3, m4, n0, n1, n2, n3, n4⟩ := z5.facts
      have hzF := boxTr_put5 z5 (.slice am mn cm) (.slice ay yn cy) (.slice ao on co) (.slice an nn cn) seq4
      obtain ⟨f0, f1, f2, f3, f4, -⟩ := hzF.facts
      have END : Hid (SSpillPost w X (.returned (.tuple #[.agg #[.slice am mn cm, .slice ay yn cy, .slice ao on co, .int .i64 seq4, .slice an nn cn], .bool false])) (put5 w5 (w.heap.size + 1) (.slice am mn cm) (.slice ay yn cy) (.slice ao on co) (.int .i64 seq4) (.slice an nn cn))) := by
        have hc : w.heap.size + 1 < w1.heap.size := by omega
        refine ⟨⟨.slice am mn cm, .slice ay yn cy, .slice ao on co, .slice an nn cn, mem4, ys4, os4, seq4, snaps4⟩, by rw [← HFIN.out.1], HFIN.out.2, RowsTr.mono (lo := w1.heap.size) ⟨row_put5 hr5.mem hc, row_put5 hr5.young hc, hr5.youngs.put5 hc, row_put5 hr5.old hc, hr5.olds.put5 hc, row_put5 hr5.snaps hc⟩ (by omega), below_put5 bw5 (by omega)⟩
      unfold put5 at f0 f1 f2 f3 f4
      clear HFIN HEY hzF zb5 z5 bw5 hr5 hTP hr3 zb z4 bw3 hno hyes hb5 EY EO ES LY
      go_wp2
      exact bodyPost_ret (v := .tuple #[.agg #[.slice am mn cm, .slice ay yn cy, .slice ao on co, .int .i64 seq4, .slice an nn cn], .bool false]) (by simp [results, Tryz.results17, go_sem, f0, f1, f2, f3, f4]) rfl END.out
    | true =>
      obtain ⟨vm', vy', vb, vk, zb5, om5, oy5, oi5, ok5, hto⟩ := hyes rfl
      have hr5 := hr3.touch hto (fun k hk e => by have := UB.out k hk; have := H1 k e; omega)
      have bw5 : Below w.heap.size w w5 := hto.below bw3 (fun k hk => by have := H1 k hk; omega)
      have z5 : BoxTr w5 (w.heap.size + 1) (.slice none 0 0) (.slice none 0 0) (.slice none 0 0) 0 (.slice none 0 0) := (hto.block _ (by omega) (fun e => by have := H1 _ e; omega)).trans z4
      obtain ⟨au, cu, hvu⟩ := own_sliceT om5
      obtain ⟨av, cv, hvv⟩ := own_sliceT oy5
      have HFIN : Hid (true = spillO X.tre ∧ (⟨[], ((⟨builtT mem4, vb, vk⟩ : TV) :: ys4).map (·.T), os4.map (·.T), seq4, snaps4⟩ : Tre) = spillR X.tre) := by
        unfold Hid spillO spillR
        rw [htk, if_pos rfl, Bool.true_and, ← HOK.out, if_pos rfl, List.map_cons, EY, EO, ES, HMY.out, HQY.out]
        exact ⟨rfl, rfl⟩
      generalize ([] : List Ent).length = un at hvu
      generalize ((⟨builtT mem4, vb, vk⟩ : TV) :: ys4).length = vn at hvv
      subst hvu
      subst hvv
      obtain ⟨y0, y1, y2, y3, y4, g0, g1, g2, g3, g4⟩ := zb5.facts
      obtain ⟨m0, m1, m2, m3, m4, n0, n1, n2, n3, n4⟩ := z5.facts
      have hzF := boxTr_put5 z5 (.slice au un cu) (.slice av vn cv) (.slice ao on co) (.slice an nn cn) seq4
      obtain ⟨f0, f1, f2, f3, f4, -⟩ := hzF.facts
      have END : Hid (SSpillPost w X (.returned (.tuple #[.agg #[.slice au un cu, .slice av vn cv, .slice ao on co, .int .i64 seq4, .slice an nn cn], .bool true])) (put5 w5 (w.heap.size + 1) (.slice au un cu) (.slice av vn cv) (.slice ao on co) (.int .i64 seq4) (.slice an nn cn))) := by
        have hc : w.heap.size + 1 < w1.heap.size := by omega
        have hc3 : w.heap.size + 1 < W3.heap.size := by omega
        have h1 : RowsTr (put5 w5 (w.heap.size + 1) (.slice au un cu) (.slice av vn cv) (.slice ao on co) (.int .i64 seq4) (.slice an nn cn)) w1.heap.size ⟨.slice au un cu, .slice av vn cv, .slice ao on co, .slice an nn cn, [], ⟨builtT mem4, vb, vk⟩ :: ys4, os4, seq4, snaps4⟩ :=
          ⟨OwnE.mono (row_put5 om5 hc3) (by omega), OwnT.mono (row_put5 oy5 hc3) (by omega), (fun t ht => by
            rcases List.mem_cons.1 ht with rfl | ht
            · exact ⟨OwnI.mono (row_put5 oi5 hc3) (by omega), OwnS.mono (row_put5 ok5 hc3) (by omega)⟩
            · exact hr5.youngs.put5 hc t ht), row_put5 hr5.old hc, hr5.olds.put5 hc, row_put5 hr5.snaps hc⟩
        exact ⟨⟨.slice au un cu, .slice av vn cv, .slice ao on co, .slice an nn cn, [], ⟨builtT mem4, vb, vk⟩ :: ys4, os4, seq4, snaps4⟩, by rw [← HFIN.out.1], HFIN.out.2, h1.mono (by omega), below_put5 bw5 (by omega)⟩
      unfold put5 at f0 f1 f2 f3 f4
      clear HFIN HEY hzF zb5 z5 bw5 hr5 hTP hr3 zb z4 bw3 hno hyes hto om5 oy5 oi5 ok5 EY EO ES LY
      go_wp2
      exact bodyPost_ret (v := .tuple #[.agg #[.slice au un cu, .slice av vn cv, .slice ao on co, .int .i64 seq4, .slice an nn cn], .bool true]) (by simp [results, Tryz.results17, go_sem, f0, f1, f2, f3, f4]) rfl END.out
open Go.RowKit
open Go.RowKit
end Go.Proofs.YtbefmbjlogkmbaaGreat
