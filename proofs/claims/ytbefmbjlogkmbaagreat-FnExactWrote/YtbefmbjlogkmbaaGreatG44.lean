/- The contract of the model's Wrote. The contract of the model's Put. The contract of the program's Put. The contract of the program's withBatch: a batch into a copy of a tree. -/
import Derived.Test.YtbefmbjlogkmbaaGreatTreWro2
import Derived.Test.YtbefmbjlogkmbaaGreatG39
import Derived.Test.YtbefmbjlogkmbaaGreatTreSpec3
import Derived.Test.YtbefmbjlogkmbaaGreatEntSpecPut
import Derived.Test.YtbefmbjlogkmbaaGreatG27
import Derived.Test.YtbefmbjlogkmbaaGreatG40
namespace Go.Proofs.YtbefmbjlogkmbaaGreat
open Go.RowKit
def SWrotePost (w : World) (X : TrX) (xs : List Wri) (e : Ending) (w' : World) : Prop :=
  ∃ Y : TrX, e = .returned (.tuple #[.agg #[Y.vm, Y.vy, Y.vo, .int .i64 Y.seq, Y.vs], .bool (wroteO X.tre xs)]) ∧ Y.tre = wroteR X.tre xs ∧ RowsTr w' w.heap.size Y ∧ Below w.heap.size w w'
set_option maxHeartbeats 8000000 in
set_option maxRecDepth 100000 in
theorem specWrote_any (X : TrX) (v : Value) (xs : List Wri) (w : World) (hx : RdTr w X) (hf : FitTr X) (hs : treeOk X.tre = true → SizTr X) (hw : RdW w v xs) (hfw : ∀ x ∈ xs, FitsW x) :
    Calls Tryz.prog 8 #[.agg #[X.vm, X.vy, X.vo, .int .i64 X.seq, X.vs], v] w fun e w' => SWrotePost w X xs e w' := by
  have HTK : Hid (∀ W, RdTr W X → Calls Tryz.prog 25 #[.agg #[X.vm, X.vy, X.vo, .int .i64 X.seq, X.vs]] W fun e w' => e = .returned (.bool (treeOk X.tre)) ∧ Below W.heap.size W w') := fun W h => specTreeOk_any X W h hf
  have HCP : Hid (treeOk X.tre = true → ∀ W, RdTr W X → Calls Tryz.prog 26 #[.agg #[X.vm, X.vy, X.vo, .int .i64 X.seq, X.vs]] W fun e w' => CopyPost W X e w') := fun ht W h => l7Copy_any X W h (hs ht)
  clear hs hf
  have t0 := treAt_new w X 33
  obtain ⟨V0, hV0⟩ : ∃ V0, V0 = w.alloc (.cells #[X.vm, X.vy, X.vo, .int .i64 X.seq, X.vs] 33) := ⟨_, rfl⟩
  have b0 : Below w.heap.size w V0 := by rw [hV0]; exact below1 w _
  have s0 : V0.heap.size = w.heap.size + 1 := by rw [hV0]; simp
  rw [← hV0] at t0
  have z1 := boxTr_new V0 (.slice none 0 0) (.slice none 0 0) (.slice none 0 0) (.slice none 0 0) 0
  obtain ⟨W0, hW0⟩ : ∃ W0, W0 = V0.alloc (.cells #[.slice none 0 0, .slice none 0 0, .slice none 0 0, .int .i64 0, .slice none 0 0] 33) := ⟨_, rfl⟩
  have b1 : Below V0.heap.size V0 W0 := by rw [hW0]; exact below1 V0 _
  have s1 : W0.heap.size = w.heap.size + 2 := by rw [hW0]; simp; omega
  rw [← hW0, s0] at z1
  have t1 := t0.below b1
  have bw : Below w.heap.size w W0 := b0.trans (b1.mono (by omega))
  have HW0 : Hid ((w.alloc (.cells #[X.vm, X.vy, X.vo, .int .i64 X.seq, X.vs] 33)).alloc (.cells #[.slice none 0 0, .slice none 0 0, .slice none 0 0, .int .i64 0, .slice none 0 0] 33) = W0) := by unfold Hid; rw [hW0, hV0]
  obtain ⟨q0, q1, q2, q3, q4⟩ := id t1
  rw [hW0, hV0] at q0 q1 q2 q3 q4
  clear t0 b0 b1 s0 hV0 hW0
  go_enter Tryz.func8, Tryz.ntmps8
  go_wp2_with fail
  rw [HW0.out]
  clear q0 q1 q2 q3 q4
  refine (HTK.out _ (hx.below bw)).mono ?_
  rintro e w1 ⟨rfl, hb1⟩
  have t2 := t1.below hb1
  have z2 := z1.on hb1
  have bw1 := bw.trans (hb1.mono bw.size)
  have s2 : w.heap.size + 2 ≤ w1.heap.size := by rw [← s1]; exact hb1.size
  clear t1 z1 bw hb1 s1 HTK HW0
  cases htk : treeOk X.tre with
  | false =>
    obtain ⟨y0, y1, y2, y3, y4, g0, g1, g2, g3, g4⟩ := z2.facts
    have hzF := boxTr_put5 z2 (.slice none 0 0) (.slice none 0 0) (.slice none 0 0) (.slice none 0 0) 0
    obtain ⟨f0, f1, f2, f3, f4, -⟩ := hzF.facts
    have END : Hid (SWrotePost w X xs (.returned (.tuple #[.agg #[.slice none 0 0, .slice none 0 0, .slice none 0 0, .int .i64 0, .slice none 0 0], .bool false])) (put5 w1 (w.heap.size + 1) (.slice none 0 0) (.slice none 0 0) (.slice none 0 0) (.int .i64 0) (.slice none 0 0))) := by
      have h0 := ownTree_zero (put5 w1 (w.heap.size + 1) (.slice none 0 0) (.slice none 0 0) (.slice none 0 0) (.int .i64 0) (.slice none 0 0)) w.heap.size
      refine ⟨⟨.slice none 0 0, .slice none 0 0, .slice none 0 0, .slice none 0 0, [], [], [], 0, []⟩, by unfold wroteO; rw [htk]; rfl, by unfold wroteR; rw [if_neg (by rw [htk]; simp)]; rfl, ⟨h0.mem, h0.young, h0.youngs, h0.old, h0.olds, h0.snaps⟩, below_put5 bw1 (by omega)⟩
    unfold put5 at f0 f1 f2 f3 f4
    clear z2 t2 hzF bw1 htk
    go_wp2
    exact bodyPost_ret (v := .tuple #[.agg #[.slice none 0 0, .slice none 0 0, .slice none 0 0, .int .i64 0, .slice none 0 0], .bool false]) (by simp [results, Tryz.results8, go_sem, f0, f1, f2, f3, f4]) rfl END.out
  | true =>
    obtain ⟨q0, q1, q2, q3, q4⟩ := id t2
    go_wp2_with fail
    refine (HCP.out htk _ (hx.below bw1)).mono ?_
    rintro e w2 ⟨Y, rfl, heY, hoY, hb2⟩
    have t3 := t2.below hb2
    have z3 := z2.on hb2
    have bw2 := bw1.trans (hb2.mono bw1.size)
    have s3 := hb2.size
    have HRW : Hid (RowsTr w2 w1.heap.size Y) := ⟨hoY.mem, hoY.young, hoY.youngs, hoY.old, hoY.olds, hoY.snaps⟩
    clear q0 q1 q2 q3 q4 t2 z2 hb2 bw1 HCP
    obtain ⟨am, ay, ao, an, mn, yn, on, nn, cm, cy, co, cn, v0, v1, v2, v3⟩ := HRW.out.rd.slices
    obtain ⟨vm4, vy4, vo4, vs4, mem4, ys4, os4, seq4, snaps4⟩ := Y
    simp only at v0 v1 v2 v3
    subst v0
    subst v1
    subst v2
    subst v3
    clear hoY
    have HMY : Hid (mem4 = X.tre.mem) := congrArg Tre.mem heY
    have HQY : Hid (seq4 = X.tre.seq) := congrArg Tre.seq heY
    have HEY : Hid (_ = _) := heY
    clear heY
    have zb := boxTr_new w2 (.slice am mn cm) (.slice ay yn cy) (.slice ao on co) (.slice an nn cn) seq4
    have bb := below1 w2 (.cells #[.slice am mn cm, .slice ay yn cy, .slice ao on co, .int .i64 seq4, .slice an nn cn] 33)
    have z4 := z3.on bb
    have bw3 := bw2.trans (bb.mono bw2.size)
    have hr3 := HRW.out.below bb
    have UB : Hid (∀ k ∈ trB (⟨.slice am mn cm, .slice ay yn cy, .slice ao on co, .slice an nn cn, mem4, ys4, os4, seq4, snaps4⟩ : TrX), w1.heap.size ≤ k ∧ k < w2.heap.size) := fun k hk => HRW.out.bound hk
    have s4 : w2.heap.size < (w2.alloc (.cells #[.slice am mn cm, .slice ay yn cy, .slice ao on co, .int .i64 seq4, .slice an nn cn] 33)).heap.size := by simp
    have hTP := (treeOk_iff X.tre).1 htk
    clear HRW bb bw2
    go_wp2_with fail
    generalize w2.alloc (.cells #[.slice am mn cm, .slice ay yn cy, .slice ao on co, .int .i64 seq4, .slice an nn cn] 33) = W3 at zb z4 bw3 hr3 s4 ⊢
    have H1 : ∀ k ∈ [w2.heap.size], k = w2.heap.size := fun k hk => by simpa using hk
    have HRT : Hid (∀ w', Touch [w2.heap.size] W3 w' → RdW w' v xs) := fun w' ht => hw.below (ht.below bw3 (fun k hk => by have := H1 k hk; omega))
    refine (l7Wrote_any X.tre (.slice am mn cm) (.slice ay yn cy) (.slice ao on co) (.slice an nn cn) w2.heap.size w1.heap.size v xs _ (by rw [← HQY.out]; exact zb) (by rw [← HMY.out]; exact hr3.mem) (by omega) hTP (hw.below bw3) HRT.out hfw).mono ?_
    rintro e w5 ⟨rfl, ⟨vm', zb5, hm5⟩, hto⟩
    have hr5 := hr3.touch hto (fun k hk e => by have := UB.out k hk; have := H1 k e; omega)
    have bw5 : Below w.heap.size w w5 := hto.below bw3 (fun k hk => by have := H1 k hk; omega)
    have z5 : BoxTr w5 (w.heap.size + 1) (.slice none 0 0) (.slice none 0 0) (.slice none 0 0) 0 (.slice none 0 0) := (hto.block _ (by omega) (fun e => by have := H1 _ e; omega)).trans z4
    obtain ⟨M, hM⟩ : ∃ M, M = if roomFor X.tre xs = true then (putAll X.tre xs).mem else X.tre.mem := ⟨_, rfl⟩
    obtain ⟨Q0, hQ0⟩ : ∃ Q0, Q0 = if roomFor X.tre xs = true then (putAll X.tre xs).seq else X.tre.seq := ⟨_, rfl⟩
    obtain ⟨ok, hok⟩ : ∃ ok, ok = roomFor X.tre xs := ⟨_, rfl⟩
    rw [← hM] at hm5
    rw [← hQ0] at zb5
    rw [← hok]
    have HFIN : Hid (ok = wroteO X.tre xs ∧ (⟨M, ys4.map (·.T), os4.map (·.T), Q0, snaps4⟩ : Tre) = wroteR X.tre xs) := by
      unfold Hid wroteO wroteR
      rw [htk, if_pos rfl, Bool.true_and]
      refine ⟨hok, ?_⟩
      have e1 : ys4.map (·.T) = X.tre.young := congrArg Tre.young HEY.out
      have e2 : os4.map (·.T) = X.tre.old := congrArg Tre.old HEY.out
      have e3 : snaps4 = X.tre.snaps := congrArg Tre.snaps HEY.out
      have e4 := putAll_rest X.tre xs
      rw [e1, e2, e3, hM, hQ0]
      by_cases h : roomFor X.tre xs = true
      · rw [if_pos h, if_pos h, if_pos h, ← e4.1, ← e4.2.1, ← e4.2.2]
      · rw [if_neg h, if_neg h, if_neg h]
    obtain ⟨av, cv, hvv, -⟩ := id hm5.rd
    generalize M.length = vn at hvv
    subst hvv
    obtain ⟨y0, y1, y2, y3, y4, g0, g1, g2, g3, g4⟩ := zb5.facts
    obtain ⟨m0, m1, m2, m3, m4, n0, n1, n2, n3, n4⟩ := z5.facts
    have hzF := boxTr_put5 z5 (.slice av vn cv) (.slice ay yn cy) (.slice ao on co) (.slice an nn cn) Q0
    obtain ⟨f0, f1, f2, f3, f4, -⟩ := hzF.facts
    have END : Hid (SWrotePost w X xs (.returned (.tuple #[.agg #[.slice av vn cv, .slice ay yn cy, .slice ao on co, .int .i64 Q0, .slice an nn cn], .bool ok])) (put5 w5 (w.heap.size + 1) (.slice av vn cv) (.slice ay yn cy) (.slice ao on co) (.int .i64 Q0) (.slice an nn cn))) := by
      have hc : w.heap.size + 1 < w1.heap.size := by omega
      refine ⟨⟨.slice av vn cv, .slice ay yn cy, .slice ao on co, .slice an nn cn, M, ys4, os4, Q0, snaps4⟩, by rw [HFIN.out.1], HFIN.out.2, RowsTr.mono (lo := w1.heap.size) ⟨row_put5 hm5 hc, row_put5 hr5.young hc, hr5.youngs.put5 hc, row_put5 hr5.old hc, hr5.olds.put5 hc, row_put5 hr5.snaps hc⟩ (by omega), below_put5 bw5 (by omega)⟩
    unfold put5 at f0 f1 f2 f3 f4
    clear hM hQ0 hok HFIN HEY hzF zb5 z5 bw5 hr5 hm5 hto HRT hTP hr3 zb z4 bw3
    go_wp2
    exact bodyPost_ret (v := .tuple #[.agg #[.slice av vn cv, .slice ay yn cy, .slice ao on co, .int .i64 Q0, .slice an nn cn], .bool ok]) (by simp [results, Tryz.results8, go_sem, f0, f1, f2, f3, f4]) rfl END.out
end Go.Proofs.YtbefmbjlogkmbaaGreat
namespace Go.Proofs.YtbefmbjlogkmbaaGreat
open Go.RowKit
def PutPost (w : World) (es : List Ent) (x : Ent) (e : Ending) (w' : World) : Prop :=
  ∃ u, e = .returned (.tuple #[u, .bool (putOk es x)]) ∧ OwnE w' w.heap.size u (putL es x) ∧ Below w.heap.size w w'
theorem putPost_no {w w' : World} {es : List Ent} {x : Ent} {u : Value} (h : putOk es x = false) (ho : OwnE w' w.heap.size u []) (hb : Below w.heap.size w w') : PutPost w es x (.returned (.tuple #[u, .bool false])) w' :=
  ⟨u, by rw [h], by unfold putL; rw [if_neg (by simp [h])]; exact ho, hb⟩
theorem putPost_yes {w w' : World} {es : List Ent} {x : Ent} {u : Value} (h : putOk es x = true) (ho : OwnE w' w.heap.size u (insE es x)) (hb : Below w.heap.size w w') : PutPost w es x (.returned (.tuple #[u, .bool true])) w' :=
  ⟨u, by rw [h], by unfold putL; rw [if_pos h]; exact ho, hb⟩
theorem ownE_empty {W : World} {B : Nat} (h : B ≤ W.heap.size) : OwnE (W.alloc (.cells #[] 89)) B (.slice (some ⟨W.heap.size, 0, none⟩) 0 0) [] := (ownE_none W).mono h
end Go.Proofs.YtbefmbjlogkmbaaGreat
namespace Go.Proofs.YtbefmbjlogkmbaaGreat
open Go.RowKit
theorem pieces3 {W0 W : World} {g : Nat} {u1 u3 : Value} {A C : List Ent} {x : Ent} (hb : Below W0.heap.size W0 W) (h1 : RdE W0 u1 A) (h3 : RdE W0 u3 C) (hx : EntAt W g 0 x) :
    Pieces (W.alloc (.cells #[u1, .slice (some ⟨g, 0, none⟩) 1 1, u3] 30)) (.slice (some ⟨W.heap.size, 0, none⟩) 3 3) [(u1, A), (.slice (some ⟨g, 0, none⟩) 1 1, [x]), (u3, C)] := by
  have hb2 := below1 W (.cells #[u1, .slice (some ⟨g, 0, none⟩) 1 1, u3] 30)
  refine .inr ⟨W.heap.size, 0, 3, rfl, Nat.le_refl _, by decide, fun i hi => ?_⟩
  match i, hi with
  | 0, _ => exact ⟨by simp [World.cell?_alloc_at], (h1.below hb).below hb2⟩
  | 1, _ => exact ⟨by simp [World.cell?_alloc_at], rdE_one (hx.below hb2)⟩
  | 2, _ => exact ⟨by simp [World.cell?_alloc_at], (h3.below hb).below hb2⟩
theorem pieces3d {W0 W : World} {g n : Nat} {u1 u3 : Value} {A C : List Ent} {x : Ent} (hn : n = W.heap.size) (hb : Below W0.heap.size W0 W) (h1 : RdE W0 u1 A) (h3 : RdE W0 u3 C) (hx : EntAt W g 0 x) :
    Pieces (W.alloc (.cells #[u1, .slice (some ⟨g, 0, none⟩) 1 1, u3] 30)).drew (.slice (some ⟨n, 0, none⟩) 3 3) [(u1, A), (.slice (some ⟨g, 0, none⟩) 1 1, [x]), (u3, C)] := by
  subst hn
  exact (pieces3 hb h1 h3 hx).below ⟨rfl, rfl, rfl, Nat.le_refl _, fun _ _ => rfl⟩
theorem cut_form (v : Value) (es : List Ent) (i j m : Nat) (x y : Int) (w : World) (hx : x = (i : Int)) (hy : y = (j : Int)) (hr : RdE w v es) (hij : i ≤ j) (hj : j ≤ es.length) (hm : m = j - i) :
    Calls Tryz.prog 93 #[v, .int .i64 x, .int .i64 y] w fun e w' => ∃ aa cc, e = .returned (.slice aa m cc) ∧ (∀ W, RdE W v es → RdE W (.slice aa m cc) ((es.take j).drop i)) ∧ w' = w := by
  refine (cut_at v es i j x y w hx hy hr hij hj).mono ?_
  rintro e w' ⟨u, rfl, hu, rfl⟩
  obtain ⟨aa, cc, hf, _⟩ := id (hu _ hr)
  rw [List.length_drop, List.length_take, Nat.min_eq_left hj, ← hm] at hf
  subst hf
  exact ⟨aa, cc, rfl, hu, rfl⟩
theorem joinE3 (u1 u2 u3 : Value) (A B C : List Ent) : joinE [(u1, A), (u2, B), (u3, C)] = A ++ (B ++ C) := by simp [joinE]
theorem joined3 (w3 : World) (x : Ent) (u1 u3 : Value) (A C : List Ent) (n : Nat) (h1 : RdE w3 u1 A) (h3 : RdE w3 u3 C) (hn : n = w3.heap.size + 1) (hl : A.length + C.length ≤ 10000) :
    Calls Tryz.prog 66 #[.slice (some ⟨n, 0, none⟩) 3 3] ((w3.alloc (.cells #[.string x.key, .string x.val, .int .i64 x.seq, .bool x.gone] 89)).alloc (.cells #[u1, .slice (some ⟨w3.heap.size, 0, none⟩) 1 1, u3] 30)).drew fun e w' => ∃ u, e = .returned u ∧ OwnE w' w3.heap.size u (A ++ ([x] ++ C)) ∧ Below w3.heap.size w3 w' := by
  have hp := pieces3d (n := n) (by rw [hn]; simp) (below1 w3 (.cells #[.string x.key, .string x.val, .int .i64 x.seq, .bool x.gone] 89)) h1 h3 (entAt_box w3 x 89)
  have hj := joinE3 u1 (.slice (some ⟨w3.heap.size, 0, none⟩) 1 1) u3 A [x] C
  refine (joined_any _ _ _ hp (by rw [hj]; simp; omega) (by simp)).mono ?_
  rintro e w' ⟨u, rfl, ho, hb⟩
  rw [hj] at ho
  have b2 := (below2 w3 (.cells #[.string x.key, .string x.val, .int .i64 x.seq, .bool x.gone] 89) (.cells #[u1, .slice (some ⟨w3.heap.size, 0, none⟩) 1 1, u3] 30)).drew
  exact ⟨u, rfl, ho.mono b2.size, b2.trans (hb.mono b2.size)⟩
theorem placeOf_at (v : Value) (es : List Ent) (x : Ent) (p : Nat) (s : Bool) (w : World) (hr : RdE w v es) (hok : okL es = true) (hp : atE es x = p) (hs : hasKS es x = s) :
    Calls Tryz.prog 101 #[v, .string x.key, .int .i64 x.seq] w fun e w' => e = .returned (.tuple #[.int .i64 (p : Nat), .bool s]) ∧ Below w.heap.size w w' := by
  subst hp; subst hs; exact placeOf_any v es x.key x.seq w hr hok
theorem hide {p : Prop} (h : p) : Hid p := h
set_option maxHeartbeats 4000000 in
set_option maxRecDepth 100000 in
theorem implPut_any (v : Value) (es : List Ent) (x : Ent) (w : World) (hr : RdE w v es) (hf : ∀ e ∈ es, Fits e) (hfx : Fits x) :
    Calls Tryz.prog 64 #[v, .agg #[.string x.key, .string x.val, .int .i64 x.seq, .bool x.gone]] w fun e w' => PutPost w es x e w' := by
  obtain ⟨a, cap, hv, hl, hm, _⟩ := id hr
  unfold maxLen at hm
  subst hv
  have hbx := entAt_box w x 89
  have hb0 := below1 w (.cells #[.string x.key, .string x.val, .int .i64 x.seq, .bool x.gone] 89)
  have hr0 := hr.below hb0
  cases hok : okL es with
  | false =>
    have RES : Hid (putOk es x = false) := by unfold Hid putOk; simp [hok]
    go_enter Tryz.func64, Tryz.ntmps64
    go_wp2_with fail
    refine (implOk_no _ es _ hr0 hf hok).mono ?_
    rintro e w1 ⟨rfl, hb1⟩
    have bz := hb0.trans (hb1.mono (by simp))
    go_wp2
    go_ret2
    exact putPost_no RES.out (ownE_empty bz.size) (bz.alloc bz.size _)
  | true =>
    have hlen := okL_len hok
    cases hox : okE x with
    | false =>
      have RES : Hid (putOk es x = false) := by unfold Hid putOk; simp [hox]
      go_enter Tryz.func64, Tryz.ntmps64
      go_wp2_with fail
      refine (implOk_yes _ es _ hr0 hf hok).mono ?_
      rintro e w1 ⟨rfl, hb1⟩
      obtain ⟨c0, c1, c2, c3⟩ := hbx.below hb1
      simp only [Nat.zero_add] at c1 c2 c3
      have bz := hb0.trans (hb1.mono (by simp))
      clear hb1 hbx
      go_wp2_with fail
      refine (entryOk_no x _ hfx hox).mono ?_
      rintro e w2 ⟨rfl, hb2⟩
      have bz2 := bz.trans (hb2.mono bz.size)
      go_wp2
      go_ret2
      exact putPost_no RES.out (ownE_empty bz2.size) (bz2.alloc bz2.size _)
    | true =>
      by_cases h300 : es.length = 300
      · skip
        have RES : Hid (putOk es x = false) := by unfold Hid putOk; simp [h300]
        have hq : ((es.length : Int) == 300) = true := by simp; omega
        clear h300
        go_enter Tryz.func64, Tryz.ntmps64
        go_wp2_with fail
        refine (implOk_yes _ es _ hr0 hf hok).mono ?_
        rintro e w1 ⟨rfl, hb1⟩
        obtain ⟨c0, c1, c2, c3⟩ := hbx.below hb1
        simp only [Nat.zero_add] at c1 c2 c3
        have bz := hb0.trans (hb1.mono (by simp))
        clear hb1 hbx
        go_wp2_with fail
        refine (entryOk_yes x _ hfx hox).mono ?_
        rintro e w2 ⟨rfl, hb2⟩
        have bz2 := bz.trans (hb2.mono bz.size)
        go_wp2
        go_ret2
        exact putPost_no RES.out (ownE_empty bz2.size) (bz2.alloc bz2.size _)
      · have hq : ((es.length : Int) == 300) = false := by simp; omega
        obtain ⟨p, hp⟩ : ∃ p, atE es x = p := ⟨_, rfl⟩
        have HP : Hid (atE es x = p) := hp
        have hpl : p ≤ es.length := by rw [← hp]; exact atE_le _ _
        clear hp
        cases hhs : hasKS es x with
        | true =>
          have RES : Hid (putOk es x = false) := by unfold Hid putOk; simp [hhs]
          go_enter Tryz.func64, Tryz.ntmps64
          go_wp2_with fail
          refine (implOk_yes _ es _ hr0 hf hok).mono ?_
          rintro e w1 ⟨rfl, hb1⟩
          have hbx1 := hbx.below hb1
          obtain ⟨c0, c1, c2, c3⟩ := id hbx1
          simp only [Nat.zero_add] at c1 c2 c3
          have bz := hb0.trans (hb1.mono (by simp))
          clear hb1 hbx
          go_wp2_with fail
          refine (entryOk_yes x _ hfx hox).mono ?_
          rintro e w2 ⟨rfl, hb2⟩
          have bz2 := bz.trans (hb2.mono bz.size)
          obtain ⟨d0, d1, d2, d3⟩ := hbx1.below hb2
          simp only [Nat.zero_add] at d1 d2 d3
          clear hb2 hbx1 c0 c1 c2 c3
          go_wp2_with fail
          refine (placeOf_at _ es x p true _ (hr.below bz2) hok HP.out hhs).mono ?_
          rintro e w3 ⟨rfl, hb3⟩
          have bz3 := bz2.trans (hb3.mono bz2.size)
          go_wp2
          go_ret2
          exact putPost_no RES.out (ownE_empty bz3.size) (bz3.alloc bz3.size _)
        | false =>
          have RES : Hid (putOk es x = true) := by unfold Hid putOk; simp [hhs, hok, hox, h300]
          clear h300
          go_enter Tryz.func64, Tryz.ntmps64
          go_wp2_with fail
          refine (implOk_yes _ es _ hr0 hf hok).mono ?_
          rintro e w1 ⟨rfl, hb1⟩
          have hbx1 := hbx.below hb1
          obtain ⟨c0, c1, c2, c3⟩ := id hbx1
          simp only [Nat.zero_add] at c1 c2 c3
          have bz := hb0.trans (hb1.mono (by simp))
          clear hb1 hbx
          go_wp2_with fail
          refine (entryOk_yes x _ hfx hox).mono ?_
          rintro e w2 ⟨rfl, hb2⟩
          have bz2 := bz.trans (hb2.mono bz.size)
          have hbx2 := hbx1.below hb2
          obtain ⟨d0, d1, d2, d3⟩ := id hbx2
          simp only [Nat.zero_add] at d1 d2 d3
          clear hb2 hbx1 c0 c1 c2 c3
          go_wp2_with fail
          refine (placeOf_at _ es x p false _ (hr.below bz2) hok HP.out hhs).mono ?_
          rintro e w3 ⟨rfl, hb3⟩
          have bz3 := bz2.trans (hb3.mono bz2.size)
          have hbx3 := hbx2.below hb3
          have hr3 := hr.below bz3
          clear hb3 hbx2 d0 d1 d2 d3
          go_wp2_with fail
          have hl3 := hbx3.lt
          obtain ⟨c0, c1, c2, c3⟩ := id hbx3
          simp only [Nat.zero_add] at c1 c2 c3
          have hne := World.new_ne w3 _ c0
          have CUT0 : Hid (∀ W, RdE W (.slice a es.length cap) es → Calls Tryz.prog 93 #[.slice a es.length cap, .int .i64 0, .int .i64 (p : Int)] W fun e w' => ∃ aa cc, e = .returned (.slice aa p cc) ∧ (∀ W, RdE W (.slice a es.length cap) es → RdE W (.slice aa p cc) ((es.take p).drop 0)) ∧ w' = W) := fun W h => cut_form _ es 0 p p 0 p W rfl rfl h (Nat.zero_le _) hpl rfl
          have CUT1 : Hid (∀ W, RdE W (.slice a es.length cap) es → Calls Tryz.prog 93 #[.slice a es.length cap, .int .i64 (p : Int), .int .i64 (es.length : Int)] W fun e w' => ∃ aa cc, e = .returned (.slice aa (es.length - p) cc) ∧ (∀ W, RdE W (.slice a es.length cap) es → RdE W (.slice aa (es.length - p) cc) ((es.take es.length).drop p)) ∧ w' = W) := fun W h => cut_form _ es p es.length (es.length - p) p es.length W rfl rfl h hpl (Nat.le_refl _) rfl
          go_region_held3 (fun w' => w'.cell? ⟨w.heap.size, 0, none⟩ = some (.string x.key) ∧ w'.cell? ⟨w.heap.size, 1, none⟩ = some (.string x.val) ∧ w'.cell? ⟨w.heap.size, 2, none⟩ = some (.int .i64 x.seq) ∧ w'.cell? ⟨w.heap.size, 3, none⟩ = some (.bool x.gone)) (go_keep)
            (first
              | (go_at_call_of 93 (Value.int IntKind.i64 0); refine (CUT0.out _ ?_).mono ?_; (first | exact hr3 | exact hr3.below (below1 _ _).drew | exact RdE.below (w := w3.drew) hr3 (below1 _ _)); rintro e w4 ⟨a1, k1, rfl, hu1, rfl⟩; have HU1 := hide hu1; clear hu1)
              | (go_at_call_of 93 (Value.int IntKind.i64 (es.length : Int)); refine (CUT1.out _ ?_).mono ?_; (first | exact hr3 | exact hr3.below (below1 _ _).drew | exact RdE.below (w := w3.drew) hr3 (below1 _ _)); rintro e w5 ⟨a3, k3, rfl, hu3, rfl⟩; have HU3 := hide hu3; clear hu3)
              | (go_at_call 66; refine (joined3 w3 x (.slice a1 p k1) (.slice a3 (es.length - p) k3) ((es.take p).drop 0) ((es.take es.length).drop p) _ (HU1.out _ hr3) (HU3.out _ hr3) rfl (by simp; omega)).mono ?_; rintro e w6 ⟨u6, rfl, ho6, hb6⟩; have hq6 : ∀ o, w6.cell? ⟨w.heap.size, o, none⟩ = w3.cell? ⟨w.heap.size, o, none⟩ := fun o => (bcell hb6).1 _ o hl3))
          all_goals go_wp2
          all_goals go_ret2
          all_goals
            have e : insE es x = (es.take p).drop 0 ++ ([x] ++ (es.take es.length).drop p) := by unfold insE; rw [HP.out, List.drop_zero, List.take_length]; rfl
            refine putPost_yes RES.out ?_ (bz3.trans (hb6.mono bz3.size))
            rw [e]
            exact ho6.mono bz3.size
end Go.Proofs.YtbefmbjlogkmbaaGreat
namespace Go.Proofs.YtbefmbjlogkmbaaGreat
open Go.RowKit
def reMem (Y : TrX) (u : Value) (M : List Ent) (q : Int) : TrX := ⟨u, Y.vy, Y.vo, Y.vs, M, Y.ys, Y.os, q, Y.snaps⟩
theorem OwnTree.reMem {w w' : World} {lo : Nat} {Y : TrX} {u : Value} {M : List Ent} {q : Int} (h : OwnTree w lo Y) (hlo : lo ≤ w.heap.size) (hb : Below w.heap.size w w') (hu : OwnE w' w.heap.size u M) : OwnTree w' lo (reMem Y u M q) := by
  have h' := h.below hb
  refine ⟨OwnE.mono hu hlo, h'.young, h'.youngs, h'.old, h'.olds, h'.snaps, ?_⟩
  have hn := h.nod
  unfold trB at hn ⊢
  rw [List.nodup_append] at hn ⊢
  refine ⟨oneB_nodup _, hn.2.1, fun a ha c hc e => ?_⟩
  subst e
  have h1 := (World.ownsRow.lt hu a (mem_oneB.1 ha)).1
  have h2 := (h.bound (k := a) (by unfold trB; exact List.mem_append_right _ hc)).2
  omega
def BatchPost (w : World) (T : Tre) (xs : List Wri) (e : Ending) (w' : World) : Prop :=
  ∃ Y : TrX, e = .returned (.tuple #[.agg #[Y.vm, Y.vy, Y.vo, .int .i64 Y.seq, Y.vs], .bool (roomFor T xs)]) ∧ (roomFor T xs = true → Y.tre = putAll T xs ∧ OwnTree w' w.heap.size Y) ∧ (roomFor T xs = false → Y = ⟨.slice none 0 0, .slice none 0 0, .slice none 0 0, .slice none 0 0, [], [], [], 0, []⟩) ∧ Below w.heap.size w w'
theorem room_all {T : Tre} {xs : List Wri} (h : roomFor T xs = true) : xs.length ≤ 20 ∧ xs.all wriOk = true ∧ T.seq + (xs.length : Int) ≤ 1000000 ∧ T.mem.length + xs.length ≤ 300 := by
  unfold roomFor batchOk at h
  simp only [Bool.and_eq_true, decide_eq_true_eq] at h
  exact ⟨h.1.1.1, h.1.1.2, h.1.2, h.2⟩
theorem room_not {T : Tre} (ht : TreeP T) {xs : List Wri} {k : Nat} (hk : k < xs.length) (h : putOk (putAll T (xs.take k)).mem (wriE (nthW xs k) ((putAll T (xs.take k)).seq + 1)) = false) : roomFor T xs = false := by
  rw [Bool.eq_false_iff]
  intro hr
  obtain ⟨-, h2, h3, h4⟩ := room_all hr
  have hlt : (xs.take k).length = k := by rw [List.length_take]; omega
  have hall : (xs.take k).all wriOk = true := by
    rw [List.all_eq_true] at h2 ⊢
    exact fun x hx => h2 x (List.mem_of_mem_take hx)
  have hp := putAll_tree ht hall (by rw [hlt]; omega) (by rw [hlt]; omega)
  rw [putOk_tree hp] at h
  have hx : wriOk (nthW xs k) = true := by
    rw [List.all_eq_true] at h2
    exact h2 _ (by rw [nthW_eq hk]; exact List.getElem_mem hk)
  rw [hx, putAll_seq, putAll_len, hlt, decide_eq_true (by omega), decide_eq_true (by omega)] at h
  cases h
theorem room_step {T : Tre} {xs : List Wri} {k : Nat} (hk : k < xs.length) (hp : TreeP (putAll T (xs.take k))) (h : putOk (putAll T (xs.take k)).mem (wriE (nthW xs k) ((putAll T (xs.take k)).seq + 1)) = true) : TreeP (putAll T (xs.take (k + 1))) ∧ wriOk (nthW xs k) = true := by
  rw [putOk_tree hp] at h
  simp only [Bool.and_eq_true, decide_eq_true_eq] at h
  rw [putAll_snoc T hk]
  exact ⟨put1_tree hp h.1.1 h.1.2 h.2, h.1.1⟩
theorem room_yes {T : Tre} {xs : List Wri} (hn : xs.length ≤ 20) (hall : xs.all wriOk = true) (hp : TreeP (putAll T xs)) : roomFor T xs = true := by
  have h1 := hp.seq1
  have h2 := okL_len hp.mem
  rw [putAll_seq] at h1
  rw [putAll_len] at h2
  unfold roomFor batchOk
  rw [hall, decide_eq_true hn, decide_eq_true h1, decide_eq_true h2]
  rfl
end Go.Proofs.YtbefmbjlogkmbaaGreat
