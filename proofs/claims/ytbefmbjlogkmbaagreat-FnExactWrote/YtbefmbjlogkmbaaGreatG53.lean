/- The contract of the program's TreeOk of a tree. The contract of the program's Wrote. The contracts of the laws' measures of a tree and of writes behind it: what is left, and the sum. Writes that came in as an argument of a law: what is read of them. The contract of the law's marking of a slice of writes. -/
import Derived.Test.YtbefmbjlogkmbaaGreatTreUnp
import Derived.Maps.AppendAt
import Derived.Test.YtbefmbjlogkmbaaGreatG45
import Derived.Test.YtbefmbjlogkmbaaGreatG35
import Derived.Test.YtbefmbjlogkmbaaGreatG40
import Derived.OpenShut
import Derived.Deep.Slices
import Derived.ChangeArms
import Derived.Test.YtbefmbjlogkmbaaGreatG27
namespace Go.Proofs.YtbefmbjlogkmbaaGreat
open Go.RowKit
set_option maxHeartbeats 1000000 in
set_option maxRecDepth 100000 in
theorem implTreeOk_any (X : TrX) (w : World) (hx : RdTr w X) (hf : FitTr X) :
    Calls Tryz.prog 32 #[.agg #[X.vm, X.vy, X.vo, .int .i64 X.seq, X.vs]] w fun e w' => e = .returned (.bool (treeOk X.tre)) ∧ Below w.heap.size w w' := by
  have ht0 := treAt_new w X 33
  have b0 := below1 w (.cells #[X.vm, X.vy, X.vo, .int .i64 X.seq, X.vs] 33)
  have HU : Hid (Calls _ _ _ _ _) := unpackedTree_any X _ (hx.below b0) hf
  unfold UnpTPost at HU
  generalize treeOk X.tre = ok at HU ⊢
  obtain ⟨q0, q1, q2, q3, q4⟩ := id ht0
  go_enter Tryz.func32, Tryz.ntmps32
  go_wp2_with fail
  refine HU.out.mono ?_
  rintro e w1 ⟨u, ps, rfl, -, -, hb1⟩
  have b1 := b0.trans (hb1.mono b0.size)
  clear HU ht0 q0 q1 q2 q3 q4 hb1
  go_wp2
  go_ret
  exact ⟨rfl, b1⟩
end Go.Proofs.YtbefmbjlogkmbaaGreat
namespace Go.Proofs.YtbefmbjlogkmbaaGreat
open Go.RowKit
def IWrotePost (w : World) (X : TrX) (xs : List Wri) (e : Ending) (w' : World) : Prop :=
  ∃ Y : TrX, e = .returned (.tuple #[.agg #[Y.vm, Y.vy, Y.vo, .int .i64 Y.seq, Y.vs], .bool (wroteO X.tre xs)]) ∧ Y.tre = wroteR X.tre xs ∧ OwnTree w' w.heap.size Y ∧ Below w.heap.size w w'
set_option maxHeartbeats 8000000 in
set_option maxRecDepth 100000 in
theorem implWrote_any (X : TrX) (v : Value) (xs : List Wri) (w : World) (hx : RdTr w X) (hf : FitTr X) (hs : treeOk X.tre = true → CpTr X) (hw : RdW w v xs) (hfw : ∀ x ∈ xs, FitsW x) :
    Calls Tryz.prog 11 #[.agg #[X.vm, X.vy, X.vo, .int .i64 X.seq, X.vs], v] w fun e w' => IWrotePost w X xs e w' := by
  have HTK : Hid (∀ W, RdTr W X → Calls Tryz.prog 32 #[.agg #[X.vm, X.vy, X.vo, .int .i64 X.seq, X.vs]] W fun e w' => e = .returned (.bool (treeOk X.tre)) ∧ Below W.heap.size W w') := fun W h => implTreeOk_any X W h hf
  have HCP : Hid (treeOk X.tre = true → ∀ W, RdTr W X → Calls Tryz.prog 34 #[.agg #[X.vm, X.vy, X.vo, .int .i64 X.seq, X.vs]] W fun e w' => ToTr W X e w') := fun ht W h => copied_any X W h (hs ht)
  have HWB : Hid (treeOk X.tre = true → ∀ W, RdTr W X → RdW W v xs → Calls Tryz.prog 33 #[.agg #[X.vm, X.vy, X.vo, .int .i64 X.seq, X.vs], v] W fun e w' => BatchPost W X.tre xs e w') := fun ht W h h2 => withBatch_any X v xs W h (hs ht) ((treeOk_iff X.tre).1 ht) h2 hfw
  clear hs hf
  have t0 := treAt_new w X 33
  obtain ⟨V0, hV0⟩ : ∃ V0, V0 = w.alloc (.cells #[X.vm, X.vy, X.vo, .int .i64 X.seq, X.vs] 33) := ⟨_, rfl⟩
  have b0 : Below w.heap.size w V0 := by rw [hV0]; exact below1 w _
  have s0 : V0.heap.size = w.heap.size + 1 := by rw [hV0]; simp
  rw [← hV0] at t0
  have z1 := boxTr_new V0 (.slice none 0 0) (.slice none 0 0) (.slice none 0 0) (.slice none 0 0) 0
  obtain ⟨W0, hW0⟩ : ∃ W0, W0 = V0.alloc (.cells #[.slice none 0 0, .slice none 0 0, .slice none 0 0, .int .i64 0, .slice none 0 0] 33) := ⟨_, rfl⟩
  have b1 : Below V0.heap.size V0 W0 := by rw [hW0]; exact below1 V0 _
  have s1 : W0.heap.size = w.heap.size + 2 := by rw [hW0]; simp; omega
  rw [← hW0, s0] at z1
  have t1 := t0.below b1
  have bw : Below w.heap.size w W0 := b0.trans (b1.mono (by omega))
  have HW0 : Hid ((w.alloc (.cells #[X.vm, X.vy, X.vo, .int .i64 X.seq, X.vs] 33)).alloc (.cells #[.slice none 0 0, .slice none 0 0, .slice none 0 0, .int .i64 0, .slice none 0 0] 33) = W0) := by unfold Hid; rw [hW0, hV0]
  obtain ⟨q0, q1, q2, q3, q4⟩ := id t1
  rw [hW0, hV0] at q0 q1 q2 q3 q4
  clear t0 b0 b1 s0 hV0 hW0
  go_enter Tryz.func11, Tryz.ntmps11
  go_wp2_with fail
  rw [HW0.out]
  clear q0 q1 q2 q3 q4
  refine (HTK.out _ (hx.below bw)).mono ?_
  rintro e w1 ⟨rfl, hb1⟩
  have t2 := t1.below hb1
  have z2 := z1.on hb1
  have bw1 := bw.trans (hb1.mono bw.size)
  have s2 : w.heap.size + 2 ≤ w1.heap.size := by rw [← s1]; exact hb1.size
  clear t1 z1 bw hb1 s1 HTK HW0
  cases htk : treeOk X.tre with
  | false =>
    obtain ⟨y0, y1, y2, y3, y4, g0, g1, g2, g3, g4⟩ := z2.facts
    have hzF := boxTr_put5 z2 (.slice none 0 0) (.slice none 0 0) (.slice none 0 0) (.slice none 0 0) 0
    obtain ⟨f0, f1, f2, f3, f4, -⟩ := hzF.facts
    have END : Hid (IWrotePost w X xs (.returned (.tuple #[.agg #[.slice none 0 0, .slice none 0 0, .slice none 0 0, .int .i64 0, .slice none 0 0], .bool false])) (put5 w1 (w.heap.size + 1) (.slice none 0 0) (.slice none 0 0) (.slice none 0 0) (.int .i64 0) (.slice none 0 0))) := by
      refine ⟨⟨.slice none 0 0, .slice none 0 0, .slice none 0 0, .slice none 0 0, [], [], [], 0, []⟩, by unfold wroteO; rw [htk]; rfl, by unfold wroteR; rw [if_neg (by rw [htk]; simp)]; rfl, ownTree_zero _ _, below_put5 bw1 (by omega)⟩
    unfold put5 at f0 f1 f2 f3 f4
    clear z2 t2 hzF bw1 htk HWB HCP
    go_wp2
    exact bodyPost_ret (v := .tuple #[.agg #[.slice none 0 0, .slice none 0 0, .slice none 0 0, .int .i64 0, .slice none 0 0], .bool false]) (by simp [results, Tryz.results11, go_sem, f0, f1, f2, f3, f4]) rfl END.out
  | true =>
    obtain ⟨q0, q1, q2, q3, q4⟩ := id t2
    go_wp2_with fail
    refine (HWB.out htk _ (hx.below bw1) (hw.below bw1)).mono ?_
    rintro e w2 ⟨Y, rfl, hyes, hno, hb2⟩
    have t3 := t2.below hb2
    have z3 := z2.on hb2
    have bw2 := bw1.trans (hb2.mono bw1.size)
    have s3 := hb2.size
    clear q0 q1 q2 q3 q4 t2 z2 hb2 bw1 HWB
    cases hr : roomFor X.tre xs with
    | true =>
      obtain ⟨heY, hoY⟩ := hyes hr
      have UB : Hid (∀ k ∈ trB Y, w1.heap.size ≤ k ∧ k < w2.heap.size) := fun k hk => hoY.bound hk
      obtain ⟨am, ay, ao, an, mn, yn, on, nn, cm, cy, co, cn, v0, v1, v2, v3⟩ := hoY.rd.slices
      obtain ⟨vm4, vy4, vo4, vs4, mem4, ys4, os4, seq4, snaps4⟩ := Y
      simp only at v0 v1 v2 v3
      subst v0
      subst v1
      subst v2
      subst v3
      have zb := boxTr_new w2 (.slice am mn cm) (.slice ay yn cy) (.slice ao on co) (.slice an nn cn) seq4
      have bb := below1 w2 (.cells #[.slice am mn cm, .slice ay yn cy, .slice ao on co, .int .i64 seq4, .slice an nn cn] 33)
      have z4 := z3.on bb
      have bw3 := bw2.trans (bb.mono bw2.size)
      have hoY3 := hoY.below bb
      obtain ⟨y0, y1, y2, y3, y4, g0, g1, g2, g3, g4⟩ := zb.facts
      obtain ⟨m0, m1, m2, m3, m4, n0, n1, n2, n3, n4⟩ := z4.facts
      have hzF := boxTr_put5 z4 (.slice am mn cm) (.slice ay yn cy) (.slice ao on co) (.slice an nn cn) seq4
      obtain ⟨f0, f1, f2, f3, f4, -⟩ := hzF.facts
      have END : Hid (IWrotePost w X xs (.returned (.tuple #[.agg #[.slice am mn cm, .slice ay yn cy, .slice ao on co, .int .i64 seq4, .slice an nn cn], .bool true])) (put5 (w2.alloc (.cells #[.slice am mn cm, .slice ay yn cy, .slice ao on co, .int .i64 seq4, .slice an nn cn] 33)) (w.heap.size + 1) (.slice am mn cm) (.slice ay yn cy) (.slice ao on co) (.int .i64 seq4) (.slice an nn cn))) := by
        refine ⟨⟨.slice am mn cm, .slice ay yn cy, .slice ao on co, .slice an nn cn, mem4, ys4, os4, seq4, snaps4⟩, ?_, ?_, (hoY3.others (fun e => by have := UB.out _ e; omega)).mono (by omega), below_put5 bw3 (by omega)⟩
        · unfold wroteO
          rw [htk, hr]
          rfl
        · unfold wroteR
          rw [if_pos htk, if_pos hr]
          exact heY
      unfold put5 at f0 f1 f2 f3 f4 END
      clear zb z4 t3 z3 bw2 bw3 hoY hoY3 UB hzF htk heY hyes hno hr bb HCP
      go_wp2
      exact bodyPost_ret (v := .tuple #[.agg #[.slice am mn cm, .slice ay yn cy, .slice ao on co, .int .i64 seq4, .slice an nn cn], .bool true]) (by simp [results, Tryz.results11, go_sem, f0, f1, f2, f3, f4]) rfl END.out
    | false =>
      obtain rfl := hno hr
      have bb := below1 w2 (.cells #[.slice none 0 0, .slice none 0 0, .slice none 0 0, .int .i64 0, .slice none 0 0] 33)
      have t4 := t3.below bb
      have z4 := z3.on bb
      have bw3 := bw2.trans (bb.mono bw2.size)
      have s4 : w2.heap.size < (w2.alloc (.cells #[.slice none 0 0, .slice none 0 0, .slice none 0 0, .int .i64 0, .slice none 0 0] 33)).heap.size := by simp
      obtain ⟨q0, q1, q2, q3, q4⟩ := id t4
      have HCQ : Hid (∀ W, RdTr W X → Calls Tryz.prog 34 #[.agg #[X.vm, X.vy, X.vo, .int .i64 X.seq, X.vs]] W fun e w' => ToTr W X e w') := HCP.out htk
      have HO : Hid (wroteO X.tre xs = false) := by unfold Hid wroteO; rw [htk, hr]; rfl
      have HR0 : Hid (wroteR X.tre xs = X.tre) := by unfold Hid wroteR; rw [if_pos htk, if_neg (by rw [hr]; simp)]
      clear hyes hno hr htk HCP t3 z3 bb bw2
      go_wp2_with fail
      generalize w2.alloc (.cells #[.slice none 0 0, .slice none 0 0, .slice none 0 0, .int .i64 0, .slice none 0 0] 33) = W3 at t4 z4 bw3 s4 q0 q1 q2 q3 q4 ⊢
      refine (HCQ.out _ (hx.below bw3)).mono ?_
      rintro e w4 ⟨Y, rfl, heY, hoY, hb4⟩
      have z5 := z4.on hb4
      have bw5 := bw3.trans (hb4.mono bw3.size)
      have UB : Hid (∀ k ∈ trB Y, W3.heap.size ≤ k ∧ k < w4.heap.size) := fun k hk => hoY.bound hk
      obtain ⟨am, ay, ao, an, mn, yn, on, nn, cm, cy, co, cn, v0, v1, v2, v3⟩ := hoY.rd.slices
      obtain ⟨vm4, vy4, vo4, vs4, mem4, ys4, os4, seq4, snaps4⟩ := Y
      simp only at v0 v1 v2 v3
      subst v0
      subst v1
      subst v2
      subst v3
      obtain ⟨m0, m1, m2, m3, m4, n0, n1, n2, n3, n4⟩ := z5.facts
      have hzF := boxTr_put5 z5 (.slice am mn cm) (.slice ay yn cy) (.slice ao on co) (.slice an nn cn) seq4
      obtain ⟨f0, f1, f2, f3, f4, -⟩ := hzF.facts
      have END : Hid (IWrotePost w X xs (.returned (.tuple #[.agg #[.slice am mn cm, .slice ay yn cy, .slice ao on co, .int .i64 seq4, .slice an nn cn], .bool false])) (put5 w4 (w.heap.size + 1) (.slice am mn cm) (.slice ay yn cy) (.slice ao on co) (.int .i64 seq4) (.slice an nn cn))) := by
        refine ⟨⟨.slice am mn cm, .slice ay yn cy, .slice ao on co, .slice an nn cn, mem4, ys4, os4, seq4, snaps4⟩, by rw [HO.out], by rw [HR0.out]; exact heY, (hoY.others (fun e => by have := UB.out _ e; omega)).mono (by omega), below_put5 bw5 (by omega)⟩
      unfold put5 at f0 f1 f2 f3 f4 END
      clear t4 z4 z5 bw3 bw5 hoY UB hzF heY hb4 q0 q1 q2 q3 q4
      go_wp2
      exact bodyPost_ret (v := .tuple #[.agg #[.slice am mn cm, .slice ay yn cy, .slice ao on co, .int .i64 seq4, .slice an nn cn], .bool false]) (by simp [results, Tryz.results11, go_sem, f0, f1, f2, f3, f4]) rfl END.out
end Go.Proofs.YtbefmbjlogkmbaaGreat
namespace Go.Proofs.YtbefmbjlogkmbaaGreat
open Go.RowKit
def SzTrS (w : World) (X : TrX) (e : Ending) (w' : World) : Prop := Below w.heap.size w w' ∧ ∃ z : Int, e = .returned (.int .i64 z) ∧ (z < 0 ∨ 0 ≤ z ∧ z + ((X.mem.length + tsz X.ys + tsz X.os + X.snaps.length : Nat) : Int) ≤ 1048576 ∧ SmallTr X)
set_option maxHeartbeats 2000000 in
set_option maxRecDepth 100000 in
theorem szTree_sum (X : TrX) (w : World) (hx : RdTr w X) (hh : HeldTr X) :
    Calls Tryz.prog 6 #[.agg #[X.vm, X.vy, X.vo, .int .i64 X.seq, X.vs], .int .i64 1048576] w fun e w' => SzTrS w X e w' := by
  have ht0 := treAt_new w X 26
  have b0 := below1 w (.cells #[X.vm, X.vy, X.vo, .int .i64 X.seq, X.vs] 26)
  obtain ⟨hhm, hhy, hho⟩ := hh
  have HM : Hid (∀ l W, RdE W X.vm X.mem → 0 ≤ l → l ≤ 1048576 → Calls Tryz.prog 21 #[X.vm, .int .i64 l] W fun e w' => SzAt W X.mem l e w') := fun l W h h0 h1 => szEnts_at _ _ l W h (fun x hx => ⟨(hhm x hx).1, (hhm x hx).2.1⟩) h0 h1
  have HY : Hid (∀ l W, RdTs W X.vy X.ys → 0 ≤ l → l ≤ 1048576 → Calls Tryz.prog 22 #[X.vy, .int .i64 l] W fun e w' => SzTs W X.ys l e w') := fun l W h h0 h1 => szTabs_at _ _ l W h hhy h0 h1
  have HO : Hid (∀ l W, RdTs W X.vo X.os → 0 ≤ l → l ≤ 1048576 → Calls Tryz.prog 22 #[X.vo, .int .i64 l] W fun e w' => SzTs W X.os l e w') := fun l W h h0 h1 => szTabs_at _ _ l W h hho h0 h1
  have HS : Hid (∀ l W, RdI W X.vs X.snaps → 0 ≤ l → l ≤ 1048576 → Calls Tryz.prog 23 #[X.vs, .int .i64 l] W fun e w' => w' = W ∧ ∃ x : Int, e = .returned (.int .i64 x) ∧ (x = -1 ∨ 0 ≤ x ∧ x + X.snaps.length ≤ l)) := fun l W h h0 h1 => szInts_at _ _ l W h h0 h1
  obtain ⟨q0, q1, q2, q3, q4⟩ := id ht0
  clear hhm hhy hho
  go_enter Tryz.func6, Tryz.ntmps6
  go_wp2_with fail
  refine (HM.out _ _ (hx.mem.below b0) (by omega) (by omega)).mono ?_
  rintro e w1 ⟨hb1, z1, rfl, hz1⟩
  have t1 := ht0.below hb1
  have b1 := b0.trans (hb1.mono b0.size)
  clear ht0 b0 hb1 q0 q1 q2 q3 q4 HM
  rcases hz1 with hz1 | ⟨hz10, hz11, hz12⟩
  · subst hz1
    go_wp2
    go_ret
    exact ⟨b1, -1, rfl, .inl (by omega)⟩
  have HZM : Hid (∀ x ∈ X.mem, x.key.size ≤ 1048576 ∧ x.val.size ≤ 1048576) := hz12
  obtain ⟨q0, q1, q2, q3, q4⟩ := id t1
  clear hz12
  go_wp2_with fail
  refine (HY.out _ _ (hx.young.below b1) hz10 (by omega)).mono ?_
  rintro e w2 ⟨hb2, z2, rfl, hz2⟩
  have t2 := t1.below hb2
  have b2 := b1.trans (hb2.mono b1.size)
  clear t1 b1 hb2 q0 q1 q2 q3 q4 HY
  rcases hz2 with hz2 | ⟨hz20, hz21, hz22⟩
  · subst hz2
    go_wp2
    go_ret
    exact ⟨b2, -1, rfl, .inl (by omega)⟩
  have HZY : Hid (∀ t ∈ X.ys, SmallT t.T) := hz22
  obtain ⟨q0, q1, q2, q3, q4⟩ := id t2
  clear hz22
  go_wp2_with fail
  refine (HO.out _ _ (hx.old.below b2) hz20 (by omega)).mono ?_
  rintro e w3 ⟨hb3, z3, rfl, hz3⟩
  have t3 := t2.below hb3
  have b3 := b2.trans (hb3.mono b2.size)
  clear t2 b2 hb3 q0 q1 q2 q3 q4 HO
  rcases hz3 with hz3 | ⟨hz30, hz31, hz32⟩
  · subst hz3
    go_wp2
    go_ret
    exact ⟨b3, -1, rfl, .inl (by omega)⟩
  have HZO : Hid (∀ t ∈ X.os, SmallT t.T) := hz32
  obtain ⟨q0, q1, q2, q3, q4⟩ := id t3
  clear hz32
  go_wp2_with fail
  refine (HS.out _ _ (hx.snaps.below b3) hz30 (by omega)).mono ?_
  rintro e w4 ⟨hw4, z4, rfl, hz4⟩
  obtain rfl := hw4.symm
  clear q0 q1 q2 q3 q4 HS
  rcases hz4 with hz4 | ⟨hz40, hz41⟩
  · subst hz4
    go_wp2
    go_ret
    exact ⟨b3, -1, rfl, .inl (by omega)⟩
  · have HSUM : Hid (X.mem.length + tsz X.ys + tsz X.os + X.snaps.length ≤ 1048576) := by unfold Hid; omega
    have HSU2 : Hid (z4 + ((X.mem.length + tsz X.ys + tsz X.os + X.snaps.length : Nat) : Int) ≤ 1048576) := by unfold Hid; omega
    clear hz11 hz21 hz31 hz41
    go_wp2
    go_ret
    exact ⟨b3, z4, rfl, .inr ⟨hz40, HSU2.out, HSUM.out, HZM.out, HZY.out, HZO.out⟩⟩
def SzWl (w : World) (x : Wri) (l : Int) (e : Ending) (w' : World) : Prop :=
  Below w.heap.size w w' ∧ ∃ z : Int, e = .returned (.int .i64 z) ∧ (z = -1 ∨ 0 ≤ z ∧ z ≤ l ∧ x.key.size ≤ 1048576 ∧ x.val.size ≤ 1048576)
set_option maxHeartbeats 1000000 in
set_option maxRecDepth 100000 in
theorem szWrite_le (x : Wri) (l : Int) (w : World) (hl0 : 0 ≤ l) (hl1 : l ≤ 1048576) (hk : x.key.size ≤ maxLen) (hv : x.val.size ≤ maxLen) :
    Calls Tryz.prog 24 #[.agg #[.string x.key, .string x.val, .bool x.gone], .int .i64 l] w fun e w' => SzWl w x l e w' := by
  unfold maxLen at hk hv
  by_cases h1 : l - (x.key.size : Int) < 0
  · go_enter Tryz.func24, Tryz.ntmps24
    go_wp2
    go_ret
    exact ⟨below1 _ _, -1, rfl, .inl rfl⟩
  · by_cases h2 : l - (x.key.size : Int) - (x.val.size : Int) < 0
    · go_enter Tryz.func24, Tryz.ntmps24
      go_wp2
      go_ret
      exact ⟨below1 _ _, -1, rfl, .inl rfl⟩
    · go_enter Tryz.func24, Tryz.ntmps24
      go_wp2
      go_ret
      exact ⟨below1 _ _, _, rfl, .inr ⟨by omega, by omega, by omega, by omega⟩⟩
def SzWsA (w : World) (es : List Wri) (l : Int) (e : Ending) (w' : World) : Prop :=
  Below w.heap.size w w' ∧ ∃ z : Int, e = .returned (.int .i64 z) ∧ (z = -1 ∨ 0 ≤ z ∧ z + (es.length : Int) ≤ l ∧ ∀ x ∈ es, x.key.size ≤ 1048576 ∧ x.val.size ≤ 1048576)
set_option maxHeartbeats 1000000 in
set_option maxRecDepth 100000 in
theorem szWris_at (v : Value) (es : List Wri) (l0 : Int) (w : World) (hr : RdW w v es) (hsz : ∀ x ∈ es, x.key.size ≤ maxLen ∧ x.val.size ≤ maxLen) (hl0 : 0 ≤ l0) (hl1 : l0 ≤ 1048576) :
    Calls Tryz.prog 7 #[v, .int .i64 l0] w fun e w' => SzWsA w es l0 e w' := by
  obtain ⟨a, cap, hv, hl, hm, _⟩ := id hr
  unfold maxLen at hm
  subst hv
  have HSZ : Hid (∀ x ∈ es, x.key.size ≤ maxLen ∧ x.val.size ≤ maxLen) := hsz
  clear hsz
  by_cases hbig : l0 - (es.length : Int) < 0
  · go_enter Tryz.func7, Tryz.ntmps7
    go_wp2
    go_ret
    exact ⟨Below.refl _ _, -1, rfl, .inl rfl⟩
  · go_enter Tryz.func7, Tryz.ntmps7
    go_wp2
    go_loopw [1, 5] (fun l i wr => ∃ (k : Nat) (x : Int), k ≤ es.length ∧ i = .int .i64 k ∧ l = .int .i64 x ∧ 0 ≤ x ∧ x ≤ l0 - (es.length : Int) ∧ Hid (∀ j, j < k → (nthW es j).key.size ≤ 1048576 ∧ (nthW es j).val.size ≤ 1048576) ∧ Below w.heap.size w wr) (fun _ i _ => es.length - (intOf i).toNat)
    case atStart => exact ⟨0, _, Nat.zero_le _, rfl, rfl, by omega, by omega, (fun j h => absurd h (Nat.not_lt_zero _)), Below.refl _ _⟩
    case round =>
      obtain ⟨k, x, hk, rfl, rfl, hx0, hx1, HJ, hb⟩ := hrel
      by_cases hlt : k < es.length
      · obtain ⟨b, off, rfl, hc⟩ := (hr.below hb).at rfl k hlt
        have hsk := HSZ.out _ (List.getElem_mem hlt)
        rw [← nthW_eq hlt] at hsk
        obtain ⟨y, hy⟩ : ∃ y, y = nthW es k := ⟨_, rfl⟩
        rw [← hy] at hc hsk
        have HY : Hid (y = nthW es k) := hy
        clear hy
        obtain ⟨c0, c1, c2⟩ := hc
        go_wp2_with fail
        refine (szWrite_le y x _ hx0 (by omega) hsk.1 hsk.2).mono ?_
        rintro e w1 ⟨hb1, z, rfl, hz⟩
        have bz := hb.trans (hb1.mono hb.size)
        rcases hz with hz | ⟨hz0, hz1, hz2, hz3⟩
        · subst hz
          go_wp2
          go_ret
          exact ⟨bz, -1, rfl, .inl rfl⟩
        · have HJ2 : Hid (∀ j, j < k + 1 → (nthW es j).key.size ≤ 1048576 ∧ (nthW es j).val.size ≤ 1048576) := by
            intro j hj
            by_cases hjk : j = k
            · subst hjk; rw [← HY.out]; exact ⟨hz2, hz3⟩
            · exact HJ.out j (by omega)
          clear hz2 hz3 hb hb1
          go_wp2
          go_roundw
          case rel => exact ⟨k + 1, _, by omega, by go_num, rfl, hz0, by omega, HJ2, bz⟩
          case measure => simp [intOf]; omega
      · have hke : k = es.length := by omega
        subst hke
        go_wp2
        go_ret
        refine ⟨hb, x, rfl, .inr ⟨hx0, by omega, fun s hs => ?_⟩⟩
        obtain ⟨j, hj, rfl⟩ := List.getElem_of_mem hs
        rw [← nthW_eq hj]
        exact HJ.out j hj
end Go.Proofs.YtbefmbjlogkmbaaGreat
namespace Go.Proofs.YtbefmbjlogkmbaaGreat
open Go.RowKit Go.ChangeShapes Go.WideShapes
theorem cellsW9 : Tryz.prog.cellsOf 9 = 1 := by kernel_rfl
theorem cellsW4 : Tryz.prog.cellsOf 4 = 1 := by kernel_rfl
theorem cellsW51 : Tryz.prog.cellsOf 51 = 3 := by kernel_rfl
instance : Inhabited Wri := ⟨zeroW⟩
set_option maxRecDepth 100000 in
theorem open_wri {H : Type} {enc : TypeId × Value → H} {w : World} {base : Nat} {spare : Nat → Bool} {held : Bool} {fuel : Nat} {cs : List Value} {x : DataW H × List MemPlace} (h : DataW.trod enc Tryz.prog w base spare held fuel 51 cs = some x) :
    ∃ e : Wri, cs = WC e ∧ e.key.size ≤ maxLen ∧ e.val.size ≤ maxLen := by
  obtain ⟨xs, n, _, _, hl, hxl, hf⟩ := DataW.trod_struct Tryz.underlying51 h
  rw [cellsW51] at hl
  match xs, hxl, cs, hl with
  | [y0, y1, y2], _, [v0, v1, v2], _ =>
    have g0 := hf 0 _ rfl
    have g1 := hf 1 _ rfl
    have g2 := hf 2 _ rfl
    simp [cellsW9, cellsW4] at g0 g1 g2
    obtain ⟨s0, h0, _, z0⟩ := DataW.trod_string Tryz.underlying9 g0
    obtain ⟨s1, h1, _, z1⟩ := DataW.trod_string Tryz.underlying9 g1
    obtain ⟨b2, h2, _⟩ := DataW.trod_bool Tryz.underlying4 g2
    simp only [List.cons.injEq, and_true] at h0 h1 h2
    subst h0 h1 h2
    exact ⟨⟨s0, s1, b2⟩, rfl, z0, z1⟩
set_option maxRecDepth 100000 in
theorem open_wris {H : Type} {enc : TypeId × Value → H} {w : World} {held : Bool} {v : Value} {d : DataW H} {ps : List MemPlace} (h : DataW.Trod enc Tryz.prog w 0 (fun _ => true) held 27 v d ps) (hv : ∃ a len cap, v = .slice a len cap) :
    ∃ es, RdW w v es ∧ ∀ e ∈ es, e.key.size ≤ maxLen ∧ e.val.size ≤ maxLen := by
  obtain ⟨fuel, hf⟩ := h
  obtain ⟨a0, len0, cap0, rfl⟩ := hv
  rcases Deep.open_slice Tryz.underlying27 hf with ⟨hcs, _⟩ | ⟨a, len, cap, m, n, D, Pl, hcs, _, hl, hm, hmm, _, hx⟩
  · simp [Value.cells] at hcs
    obtain ⟨rfl, rfl, rfl⟩ := hcs
    exact ⟨[], rdW_nil w, fun e he => by cases he⟩
  · simp [Value.cells] at hcs
    obtain ⟨rfl, rfl, rfl⟩ := hcs
    simp only [if_true] at hmm
    subst hmm
    have each : ∀ i, i < m → ∃ e : Wri, w.cells? 0 (a.add (i * 3)) 3 = some (WC e) ∧ e.key.size ≤ maxLen ∧ e.val.size ≤ maxLen := by
      intro i hi
      obtain ⟨cs', h1, h2⟩ := hx i hi
      rw [cellsW51] at h1
      obtain ⟨e, rfl, he⟩ := open_wri h2
      exact ⟨e, h1, he⟩
    obtain ⟨q, hq⟩ := Deep.choose_lt each
    obtain ⟨b, off, spot⟩ := a
    refine ⟨(List.range len0).map q, ⟨some ⟨b, off, spot⟩, m, by simp, by simpa using hl, hm, (fun h => by cases h), ?_⟩, fun e he => ?_⟩
    · by_cases h0 : len0 = 0
      · left; simp [h0]
      · right
        obtain ⟨_, _, hc0⟩ := World.cells?_some (hq 0 (by omega)).1
        have hc00 := hc0 0 (by omega)
        rw [Deep.add_add] at hc00
        have hc01 : w.cell? ((⟨b, off, spot⟩ : Addr).add 0) = some (.string (q 0).key) := hc00
        have hspot : spot = none := by
          have := World.cell?_spot hc01
          cases spot with
          | none => rfl
          | some sp => simp [Addr.add] at this
        subst hspot
        refine ⟨b, off, rfl, fun i hi => ?_⟩
        have hi' : i < len0 := by simpa using hi
        have hn : nthW ((List.range len0).map q) i = q i := by rw [nthW_eq hi]; simp
        rw [hn]
        obtain ⟨_, _, hc⟩ := World.cells?_some (hq i (by omega)).1
        have c0 := hc 0 (by omega)
        have c1 := hc 1 (by omega)
        have c2 := hc 2 (by omega)
        rw [Deep.add_add, Addr.add_lit] at c0 c1 c2
        exact ⟨by simpa [WC] using c0, by simpa [WC, Nat.add_assoc] using c1, by simpa [WC, Nat.add_assoc] using c2⟩
    · simp only [List.mem_map, List.mem_range] at he
      obtain ⟨i, hi, rfl⟩ := he
      exact (hq i (by omega)).2
end Go.Proofs.YtbefmbjlogkmbaaGreat
namespace Go.Proofs.YtbefmbjlogkmbaaGreat
open Go.RowKit
set_option maxHeartbeats 4000000 in
set_option maxRecDepth 100000 in
theorem wmark_any (v : Value) (bs : List Wri) (base k : Nat) (w : World) (hk0 : 0 < k) (hkb : k ≤ 1073741824) (hk : bs = [] ∨ k + 3 * bs.length ≤ 4194305) (hown : OwnW w base v bs) :
    Calls Tryz.prog 15 #[v, .int .i64 (k : Int)] w fun e w' => e = .returned (.int .i64 ((k + 3 * bs.length : Nat) : Int)) ∧ w.grownBy w' v.ownBlock := by
  obtain ⟨g, cap, hv⟩ | ⟨hv, h0⟩ : (∃ g cap, v = .slice (some ⟨g, 0, none⟩) bs.length cap) ∨ (v = .slice none 0 0 ∧ bs = []) := by
    rcases hown.2 with ⟨rfl, h0⟩ | ⟨g, cap, cur, rfl, _⟩
    · exact .inr ⟨rfl, List.length_eq_zero_iff.1 h0⟩
    · exact .inl ⟨g, cap, rfl⟩
  · subst hv
    obtain ⟨n, hn⟩ : ∃ n, n = bs.length := ⟨_, rfl⟩
    have hkn : n = 0 ∨ k + 3 * n ≤ 4194305 := by
      rcases hk with e | e
      · exact .inl (by rw [hn, e]; rfl)
      · exact .inr (by rw [hn]; exact e)
    unfold OwnW at hown
    rw [← hn] at hown ⊢
    have HN : Hid (n = bs.length) := hn
    clear hk hn
    go_enter Tryz.func15, Tryz.ntmps15
    go_wp2
    go_loopw [1, 5] (fun kk i wr => ∃ (j : Nat) (us : List Wri), j ≤ n ∧ i = .int .i64 j ∧ kk = .int .i64 ((k : Int) + 3 * (j : Int)) ∧ Hid (us.length = n) ∧ wr.ownsRow base 59 3 (.slice (some ⟨g, 0, none⟩) n cap) n (WV us) ∧ w.grownBy wr (some g)) (fun _ i _ => n - (intOf i).toNat)
    case atStart => exact ⟨0, bs, Nat.zero_le _, rfl, by simp, HN.out.symm, hown, egrownBy_one _ _⟩
    case round =>
      obtain ⟨j, us, hj, rfl, rfl, HL, ho, hg⟩ := hrel
      by_cases hlt : j < n
      · have hkn2 : k + 3 * n ≤ 4194305 := by omega
        have hjl : j < us.length := by rw [HL.out]; exact hlt
        go_wp2_with fail
        refine (markText_at _ (k + 3 * j) _ (by omega) (by omega) (by omega)).mono ?_
        rintro e1 w1 ⟨rfl, hb1⟩
        have ho1 := own_below ho hb1
        have d0 := (ownW_cell ho1 HL.out.symm j hlt).1
        have f0 := ho1.frozenAt (j * 3)
        have R1 := ownW_store ho1 (k := j) (j := 0) hjl (by omega) (u := .string (mk (k + 3 * j))) (e' := { nthW us j with key := mk (k + 3 * j) }) rfl
        have G1 : w.grownBy (w1.setCell ⟨g, j * 3, none⟩ (.string (mk (k + 3 * j)))) (some g) := emark_frame hg hb1
        have HL1 : Hid ((us.set j { nthW us j with key := mk (k + 3 * j) }).length = n) := by unfold Hid; rw [List.length_set]; exact HL.out
        generalize us.set j { nthW us j with key := mk (k + 3 * j) } = us1 at R1 HL1
        have H1 : Hid (World.ownsRow _ _ _ _ _ _ _) := R1
        clear ho ho1 hg hb1 R1 hjl
        go_wp2_with fail
        refine (markText_at _ (k + 3 * j + 1) _ (by omega) (by omega) (by omega)).mono ?_
        rintro e2 w2 ⟨rfl, hb2⟩
        have ho2 := own_below H1.out hb2
        have hjl1 : j < us1.length := by rw [HL1.out]; exact hlt
        have d1 := (ownW_cell ho2 HL1.out.symm j hlt).2.1
        have f1 := ho2.frozenAt (j * 3 + 1)
        have R2 := ownW_store ho2 (k := j) (j := 1) hjl1 (by omega) (u := .string (mk (k + 3 * j + 1))) (e' := { nthW us1 j with val := mk (k + 3 * j + 1) }) rfl
        have G2 : w.grownBy (w2.setCell ⟨g, j * 3 + 1, none⟩ (.string (mk (k + 3 * j + 1)))) (some g) := emark_frame G1 hb2
        have HL2 : Hid ((us1.set j { nthW us1 j with val := mk (k + 3 * j + 1) }).length = n) := by unfold Hid; rw [List.length_set]; exact HL1.out
        generalize us1.set j { nthW us1 j with val := mk (k + 3 * j + 1) } = us2 at R2 HL2
        have hjl2 : j < us2.length := by rw [HL2.out]; exact hlt
        have d2 := (ownW_cell R2 HL2.out.symm j hlt).2.2
        have f2 := R2.frozenAt (j * 3 + 2)
        have R3 := ownW_store R2 (k := j) (j := 2) hjl2 (by omega) (u := .bool (((k : Int) + 3 * (j : Int) + 1 + 1) % 3 == 0)) (e' := { nthW us2 j with gone := (((k : Int) + 3 * (j : Int) + 1 + 1) % 3 == 0) }) rfl
        have HL3 : Hid ((us2.set j { nthW us2 j with gone := (((k : Int) + 3 * (j : Int) + 1 + 1) % 3 == 0) }).length = n) := by unfold Hid; rw [List.length_set]; exact HL2.out
        generalize us2.set j { nthW us2 j with gone := (((k : Int) + 3 * (j : Int) + 1 + 1) % 3 == 0) } = us3 at R3 HL3
        have H3 : Hid (World.ownsRow _ _ _ _ _ _ _) := R3
        clear ho2 R2 R3 H1 G1 hb2 hjl1 hjl2
        go_wp2
        go_roundw
        case rel => exact ⟨j + 1, us3, by omega, by go_num, by go_num, HL3, H3.out, emark_frame0 G2⟩
        case measure => simp [intOf]; omega
      · have hje : j = n := by omega
        subst hje
        go_wp2
        go_ret
        exact ⟨ret_intE (by omega), hg⟩
  · subst hv
    subst h0
    go_enter Tryz.func15, Tryz.ntmps15
    go_wp2
    refine wp_loop_rounds 1 ?_
    rw [rounds_succ]
    go_wp2
    go_ret
    exact ⟨rfl, egrownBy_one _ _⟩
end Go.Proofs.YtbefmbjlogkmbaaGreat
