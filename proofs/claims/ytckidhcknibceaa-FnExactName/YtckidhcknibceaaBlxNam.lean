/- The contracts of both Names of a block. -/
-- UNF Gen
import Derived.Test.YtckidhcknibceaaBlxSj
import Derived.Test.YtckidhcknibceaaDig
namespace Go.Proofs.Ytckidhcknibceaa
open Go.RowKit
/-- A block's name: the digest of what shows it, 1 where that is 0. -/
def namN (b : Blk) : Int := max 1 (dig 1 (shwB b) : Int)
/-- -1 where it cannot be shown. -/
def namZ (b : Blk) : Int := if shwB b = [] then -1 else namN b
theorem namN_in (b : Blk) : 1 ≤ namN b ∧ namN b ≤ 2147483646 := by
  have h := dig_lt (shwB b) 1 (by omega)
  unfold namN
  omega
set_option maxHeartbeats 400000 in
set_option maxRecDepth 100000 in
theorem l1MaxN_any (a b : Int) (w : World) : Calls Try.prog 55 #[.int .i64 a, .int .i64 b] w fun e w' => e = .returned (.int .i64 (max a b)) ∧ w' = w := by
  by_cases h : b < a
  · go_enter Try.func55, Try.ntmps55
    go_wp2
    go_ret
    exact ⟨ret_intE (by omega), rfl⟩
  · have hd : decide (b < a) = false := by simpa using h
    have h2 : a ≤ b := by omega
    clear h
    go_enter Try.func55, Try.ntmps55
    go_wp2
    go_ret
    exact ⟨ret_intE (by omega), rfl⟩
theorem shw_size (b : Blk) : (⟨(shwB b).toArray⟩ : ByteArray).size ≤ 1099511627776 := by
  have := shwB_len b
  show (shwB b).toArray.size ≤ _
  rw [List.size_toArray]
  omega
theorem shw_list (b : Blk) : (⟨(shwB b).toArray⟩ : ByteArray).data.toList = shwB b := by simp
theorem shw_nil (b : Blk) : (⟨(shwB b).toArray⟩ : ByteArray).toList.isEmpty = decide (shwB b = []) := by
  rw [ByteArray.toList_eq]
  cases h : shwB b with
  | nil => rfl
  | cons a l => simp
set_option maxHeartbeats 2000000 in
set_option maxRecDepth 100000 in
theorem l15NameOf_any (X : BlX) (w : World) (hr : RdBl w X) (hz : ∀ s ∈ X.b.mo, s.size ≤ 1048576) :
    Calls Try.prog 38 #[.agg #[.int .i64 X.b.vw, .int .i64 X.b.pa, .int .i64 X.b.p.vw, .int .i64 X.b.p.nm, X.vs, X.vt, X.vm, .int .i64 X.b.sv]] w fun e w' => e = .returned (.int .i64 (namN X.b)) ∧ Below w.heap.size w w' := by
  have HSH : Hid (∀ W, Below w.heap.size w W → Calls Try.prog 7 #[.agg #[.int .i64 X.b.vw, .int .i64 X.b.pa, .int .i64 X.b.p.vw, .int .i64 X.b.p.nm, X.vs, X.vt, X.vm, .int .i64 X.b.sv]] W fun e w' => e = .returned (.string ⟨(shwB X.b).toArray⟩) ∧ Below W.heap.size W w') := fun W hb => specShow_any X W (hr.below hb) hz
  have t0 := bx_new w 32 #[.int .i64 X.b.vw, .int .i64 X.b.pa, .int .i64 X.b.p.vw, .int .i64 X.b.p.nm, X.vs, X.vt, X.vm, .int .i64 X.b.sv]
  have b0 := below1 w (.cells #[.int .i64 X.b.vw, .int .i64 X.b.pa, .int .i64 X.b.p.vw, .int .i64 X.b.p.nm, X.vs, X.vt, X.vm, .int .i64 X.b.sv] 32)
  obtain ⟨S, hS⟩ : ∃ S : ByteArray, S = ⟨(shwB X.b).toArray⟩ := ⟨_, rfl⟩
  have HSZ : Hid (S.size ≤ 1099511627776) := by unfold Hid; rw [hS]; exact shw_size X.b
  have HN : Hid (max 1 (dig 1 S.data.toList : Int) = namN X.b) := by unfold Hid; rw [hS, shw_list]; rfl
  rw [← hS] at HSH
  clear hS
  obtain ⟨d, hd⟩ : ∃ d : Nat, d = dig 1 S.data.toList := ⟨_, rfl⟩
  have HDG : Hid (∀ W, Calls Try.prog 56 #[.string S] W fun e w' => e = .returned (.int .i64 (d : Int)) ∧ w' = W) := fun W => by rw [hd]; exact specDigest_any S W HSZ.out
  have HN2 : Hid (max 1 (d : Int) = namN X.b) := by unfold Hid; rw [hd]; exact HN.out
  clear hd HN
  obtain ⟨q0, q1, q2, q3, q4, q5, q6, q7⟩ := t0.c8
  go_enter Try.func38, Try.ntmps38
  go_wp2_with fail
  refine (HSH.out _ b0).mono ?_
  rintro e w1 ⟨rfl, hb1⟩
  have b1 := b0.trans (hb1.mono b0.size)
  clear q0 q1 q2 q3 q4 q5 q6 q7 hb1 t0 b0
  go_wp2_with fail
  refine (HDG.out _).mono ?_
  rintro e w2 ⟨rfl, rfl⟩
  go_wp2_with fail
  refine (l1MaxN_any 1 (d : Int) _).mono ?_
  rintro e w3 ⟨rfl, rfl⟩
  rw [HN2.out]
  go_wp2
  go_ret
  exact ⟨rfl, b1⟩
set_option maxHeartbeats 2000000 in
set_option maxRecDepth 100000 in
theorem specName_any (X : BlX) (w : World) (hr : RdBl w X) (hz : ∀ s ∈ X.b.mo, s.size ≤ 1048576) :
    Calls Try.prog 15 #[.agg #[.int .i64 X.b.vw, .int .i64 X.b.pa, .int .i64 X.b.p.vw, .int .i64 X.b.p.nm, X.vs, X.vt, X.vm, .int .i64 X.b.sv]] w fun e w' => e = .returned (.int .i64 (namZ X.b)) ∧ Below w.heap.size w w' := by
  have HSH : Hid (∀ W, Below w.heap.size w W → Calls Try.prog 7 #[.agg #[.int .i64 X.b.vw, .int .i64 X.b.pa, .int .i64 X.b.p.vw, .int .i64 X.b.p.nm, X.vs, X.vt, X.vm, .int .i64 X.b.sv]] W fun e w' => e = .returned (.string ⟨(shwB X.b).toArray⟩) ∧ Below W.heap.size W w') := fun W hb => specShow_any X W (hr.below hb) hz
  have HNO : Hid (∀ W, Below w.heap.size w W → Calls Try.prog 38 #[.agg #[.int .i64 X.b.vw, .int .i64 X.b.pa, .int .i64 X.b.p.vw, .int .i64 X.b.p.nm, X.vs, X.vt, X.vm, .int .i64 X.b.sv]] W fun e w' => e = .returned (.int .i64 (namN X.b)) ∧ Below W.heap.size W w') := fun W hb => l15NameOf_any X W (hr.below hb) hz
  have t0 := bx_new w 32 #[.int .i64 X.b.vw, .int .i64 X.b.pa, .int .i64 X.b.p.vw, .int .i64 X.b.p.nm, X.vs, X.vt, X.vm, .int .i64 X.b.sv]
  have b0 := below1 w (.cells #[.int .i64 X.b.vw, .int .i64 X.b.pa, .int .i64 X.b.p.vw, .int .i64 X.b.p.nm, X.vs, X.vt, X.vm, .int .i64 X.b.sv] 32)
  obtain ⟨S, hS⟩ : ∃ S : ByteArray, S = ⟨(shwB X.b).toArray⟩ := ⟨_, rfl⟩
  have HE : Hid (S.toList.isEmpty = decide (shwB X.b = [])) := by unfold Hid; rw [hS]; exact shw_nil X.b
  rw [← hS] at HSH
  clear hS
  obtain ⟨q0, q1, q2, q3, q4, q5, q6, q7⟩ := t0.c8
  go_enter Try.func15, Try.ntmps15
  go_wp2_with fail
  refine (HSH.out _ b0).mono ?_
  rintro e w1 ⟨rfl, hb1⟩
  have b1 := b0.trans (hb1.mono b0.size)
  have t1 := t0.below hb1
  clear q0 q1 q2 q3 q4 q5 q6 q7 hb1 t0 b0
  obtain ⟨q0, q1, q2, q3, q4, q5, q6, q7⟩ := t1.c8
  cases hE : S.toList.isEmpty with
  | true =>
    have RES : Hid (namZ X.b = -1) := by unfold Hid namZ; rw [if_pos (of_decide_eq_true (HE.out.symm.trans hE))]
    go_wp2
    go_ret
    exact ⟨ret_intE RES.out.symm, b1⟩
  | false =>
    have RES : Hid (namZ X.b = namN X.b) := by unfold Hid namZ; rw [if_neg (of_decide_eq_false (HE.out.symm.trans hE))]
    go_wp2_with fail
    refine (HNO.out _ b1).mono ?_
    rintro e w2 ⟨rfl, hb2⟩
    have b2 := b1.trans (hb2.mono b1.size)
    clear q0 q1 q2 q3 q4 q5 q6 q7
    go_wp2
    go_ret
    exact ⟨ret_intE RES.out.symm, b2⟩
set_option maxHeartbeats 2000000 in
set_option maxRecDepth 100000 in
theorem implName_any (X : BlX) (w : World) (hr : RdBl w X) (hz : ∀ s ∈ X.b.mo, s.size ≤ 1048576) :
    Calls Try.prog 16 #[.agg #[.int .i64 X.b.vw, .int .i64 X.b.pa, .int .i64 X.b.p.vw, .int .i64 X.b.p.nm, X.vs, X.vt, X.vm, .int .i64 X.b.sv]] w fun e w' => e = .returned (.int .i64 (namZ X.b)) ∧ Below w.heap.size w w' := by
  have HSH : Hid (∀ W, Below w.heap.size w W → Calls Try.prog 9 #[.agg #[.int .i64 X.b.vw, .int .i64 X.b.pa, .int .i64 X.b.p.vw, .int .i64 X.b.p.nm, X.vs, X.vt, X.vm, .int .i64 X.b.sv]] W fun e w' => e = .returned (.string ⟨(shwB X.b).toArray⟩) ∧ Below W.heap.size W w') := fun W hb => implShow_any X W (hr.below hb) hz
  have t0 := bx_new w 32 #[.int .i64 X.b.vw, .int .i64 X.b.pa, .int .i64 X.b.p.vw, .int .i64 X.b.p.nm, X.vs, X.vt, X.vm, .int .i64 X.b.sv]
  have b0 := below1 w (.cells #[.int .i64 X.b.vw, .int .i64 X.b.pa, .int .i64 X.b.p.vw, .int .i64 X.b.p.nm, X.vs, X.vt, X.vm, .int .i64 X.b.sv] 32)
  obtain ⟨S, hS⟩ : ∃ S : ByteArray, S = ⟨(shwB X.b).toArray⟩ := ⟨_, rfl⟩
  have HE : Hid (S.toList.isEmpty = decide (shwB X.b = [])) := by unfold Hid; rw [hS]; exact shw_nil X.b
  have HSZ : Hid (S.size ≤ 1099511627776) := by unfold Hid; rw [hS]; exact shw_size X.b
  have HN : Hid (max 1 (dig 1 S.data.toList : Int) = namN X.b) := by unfold Hid; rw [hS, shw_list]; rfl
  rw [← hS] at HSH
  clear hS
  obtain ⟨q0, q1, q2, q3, q4, q5, q6, q7⟩ := t0.c8
  go_enter Try.func16, Try.ntmps16
  go_wp2_with fail
  refine (HSH.out _ b0).mono ?_
  rintro e w1 ⟨rfl, hb1⟩
  have b1 := b0.trans (hb1.mono b0.size)
  clear q0 q1 q2 q3 q4 q5 q6 q7 hb1 t0 b0
  cases hE : S.toList.isEmpty with
  | true =>
    have RES : Hid (namZ X.b = -1) := by unfold Hid namZ; rw [if_pos (of_decide_eq_true (HE.out.symm.trans hE))]
    go_wp2
    go_ret
    exact ⟨ret_intE RES.out.symm, b1⟩
  | false =>
    have RES : Hid (namZ X.b = namN X.b) := by unfold Hid namZ; rw [if_neg (of_decide_eq_false (HE.out.symm.trans hE))]
    go_wp2_with fail
    refine (implDigest_any S _ HSZ.out).mono ?_
    rintro e w2 ⟨rfl, hb2⟩
    have b2 := b1.trans (hb2.mono b1.size)
    obtain ⟨d, hd⟩ : ∃ d : Nat, d = dig 1 S.data.toList := ⟨_, rfl⟩
    rw [← hd] at HN ⊢
    have R2 : Hid (namZ X.b = max 1 (d : Int)) := RES.out.trans HN.out.symm
    clear hd hb2
    go_wp2
    all_goals (go_ret; exact ⟨ret_intE (by rw [R2.out]; omega), b2⟩)
end Go.Proofs.Ytckidhcknibceaa
