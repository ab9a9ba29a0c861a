/- The contracts of the laws' own marking of blocks, and of finding the marks again. -/
-- UNF Gen
import Derived.Test.YtckidhcknibceaaPrfMark
import Derived.Test.YtckidhcknibceaaBlxEq
namespace Go.Proofs.Ytckidhcknibceaa
open Go.RowKit
def cntBl (X : BlX) : Nat := cntPr X.pr + X.b.mo.length
def mkBl (k : Nat) (X : BlX) : BlX := ⟨⟨X.b.vw, X.b.pa, (mkPr k X.pr).p, smarks (k + cntPr X.pr) X.b.mo.length, X.b.sv⟩, X.vs, X.vt, X.vm⟩
def MarkBl (w : World) (B k : Nat) (X : BlX) (e : Ending) (w' : World) : Prop := e = .returned (.int .i64 ((k + cntBl X : Nat) : Int)) ∧ OwnBl w' B (mkBl k X) ∧ Touch (blB X) w w'
set_option maxHeartbeats 4000000 in
set_option maxRecDepth 100000 in
theorem markBlock_any (X : BlX) (B k : Nat) (w : World) (ho : OwnBl w B X) (hk0 : 0 < k) (hk : k + cntBl X ≤ 4194304) :
    Calls Try.prog 13 #[.agg #[.int .i64 X.b.vw, .int .i64 X.b.pa, .int .i64 X.b.p.vw, .int .i64 X.b.p.nm, X.vs, X.vt, X.vm, .int .i64 X.b.sv], .int .i64 (k : Int)] w fun e w' => MarkBl w B k X e w' := by
  unfold cntBl at hk
  have HP : Hid (∀ W, OwnPr W B X.pr → Calls Try.prog 34 #[.agg #[.int .i64 X.b.p.vw, .int .i64 X.b.p.nm, X.vs, X.vt], .int .i64 (k : Int)] W fun e w' => MarkPr W B k X.pr e w') := fun W h => markProof_any X.pr B k W h (by omega)
  have HM : Hid (∀ W, OwnS W B X.vm X.b.mo → Calls Try.prog 35 #[X.vm, .int .i64 ((k + cntPr X.pr : Nat) : Int)] W fun e w' => e = .returned (.int .i64 ((k + cntPr X.pr + X.b.mo.length : Nat) : Int)) ∧ OwnS w' B X.vm (smarks (k + cntPr X.pr) X.b.mo.length) ∧ W.grownBy w' X.vm.ownBlock) := fun W h => smark_any _ _ B _ W (by omega) (by omega) h
  have HE : Hid (k + cntBl X = k + cntPr X.pr + X.b.mo.length) := by unfold Hid cntBl; omega
  have NB : Hid (∀ q ∈ blB X, q < w.heap.size) := fun q hq => (ho.bound hq).2
  have AP : Hid (OwnBl w B X) := ho
  have t0 := bx_new w 32 #[.int .i64 X.b.vw, .int .i64 X.b.pa, .int .i64 X.b.p.vw, .int .i64 X.b.p.nm, X.vs, X.vt, X.vm, .int .i64 X.b.sv]
  have b0 := below1 w (.cells #[.int .i64 X.b.vw, .int .i64 X.b.pa, .int .i64 X.b.p.vw, .int .i64 X.b.p.nm, X.vs, X.vt, X.vm, .int .i64 X.b.sv] 32)
  have ho0 := OwnBl.below ho b0
  have T0 : Hid (Touch (blB X) w (w.alloc (.cells #[.int .i64 X.b.vw, .int .i64 X.b.pa, .int .i64 X.b.p.vw, .int .i64 X.b.p.nm, X.vs, X.vt, X.vm, .int .i64 X.b.sv] 32))) := Touch.of_below b0
  obtain ⟨q0, q1, q2, q3, q4, q5, q6, q7⟩ := t0.c8
  clear ho b0 hk hk0
  obtain ⟨k1, hk1⟩ : ∃ k1, k1 = k + cntPr X.pr := ⟨_, rfl⟩
  rw [← hk1] at HM HE
  have HK1 : Hid (k1 = k + cntPr X.pr) := hk1
  clear hk1
  go_enter Try.func13, Try.ntmps13
  go_wp2_with fail
  generalize w.alloc (.cells #[.int .i64 X.b.vw, .int .i64 X.b.pa, .int .i64 X.b.p.vw, .int .i64 X.b.p.nm, X.vs, X.vt, X.vm, .int .i64 X.b.sv] 32) = W0 at t0 ho0 T0 q0 q1 q2 q3 q4 q5 q6 q7 ⊢
  refine (HP.out _ ho0.pr).mono ?_
  rintro e w1 ⟨rfl, hp1, tch1⟩
  rw [← HK1.out]
  have hbl : ∀ q ∈ prB X.pr, q ∈ blB X := fun q hq => List.mem_append_left _ hq
  have t1 : Bx w1 w.heap.size 32 #[.int .i64 X.b.vw, .int .i64 X.b.pa, .int .i64 X.b.p.vw, .int .i64 X.b.p.nm, X.vs, X.vt, X.vm, .int .i64 X.b.sv] := t0.touch tch1 (fun e => by have := NB.out _ (hbl _ e); omega)
  have hm1 : OwnS w1 B X.vm X.b.mo := tch1.row ho0.mo (fun q hq e => by
    rcases List.mem_append.1 e with e | e
    · exact AP.out.apS q (mem_oneB.1 e) hq
    · exact AP.out.apT q (mem_oneB.1 e) hq)
  have T1 : Hid (Touch (blB X) w w1) := T0.out.trans (tch1.more hbl)
  have HP1 : Hid (OwnPr w1 B (mkPr k X.pr)) := hp1
  clear t0 ho0 T0 q0 q1 q2 q3 q4 q5 q6 q7 tch1 HP hp1 hbl
  obtain ⟨-, -, -, -, -, -, q6, -⟩ := t1.c8
  go_wp2_with fail
  refine (HM.out _ hm1).mono ?_
  rintro e w2 ⟨rfl, hm2, hg2⟩
  have tch2 : Touch (oneB X.vm) w1 w2 := Touch.of_grown hg2 (fun q hq => mem_oneB.2 hq)
  have hp2 : OwnPr w2 B (mkPr k X.pr) := HP1.out.touch tch2 (fun q hq e => by
    rw [prB_mk] at hq
    rcases List.mem_append.1 hq with hq | hq
    · exact AP.out.apS q (mem_oneB.1 hq) (mem_oneB.1 e)
    · exact AP.out.apT q (mem_oneB.1 hq) (mem_oneB.1 e))
  have END : Hid (MarkBl w B k X (.returned (.int .i64 ((k1 + X.b.mo.length : Nat) : Int))) w2) := by
    refine ⟨by rw [HE.out], ⟨hp2, ?_, AP.out.apS, AP.out.apT⟩, T1.out.trans (tch2.more (fun q hq => List.mem_append_right _ hq))⟩
    show OwnS w2 B X.vm (smarks (k + cntPr X.pr) X.b.mo.length)
    rw [← HK1.out]
    exact hm2
  clear t1 hm1 T1 q6 tch2 hg2 HM hm2 hp2 HP1
  go_wp2
  go_ret
  exact END.out
set_option maxHeartbeats 4000000 in
set_option maxRecDepth 100000 in
theorem heldBlock_any (X : BlX) (k : Nat) (w : World) (hr : RdBl w (mkBl k X)) (hk0 : 0 < k) (hk : k + cntBl X ≤ 4194304) :
    Calls Try.prog 14 #[.agg #[.int .i64 X.b.vw, .int .i64 X.b.pa, .int .i64 X.b.p.vw, .int .i64 X.b.p.nm, X.vs, X.vt, X.vm, .int .i64 X.b.sv], .int .i64 (k : Int)] w fun e w' => e = .returned (.int .i64 ((k + cntBl X : Nat) : Int)) ∧ Below w.heap.size w w' := by
  unfold cntBl at hk
  obtain ⟨hp, hm⟩ := hr
  change RdPr w (mkPr k X.pr) at hp
  change RdS w X.vm (smarks (k + cntPr X.pr) X.b.mo.length) at hm
  have HP : Hid (∀ W, RdPr W (mkPr k X.pr) → Calls Try.prog 36 #[.agg #[.int .i64 X.b.p.vw, .int .i64 X.b.p.nm, X.vs, X.vt], .int .i64 (k : Int)] W fun e w' => e = .returned (.int .i64 ((k + cntPr X.pr : Nat) : Int)) ∧ Below W.heap.size W w') := fun W h => heldProof_any X.pr k W h (by omega)
  obtain ⟨k1, hk1⟩ : ∃ k1, k1 = k + cntPr X.pr := ⟨_, rfl⟩
  rw [← hk1] at hm HP
  have HM : Hid (∀ W, RdS W X.vm (smarks k1 X.b.mo.length) → Calls Try.prog 37 #[X.vm, .int .i64 (k1 : Int)] W fun e w' => e = .returned (.int .i64 ((k1 + X.b.mo.length : Nat) : Int)) ∧ Below W.heap.size W w') := fun W h => sheld_any _ _ k1 W (by omega) (by omega) h
  have HE : Hid (k + cntBl X = k1 + X.b.mo.length) := by unfold Hid cntBl; omega
  have hn1 : ¬ ((k1 : Int) < 0) := by omega
  have hn2 : ¬ ((k1 + X.b.mo.length : Nat) : Int) < 0 := by omega
  have t0 := bx_new w 32 #[.int .i64 X.b.vw, .int .i64 X.b.pa, .int .i64 X.b.p.vw, .int .i64 X.b.p.nm, X.vs, X.vt, X.vm, .int .i64 X.b.sv]
  have b0 := below1 w (.cells #[.int .i64 X.b.vw, .int .i64 X.b.pa, .int .i64 X.b.p.vw, .int .i64 X.b.p.nm, X.vs, X.vt, X.vm, .int .i64 X.b.sv] 32)
  have HM0 : Hid (RdS w X.vm (smarks k1 X.b.mo.length)) := hm
  obtain ⟨q0, q1, q2, q3, q4, q5, q6, q7⟩ := t0.c8
  rw [HE.out]
  generalize (k1 + X.b.mo.length : Nat) = k2 at HM hn2 ⊢
  clear hk1 hk HE hm
  go_enter Try.func14, Try.ntmps14
  go_wp2_with fail
  refine (HP.out _ (hp.below b0)).mono ?_
  rintro e w1 ⟨rfl, hb1⟩
  have t1 := t0.below hb1
  have b1 := b0.trans (hb1.mono b0.size)
  clear t0 q0 q1 q2 q3 q4 q5 q6 q7 HP hb1
  obtain ⟨-, -, -, -, -, -, q6, -⟩ := t1.c8
  go_wp2_with fail
  refine (HM.out _ (HM0.out.below b1)).mono ?_
  rintro e w2 ⟨rfl, hb2⟩
  clear t1 q6 HM
  go_wp2
  go_ret
  exact ⟨rfl, b1.trans (hb2.mono b1.size)⟩
end Go.Proofs.Ytckidhcknibceaa
