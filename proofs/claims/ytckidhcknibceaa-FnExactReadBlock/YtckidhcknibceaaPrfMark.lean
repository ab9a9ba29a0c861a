/- The contracts of the laws' own marking of proofs, and of finding the marks again. -/
-- UNF Gen
import Derived.Test.YtckidhcknibceaaPrfCp
namespace Go.Proofs.Ytckidhcknibceaa
open Go.RowKit
def mkPr (k : Nat) (X : PrX) : PrX := ⟨⟨X.p.vw, X.p.nm, imarks k X.p.sv.length, imarks (k + X.p.sv.length) X.p.tg.length⟩, X.vs, X.vt⟩
def cntPr (X : PrX) : Nat := X.p.sv.length + X.p.tg.length
theorem prB_mk (k : Nat) (X : PrX) : prB (mkPr k X) = prB X := rfl
def MarkPr (w : World) (B k : Nat) (X : PrX) (e : Ending) (w' : World) : Prop := e = .returned (.int .i64 ((k + cntPr X : Nat) : Int)) ∧ OwnPr w' B (mkPr k X) ∧ Touch (prB X) w w'
set_option maxHeartbeats 4000000 in
set_option maxRecDepth 100000 in
theorem markProof_any (X : PrX) (B k : Nat) (w : World) (ho : OwnPr w B X) (hk : k + cntPr X ≤ 4194304) :
    Calls Try.prog 34 #[.agg #[.int .i64 X.p.vw, .int .i64 X.p.nm, X.vs, X.vt], .int .i64 (k : Int)] w fun e w' => MarkPr w B k X e w' := by
  unfold cntPr at hk
  have HS : Hid (∀ W, OwnI W B X.vs X.p.sv → Calls Try.prog 52 #[X.vs, .int .i64 (k : Int)] W fun e w' => e = .returned (.int .i64 ((k + X.p.sv.length : Nat) : Int)) ∧ OwnI w' B X.vs (imarks k X.p.sv.length) ∧ W.grownBy w' X.vs.ownBlock) := fun W h => imark_any _ _ B k W (by omega) h
  have HP : Hid (∀ W, OwnI W B X.vt X.p.tg → Calls Try.prog 52 #[X.vt, .int .i64 ((k + X.p.sv.length : Nat) : Int)] W fun e w' => e = .returned (.int .i64 ((k + X.p.sv.length + X.p.tg.length : Nat) : Int)) ∧ OwnI w' B X.vt (imarks (k + X.p.sv.length) X.p.tg.length) ∧ W.grownBy w' X.vt.ownBlock) := fun W h => imark_any _ _ B _ W (by omega) h
  have HE : Hid (k + cntPr X = k + X.p.sv.length + X.p.tg.length) := by unfold Hid cntPr; omega
  have NB : Hid (∀ q ∈ prB X, q < w.heap.size) := fun q hq => (ho.bound hq).2
  have AP : Hid (∀ q, X.vs.ownBlock = some q → X.vt.ownBlock = some q → False) := ho.two
  have t0 := bx_new w 30 #[.int .i64 X.p.vw, .int .i64 X.p.nm, X.vs, X.vt]
  have b0 := below1 w (.cells #[.int .i64 X.p.vw, .int .i64 X.p.nm, X.vs, X.vt] 30)
  have ho0 := ho.below b0
  have hb0 : w.heap.size < (w.alloc (.cells #[.int .i64 X.p.vw, .int .i64 X.p.nm, X.vs, X.vt] 30)).heap.size := by simp
  have T0 : Hid (Touch (prB X) w (w.alloc (.cells #[.int .i64 X.p.vw, .int .i64 X.p.nm, X.vs, X.vt] 30))) := Touch.of_below b0
  obtain ⟨q0, q1, q2, q3⟩ := t0.c4
  clear ho b0 hk
  obtain ⟨k1, hk1⟩ : ∃ k1, k1 = k + X.p.sv.length := ⟨_, rfl⟩
  rw [← hk1] at HS HP HE
  have HK1 : Hid (k1 = k + X.p.sv.length) := hk1
  clear hk1
  go_enter Try.func34, Try.ntmps34
  go_wp2_with fail
  generalize w.alloc (.cells #[.int .i64 X.p.vw, .int .i64 X.p.nm, X.vs, X.vt] 30) = W0 at t0 ho0 hb0 T0 q0 q1 q2 q3 ⊢
  refine (HS.out _ ho0.sv).mono ?_
  rintro e w1 ⟨rfl, hs1, hg1⟩
  have tch1 : Touch (oneB X.vs) W0 w1 := Touch.of_grown hg1 (fun q hq => mem_oneB.2 hq)
  have t1 : Bx w1 w.heap.size 30 #[.int .i64 X.p.vw, .int .i64 X.p.nm, X.vs, X.vt] := t0.touch tch1 (fun e => by have := NB.out _ (List.mem_append_left _ e); omega)
  have hl1 : OwnI w1 B X.vt X.p.tg := tch1.row ho0.tg (fun q hq e => AP.out q (mem_oneB.1 e) hq)
  have T1 : Hid (Touch (prB X) w w1) := T0.out.trans (tch1.more (fun q hq => List.mem_append_left _ hq))
  clear t0 ho0 hb0 T0 q0 q1 q2 q3 tch1 hg1 HS
  obtain ⟨q0, q1, q2, q3⟩ := t1.c4
  go_wp2_with fail
  refine (HP.out _ hl1).mono ?_
  rintro e w2 ⟨rfl, hl2, hg2⟩
  have tch2 : Touch (oneB X.vt) w1 w2 := Touch.of_grown hg2 (fun q hq => mem_oneB.2 hq)
  have hs2 : OwnI w2 B X.vs (imarks k X.p.sv.length) := tch2.row hs1 (fun q hq e => AP.out q hq (mem_oneB.1 e))
  have T2 : Hid (Touch (prB X) w w2) := T1.out.trans (tch2.more (fun q hq => List.mem_append_right _ hq))
  have END : Hid (MarkPr w B k X (.returned (.int .i64 ((k1 + X.p.tg.length : Nat) : Int))) w2) := by
    refine ⟨by rw [HE.out], ⟨hs2, ?_, AP.out⟩, T2.out⟩
    show OwnI w2 B X.vt (imarks (k + X.p.sv.length) X.p.tg.length)
    rw [← HK1.out]
    exact hl2
  clear t1 hl1 T1 q0 q1 q2 q3 tch2 hg2 HP hs1 hs2 hl2 T2
  go_wp2
  go_ret
  exact END.out
set_option maxHeartbeats 4000000 in
set_option maxRecDepth 100000 in
theorem heldProof_any (X : PrX) (k : Nat) (w : World) (hr : RdPr w (mkPr k X)) (hk : k + cntPr X ≤ 4194304) :
    Calls Try.prog 36 #[.agg #[.int .i64 X.p.vw, .int .i64 X.p.nm, X.vs, X.vt], .int .i64 (k : Int)] w fun e w' => e = .returned (.int .i64 ((k + cntPr X : Nat) : Int)) ∧ Below w.heap.size w w' := by
  unfold cntPr at hk
  obtain ⟨hs, hl⟩ := hr
  change RdI w X.vs (imarks k X.p.sv.length) at hs
  change RdI w X.vt (imarks (k + X.p.sv.length) X.p.tg.length) at hl
  obtain ⟨k1, hk1⟩ : ∃ k1, k1 = k + X.p.sv.length := ⟨_, rfl⟩
  rw [← hk1] at hl
  have HS : Hid (∀ W, RdI W X.vs (imarks k X.p.sv.length) → Calls Try.prog 54 #[X.vs, .int .i64 (k : Int)] W fun e w' => e = .returned (.int .i64 (k1 : Int)) ∧ w' = W) := fun W h => by
    have := iheld_any _ _ k W (by omega) h
    rw [hk1]
    exact this
  have HP : Hid (∀ W, RdI W X.vt (imarks k1 X.p.tg.length) → Calls Try.prog 54 #[X.vt, .int .i64 (k1 : Int)] W fun e w' => e = .returned (.int .i64 ((k1 + X.p.tg.length : Nat) : Int)) ∧ w' = W) := fun W h => iheld_any _ _ _ W (by omega) h
  have HE : Hid (k + cntPr X = k1 + X.p.tg.length) := by unfold Hid cntPr; omega
  have hn1 : ¬ ((k1 : Int) < 0) := by omega
  have hn2 : ¬ ((k1 + X.p.tg.length : Nat) : Int) < 0 := by omega
  have t0 := bx_new w 30 #[.int .i64 X.p.vw, .int .i64 X.p.nm, X.vs, X.vt]
  have b0 := below1 w (.cells #[.int .i64 X.p.vw, .int .i64 X.p.nm, X.vs, X.vt] 30)
  obtain ⟨q0, q1, q2, q3⟩ := t0.c4
  rw [HE.out]
  generalize (k1 + X.p.tg.length : Nat) = k2 at HP hn2 ⊢
  clear hk1 hk HE
  go_enter Try.func36, Try.ntmps36
  go_wp2_with fail
  refine (HS.out _ (hs.below b0)).mono ?_
  rintro e w1 ⟨rfl, hw1⟩
  subst hw1
  go_wp2_with fail
  refine (HP.out _ (hl.below b0)).mono ?_
  rintro e w2 ⟨rfl, hw2⟩
  subst hw2
  clear t0 q0 q1 q2 q3 HP
  go_wp2
  go_ret
  exact ⟨rfl, b0⟩
end Go.Proofs.Ytckidhcknibceaa
