/- The contracts of the laws' own marks of a Replica, and of finding them again. -/
import Derived.Test.YtilhaokiohbeeaaGreatDoorRepCp
import Derived.Test.YtilhaokiohbeeaaGreatDoorG13
import Derived.Test.YtilhaokiohbeeaaGreatDoorG14
import Derived.Test.YtilhaokiohbeeaaGreatDoorG15
-- UNF Gen
namespace Go.Proofs.YtilhaokiohbeeaaGreatDoor
open Go.RowKit
theorem nod_dis {a b : List Nat} (h : (a ++ b).Nodup) {q : Nat} (h1 : q ∈ a) (h2 : q ∈ b) : False := (List.nodup_append.1 h).2.2 q h1 q h2 rfl
theorem bblks_mk (k : Nat) (ts : List BlX) : bblks (bmkTo k ts ts.length) = bblks ts := by
  have h : ∀ n, n ≤ ts.length → bblks (bmkTo k ts n) = bblks (ts.take n) := by
    intro n
    induction n with
    | zero => intro _; rfl
    | succ n ih =>
      intro hn
      have e : bmkTo k ts (n + 1) = bmkTo k ts n ++ [mkB (k + cntB (ts.take n)) (nthBs ts n)] := by unfold bmkTo; rw [List.range_succ, List.map_append]; rfl
      rw [e, bblks_push, take_snocB (by omega), bblks_push, ih (by omega), blB_mk]
  rw [h _ (Nat.le_refl _), List.take_length]
theorem OwnRep.setHi {w w' : World} {B : Nat} {X : RepX} (h : OwnRep w B X) (Y : PrX) (ho : OwnPr w' B Y) (hk : prB Y = prB X.hi) (ht : Touch (prB X.hi) w w') : OwnRep w' B { X with hi := Y } := by
  have n0 := h.nod
  unfold repK at n0
  have n1 := (List.nodup_append.1 n0).2.1
  have n2 := (List.nodup_append.1 n1).2.1
  have n3 := (List.nodup_append.1 n2).2.1
  have d01 : ∀ q, q ∈ prB X.hi → q ∈ (oneB X.vb ++ bblks X.bs) → False := fun q h1 h2 => nod_dis n0 h1 (List.mem_append_left _ h2)
  have d02 : ∀ q, q ∈ prB X.hi → q ∈ oneB X.vv → False := fun q h1 h2 => nod_dis n0 h1 (List.mem_append_right _ (List.mem_append_left _ h2))
  have d03 : ∀ q, q ∈ prB X.hi → q ∈ oneB X.vn → False := fun q h1 h2 => nod_dis n0 h1 (List.mem_append_right _ (List.mem_append_right _ (List.mem_append_left _ h2)))
  have d04 : ∀ q, q ∈ prB X.hi → q ∈ oneB X.vd → False := fun q h1 h2 => nod_dis n0 h1 (List.mem_append_right _ (List.mem_append_right _ (List.mem_append_right _ h2)))
  have d12 : ∀ q, q ∈ (oneB X.vb ++ bblks X.bs) → q ∈ oneB X.vv → False := fun q h1 h2 => nod_dis n1 h1 (List.mem_append_left _ h2)
  have d13 : ∀ q, q ∈ (oneB X.vb ++ bblks X.bs) → q ∈ oneB X.vn → False := fun q h1 h2 => nod_dis n1 h1 (List.mem_append_right _ (List.mem_append_left _ h2))
  have d14 : ∀ q, q ∈ (oneB X.vb ++ bblks X.bs) → q ∈ oneB X.vd → False := fun q h1 h2 => nod_dis n1 h1 (List.mem_append_right _ (List.mem_append_right _ h2))
  have d23 : ∀ q, q ∈ oneB X.vv → q ∈ oneB X.vn → False := fun q h1 h2 => nod_dis n2 h1 (List.mem_append_left _ h2)
  have d24 : ∀ q, q ∈ oneB X.vv → q ∈ oneB X.vd → False := fun q h1 h2 => nod_dis n2 h1 (List.mem_append_right _ h2)
  have d34 : ∀ q, q ∈ oneB X.vn → q ∈ oneB X.vd → False := fun q h1 h2 => nod_dis n3 h1 h2
  exact ⟨ho, ht.row h.bl (fun q hq e => d01 q e (List.mem_append_left _ (mem_oneB.2 hq))), InOB.touch h.ib ht (fun q hq e => d01 q e (List.mem_append_right _ hq)), ht.row h.vo (fun q hq e => d02 q e (mem_oneB.2 hq)), ht.row h.nw (fun q hq e => d03 q e (mem_oneB.2 hq)), ht.row h.dn (fun q hq e => d04 q e (mem_oneB.2 hq)), by unfold repK; simp only; rw [hk]; exact n0⟩
theorem OwnRep.setBl {w w' : World} {B : Nat} {X : RepX} (h : OwnRep w B X) (Ys : List BlX) (ho : OwnBL w' B X.vb Ys) (hk : bblks Ys = bblks X.bs) (ht : Touch ((oneB X.vb ++ bblks X.bs)) w w') : OwnRep w' B { X with bs := Ys } := by
  have n0 := h.nod
  unfold repK at n0
  have n1 := (List.nodup_append.1 n0).2.1
  have n2 := (List.nodup_append.1 n1).2.1
  have n3 := (List.nodup_append.1 n2).2.1
  have d01 : ∀ q, q ∈ prB X.hi → q ∈ (oneB X.vb ++ bblks X.bs) → False := fun q h1 h2 => nod_dis n0 h1 (List.mem_append_left _ h2)
  have d02 : ∀ q, q ∈ prB X.hi → q ∈ oneB X.vv → False := fun q h1 h2 => nod_dis n0 h1 (List.mem_append_right _ (List.mem_append_left _ h2))
  have d03 : ∀ q, q ∈ prB X.hi → q ∈ oneB X.vn → False := fun q h1 h2 => nod_dis n0 h1 (List.mem_append_right _ (List.mem_append_right _ (List.mem_append_left _ h2)))
  have d04 : ∀ q, q ∈ prB X.hi → q ∈ oneB X.vd → False := fun q h1 h2 => nod_dis n0 h1 (List.mem_append_right _ (List.mem_append_right _ (List.mem_append_right _ h2)))
  have d12 : ∀ q, q ∈ (oneB X.vb ++ bblks X.bs) → q ∈ oneB X.vv → False := fun q h1 h2 => nod_dis n1 h1 (List.mem_append_left _ h2)
  have d13 : ∀ q, q ∈ (oneB X.vb ++ bblks X.bs) → q ∈ oneB X.vn → False := fun q h1 h2 => nod_dis n1 h1 (List.mem_append_right _ (List.mem_append_left _ h2))
  have d14 : ∀ q, q ∈ (oneB X.vb ++ bblks X.bs) → q ∈ oneB X.vd → False := fun q h1 h2 => nod_dis n1 h1 (List.mem_append_right _ (List.mem_append_right _ h2))
  have d23 : ∀ q, q ∈ oneB X.vv → q ∈ oneB X.vn → False := fun q h1 h2 => nod_dis n2 h1 (List.mem_append_left _ h2)
  have d24 : ∀ q, q ∈ oneB X.vv → q ∈ oneB X.vd → False := fun q h1 h2 => nod_dis n2 h1 (List.mem_append_right _ h2)
  have d34 : ∀ q, q ∈ oneB X.vn → q ∈ oneB X.vd → False := fun q h1 h2 => nod_dis n3 h1 h2
  exact ⟨OwnPr.touch h.hi ht (fun q hq e => d01 q hq e), ho.row, ho.ins, ht.row h.vo (fun q hq e => d12 q e (mem_oneB.2 hq)), ht.row h.nw (fun q hq e => d13 q e (mem_oneB.2 hq)), ht.row h.dn (fun q hq e => d14 q e (mem_oneB.2 hq)), by unfold repK; simp only; rw [hk]; exact n0⟩
theorem OwnRep.setVo {w w' : World} {B : Nat} {X : RepX} (h : OwnRep w B X) (Ys : List Vot) (ho : OwnVo w' B X.vv Ys)  (ht : Touch ((oneB X.vv)) w w') : OwnRep w' B { X with vs := Ys } := by
  have n0 := h.nod
  unfold repK at n0
  have n1 := (List.nodup_append.1 n0).2.1
  have n2 := (List.nodup_append.1 n1).2.1
  have n3 := (List.nodup_append.1 n2).2.1
  have d01 : ∀ q, q ∈ prB X.hi → q ∈ (oneB X.vb ++ bblks X.bs) → False := fun q h1 h2 => nod_dis n0 h1 (List.mem_append_left _ h2)
  have d02 : ∀ q, q ∈ prB X.hi → q ∈ oneB X.vv → False := fun q h1 h2 => nod_dis n0 h1 (List.mem_append_right _ (List.mem_append_left _ h2))
  have d03 : ∀ q, q ∈ prB X.hi → q ∈ oneB X.vn → False := fun q h1 h2 => nod_dis n0 h1 (List.mem_append_right _ (List.mem_append_right _ (List.mem_append_left _ h2)))
  have d04 : ∀ q, q ∈ prB X.hi → q ∈ oneB X.vd → False := fun q h1 h2 => nod_dis n0 h1 (List.mem_append_right _ (List.mem_append_right _ (List.mem_append_right _ h2)))
  have d12 : ∀ q, q ∈ (oneB X.vb ++ bblks X.bs) → q ∈ oneB X.vv → False := fun q h1 h2 => nod_dis n1 h1 (List.mem_append_left _ h2)
  have d13 : ∀ q, q ∈ (oneB X.vb ++ bblks X.bs) → q ∈ oneB X.vn → False := fun q h1 h2 => nod_dis n1 h1 (List.mem_append_right _ (List.mem_append_left _ h2))
  have d14 : ∀ q, q ∈ (oneB X.vb ++ bblks X.bs) → q ∈ oneB X.vd → False := fun q h1 h2 => nod_dis n1 h1 (List.mem_append_right _ (List.mem_append_right _ h2))
  have d23 : ∀ q, q ∈ oneB X.vv → q ∈ oneB X.vn → False := fun q h1 h2 => nod_dis n2 h1 (List.mem_append_left _ h2)
  have d24 : ∀ q, q ∈ oneB X.vv → q ∈ oneB X.vd → False := fun q h1 h2 => nod_dis n2 h1 (List.mem_append_right _ h2)
  have d34 : ∀ q, q ∈ oneB X.vn → q ∈ oneB X.vd → False := fun q h1 h2 => nod_dis n3 h1 h2
  exact ⟨OwnPr.touch h.hi ht (fun q hq e => d02 q hq e), ht.row h.bl (fun q hq e => d12 q (List.mem_append_left _ (mem_oneB.2 hq)) e), InOB.touch h.ib ht (fun q hq e => d12 q (List.mem_append_right _ hq) e), ho, ht.row h.nw (fun q hq e => d23 q e (mem_oneB.2 hq)), ht.row h.dn (fun q hq e => d24 q e (mem_oneB.2 hq)), by unfold repK; simp only; exact n0⟩
theorem OwnRep.setNw {w w' : World} {B : Nat} {X : RepX} (h : OwnRep w B X) (Ys : List Nws) (ho : OwnNw w' B X.vn Ys)  (ht : Touch ((oneB X.vn)) w w') : OwnRep w' B { X with ns := Ys } := by
  have n0 := h.nod
  unfold repK at n0
  have n1 := (List.nodup_append.1 n0).2.1
  have n2 := (List.nodup_append.1 n1).2.1
  have n3 := (List.nodup_append.1 n2).2.1
  have d01 : ∀ q, q ∈ prB X.hi → q ∈ (oneB X.vb ++ bblks X.bs) → False := fun q h1 h2 => nod_dis n0 h1 (List.mem_append_left _ h2)
  have d02 : ∀ q, q ∈ prB X.hi → q ∈ oneB X.vv → False := fun q h1 h2 => nod_dis n0 h1 (List.mem_append_right _ (List.mem_append_left _ h2))
  have d03 : ∀ q, q ∈ prB X.hi → q ∈ oneB X.vn → False := fun q h1 h2 => nod_dis n0 h1 (List.mem_append_right _ (List.mem_append_right _ (List.mem_append_left _ h2)))
  have d04 : ∀ q, q ∈ prB X.hi → q ∈ oneB X.vd → False := fun q h1 h2 => nod_dis n0 h1 (List.mem_append_right _ (List.mem_append_right _ (List.mem_append_right _ h2)))
  have d12 : ∀ q, q ∈ (oneB X.vb ++ bblks X.bs) → q ∈ oneB X.vv → False := fun q h1 h2 => nod_dis n1 h1 (List.mem_append_left _ h2)
  have d13 : ∀ q, q ∈ (oneB X.vb ++ bblks X.bs) → q ∈ oneB X.vn → False := fun q h1 h2 => nod_dis n1 h1 (List.mem_append_right _ (List.mem_append_left _ h2))
  have d14 : ∀ q, q ∈ (oneB X.vb ++ bblks X.bs) → q ∈ oneB X.vd → False := fun q h1 h2 => nod_dis n1 h1 (List.mem_append_right _ (List.mem_append_right _ h2))
  have d23 : ∀ q, q ∈ oneB X.vv → q ∈ oneB X.vn → False := fun q h1 h2 => nod_dis n2 h1 (List.mem_append_left _ h2)
  have d24 : ∀ q, q ∈ oneB X.vv → q ∈ oneB X.vd → False := fun q h1 h2 => nod_dis n2 h1 (List.mem_append_right _ h2)
  have d34 : ∀ q, q ∈ oneB X.vn → q ∈ oneB X.vd → False := fun q h1 h2 => nod_dis n3 h1 h2
  exact ⟨OwnPr.touch h.hi ht (fun q hq e => d03 q hq e), ht.row h.bl (fun q hq e => d13 q (List.mem_append_left _ (mem_oneB.2 hq)) e), InOB.touch h.ib ht (fun q hq e => d13 q (List.mem_append_right _ hq) e), ht.row h.vo (fun q hq e => d23 q (mem_oneB.2 hq) e), ho, ht.row h.dn (fun q hq e => d34 q e (mem_oneB.2 hq)), by unfold repK; simp only; exact n0⟩
theorem OwnRep.setDn {w w' : World} {B : Nat} {X : RepX} (h : OwnRep w B X) (Ys : List Int) (ho : OwnI w' B X.vd Ys)  (ht : Touch ((oneB X.vd)) w w') : OwnRep w' B { X with dn := Ys } := by
  have n0 := h.nod
  unfold repK at n0
  have n1 := (List.nodup_append.1 n0).2.1
  have n2 := (List.nodup_append.1 n1).2.1
  have n3 := (List.nodup_append.1 n2).2.1
  have d01 : ∀ q, q ∈ prB X.hi → q ∈ (oneB X.vb ++ bblks X.bs) → False := fun q h1 h2 => nod_dis n0 h1 (List.mem_append_left _ h2)
  have d02 : ∀ q, q ∈ prB X.hi → q ∈ oneB X.vv → False := fun q h1 h2 => nod_dis n0 h1 (List.mem_append_right _ (List.mem_append_left _ h2))
  have d03 : ∀ q, q ∈ prB X.hi → q ∈ oneB X.vn → False := fun q h1 h2 => nod_dis n0 h1 (List.mem_append_right _ (List.mem_append_right _ (List.mem_append_left _ h2)))
  have d04 : ∀ q, q ∈ prB X.hi → q ∈ oneB X.vd → False := fun q h1 h2 => nod_dis n0 h1 (List.mem_append_right _ (List.mem_append_right _ (List.mem_append_right _ h2)))
  have d12 : ∀ q, q ∈ (oneB X.vb ++ bblks X.bs) → q ∈ oneB X.vv → False := fun q h1 h2 => nod_dis n1 h1 (List.mem_append_left _ h2)
  have d13 : ∀ q, q ∈ (oneB X.vb ++ bblks X.bs) → q ∈ oneB X.vn → False := fun q h1 h2 => nod_dis n1 h1 (List.mem_append_right _ (List.mem_append_left _ h2))
  have d14 : ∀ q, q ∈ (oneB X.vb ++ bblks X.bs) → q ∈ oneB X.vd → False := fun q h1 h2 => nod_dis n1 h1 (List.mem_append_right _ (List.mem_append_right _ h2))
  have d23 : ∀ q, q ∈ oneB X.vv → q ∈ oneB X.vn → False := fun q h1 h2 => nod_dis n2 h1 (List.mem_append_left _ h2)
  have d24 : ∀ q, q ∈ oneB X.vv → q ∈ oneB X.vd → False := fun q h1 h2 => nod_dis n2 h1 (List.mem_append_right _ h2)
  have d34 : ∀ q, q ∈ oneB X.vn → q ∈ oneB X.vd → False := fun q h1 h2 => nod_dis n3 h1 h2
  exact ⟨OwnPr.touch h.hi ht (fun q hq e => d04 q hq e), ht.row h.bl (fun q hq e => d14 q (List.mem_append_left _ (mem_oneB.2 hq)) e), InOB.touch h.ib ht (fun q hq e => d14 q (List.mem_append_right _ hq) e), ht.row h.vo (fun q hq e => d24 q (mem_oneB.2 hq) e), ht.row h.nw (fun q hq e => d34 q (mem_oneB.2 hq) e), ho, by unfold repK; simp only; exact n0⟩
def cntRep (X : RepX) : Nat := cntPr X.hi + cntB X.bs + 4 * X.vs.length + 2 * X.ns.length + X.dn.length
def mkRep (k : Nat) (X : RepX) : RepX := { X with hi := mkPr k X.hi, bs := bmkTo (k + cntPr X.hi) X.bs X.bs.length, vs := vomarks (k + cntPr X.hi + cntB X.bs) X.vs.length, ns := nwmarks (k + cntPr X.hi + cntB X.bs + 4 * X.vs.length) X.ns.length, dn := imarks (k + cntPr X.hi + cntB X.bs + 4 * X.vs.length + 2 * X.ns.length) X.dn.length }
def MarkRp (w : World) (B k : Nat) (X : RepX) (e : Ending) (w' : World) : Prop := e = .returned (.int .i64 ((k + cntRep X : Nat) : Int)) ∧ OwnRep w' B (mkRep k X) ∧ Touch (repK X) w w'
set_option maxHeartbeats 4000000 in
set_option maxRecDepth 100000 in
theorem markReplica_any (X : RepX) (B k : Nat) (w : World) (ho : OwnRep w B X) (hk0 : 0 < k) (hkp : k + cntPr X.hi ≤ 4194304) (hk : k + cntRep X ≤ 8388608) :
    Calls Tryz.prog 53 #[.agg #[.int .i64 X.idn, .int .i64 X.n, .int .i64 X.vw, .int .i64 X.vo, .int .i64 X.lo, .int .i64 X.pr, .int .i64 X.hi.p.vw, .int .i64 X.hi.p.nm, X.hi.vs, X.hi.vt, X.vb, X.vv, X.vn, X.vd], .int .i64 (k : Int)] w fun e w' => MarkRp w B k X e w' := by
  unfold cntRep at hk
  obtain ⟨k1, hk1⟩ : ∃ k1, k1 = k + cntPr X.hi := ⟨_, rfl⟩
  obtain ⟨k2, hk2⟩ : ∃ k2, k2 = k1 + cntB X.bs := ⟨_, rfl⟩
  obtain ⟨k3, hk3⟩ : ∃ k3, k3 = k2 + 4 * X.vs.length := ⟨_, rfl⟩
  obtain ⟨k4, hk4⟩ : ∃ k4, k4 = k3 + 2 * X.ns.length := ⟨_, rfl⟩
  obtain ⟨k5, hk5⟩ : ∃ k5, k5 = k4 + X.dn.length := ⟨_, rfl⟩
  have HE : Hid (k5 = k + cntRep X) := by unfold Hid cntRep; omega
  have HX : Hid (mkRep k X = { X with hi := mkPr k X.hi, bs := bmkTo k1 X.bs X.bs.length, vs := vomarks k2 X.vs.length, ns := nwmarks k3 X.ns.length, dn := imarks k4 X.dn.length }) := by unfold Hid mkRep; rw [hk4, hk3, hk2, hk1]
  have HP : Hid (∀ W, OwnPr W B X.hi → Calls Tryz.prog 120 #[.agg #[.int .i64 X.hi.p.vw, .int .i64 X.hi.p.nm, X.hi.vs, X.hi.vt], .int .i64 (k : Int)] W fun e w' => e = .returned (.int .i64 (k1 : Int)) ∧ OwnPr w' B (mkPr k X.hi) ∧ Touch (prB X.hi) W w') := fun W h => by rw [hk1]; exact markProof_any X.hi B k W h hkp
  have HB : Hid (∀ W, OwnBL W B X.vb X.bs → Calls Tryz.prog 121 #[X.vb, .int .i64 (k1 : Int)] W fun e w' => e = .returned (.int .i64 (k2 : Int)) ∧ OwnBL w' B X.vb (bmkTo k1 X.bs X.bs.length) ∧ Touch (oneB X.vb ++ bblks X.bs) W w') := fun W h => by rw [hk2]; exact markBlocks_any X.vb X.bs B k1 W h (by omega) (by omega)
  have HV : Hid (∀ W, OwnVo W B X.vv X.vs → Calls Tryz.prog 122 #[X.vv, .int .i64 (k2 : Int)] W fun e w' => e = .returned (.int .i64 (k3 : Int)) ∧ OwnVo w' B X.vv (vomarks k2 X.vs.length) ∧ W.grownBy w' X.vv.ownBlock) := fun W h => by rw [hk3]; exact vomark_any X.vv X.vs B k2 W (by omega) h
  have HN : Hid (∀ W, OwnNw W B X.vn X.ns → Calls Tryz.prog 123 #[X.vn, .int .i64 (k3 : Int)] W fun e w' => e = .returned (.int .i64 (k4 : Int)) ∧ OwnNw w' B X.vn (nwmarks k3 X.ns.length) ∧ W.grownBy w' X.vn.ownBlock) := fun W h => by rw [hk4]; exact nwmark_any X.vn X.ns B k3 W (by omega) h
  have HD : Hid (∀ W, OwnI W B X.vd X.dn → Calls Tryz.prog 124 #[X.vd, .int .i64 (k4 : Int)] W fun e w' => e = .returned (.int .i64 (k5 : Int)) ∧ OwnI w' B X.vd (imarks k4 X.dn.length) ∧ W.grownBy w' X.vd.ownBlock) := fun W h => by rw [hk5]; exact imark_any X.vd X.dn B k4 W (by omega) h
  have NB : Hid (∀ q ∈ repK X, q < w.heap.size) := fun q hq => (ho.bound hq).2
  have S0 : Hid (∀ q ∈ prB X.hi, q ∈ repK X) := fun q hq => List.mem_append_left _ hq
  have S1 : Hid (∀ q ∈ (oneB X.vb ++ bblks X.bs), q ∈ repK X) := fun q hq => List.mem_append_right _ (List.mem_append_left _ hq)
  have S2 : Hid (∀ q ∈ oneB X.vv, q ∈ repK X) := fun q hq => List.mem_append_right _ (List.mem_append_right _ (List.mem_append_left _ hq))
  have S3 : Hid (∀ q ∈ oneB X.vn, q ∈ repK X) := fun q hq => List.mem_append_right _ (List.mem_append_right _ (List.mem_append_right _ (List.mem_append_left _ hq)))
  have S4 : Hid (∀ q ∈ oneB X.vd, q ∈ repK X) := fun q hq => List.mem_append_right _ (List.mem_append_right _ (List.mem_append_right _ (List.mem_append_right _ hq)))
  have t0 := bx_new w 31 #[.int .i64 X.idn, .int .i64 X.n, .int .i64 X.vw, .int .i64 X.vo, .int .i64 X.lo, .int .i64 X.pr, .int .i64 X.hi.p.vw, .int .i64 X.hi.p.nm, X.hi.vs, X.hi.vt, X.vb, X.vv, X.vn, X.vd]
  have b0 := below1 w (.cells #[.int .i64 X.idn, .int .i64 X.n, .int .i64 X.vw, .int .i64 X.vo, .int .i64 X.lo, .int .i64 X.pr, .int .i64 X.hi.p.vw, .int .i64 X.hi.p.nm, X.hi.vs, X.hi.vt, X.vb, X.vv, X.vn, X.vd] 31)
  have O0 : Hid (OwnRep (w.alloc (.cells #[.int .i64 X.idn, .int .i64 X.n, .int .i64 X.vw, .int .i64 X.vo, .int .i64 X.lo, .int .i64 X.pr, .int .i64 X.hi.p.vw, .int .i64 X.hi.p.nm, X.hi.vs, X.hi.vt, X.vb, X.vv, X.vn, X.vd] 31)) B X) := ho.below b0
  have T0 : Hid (Touch (repK X) w (w.alloc (.cells #[.int .i64 X.idn, .int .i64 X.n, .int .i64 X.vw, .int .i64 X.vo, .int .i64 X.lo, .int .i64 X.pr, .int .i64 X.hi.p.vw, .int .i64 X.hi.p.nm, X.hi.vs, X.hi.vt, X.vb, X.vv, X.vn, X.vd] 31))) := Touch.of_below b0
  obtain ⟨q0, q1, q2, q3, q4, q5, q6, q7, q8, q9, q10, q11, q12, q13⟩ := t0.c14
  clear ho b0 hk hkp hk0 hk1 hk2 hk3 hk4 hk5
  go_enter Tryz.func53, Tryz.ntmps53
  go_wp2_with fail
  generalize w.alloc (.cells #[.int .i64 X.idn, .int .i64 X.n, .int .i64 X.vw, .int .i64 X.vo, .int .i64 X.lo, .int .i64 X.pr, .int .i64 X.hi.p.vw, .int .i64 X.hi.p.nm, X.hi.vs, X.hi.vt, X.vb, X.vv, X.vn, X.vd] 31) = W0 at t0 O0 T0 q0 q1 q2 q3 q4 q5 q6 q7 q8 q9 q10 q11 q12 q13 ⊢
  refine (HP.out _ (O0.out.hi)).mono ?_
  rintro e W1 ⟨rfl, hm, tch⟩
  have O1 : Hid (OwnRep W1 B _) := OwnRep.setHi O0.out (mkPr k X.hi) hm rfl tch
  have T1 : Hid (Touch (repK X) w W1) := T0.out.trans (tch.more S0.out)
  have t1 : Bx W1 w.heap.size 31 #[.int .i64 X.idn, .int .i64 X.n, .int .i64 X.vw, .int .i64 X.vo, .int .i64 X.lo, .int .i64 X.pr, .int .i64 X.hi.p.vw, .int .i64 X.hi.p.nm, X.hi.vs, X.hi.vt, X.vb, X.vv, X.vn, X.vd] := t0.touch tch (fun e => by have := NB.out _ (S0.out _ e); omega)
  clear tch hm t0  O0 T0 HP S0 q0 q1 q2 q3 q4 q5 q6 q7 q8 q9 q10 q11 q12 q13
  obtain ⟨-, -, -, -, -, -, -, -, -, -, q10, -, -, -⟩ := t1.c14
  go_wp2_with fail
  refine (HB.out _ (⟨O1.out.bl, O1.out.ib, (List.nodup_append.1 (List.nodup_append.1 O1.out.nod).2.1).1⟩)).mono ?_
  rintro e W2 ⟨rfl, hm, tch⟩
  have O2 : Hid (OwnRep W2 B _) := OwnRep.setBl O1.out _ hm (bblks_mk _ _) tch
  have T2 : Hid (Touch (repK X) w W2) := T1.out.trans (tch.more S1.out)
  have t2 : Bx W2 w.heap.size 31 #[.int .i64 X.idn, .int .i64 X.n, .int .i64 X.vw, .int .i64 X.vo, .int .i64 X.lo, .int .i64 X.pr, .int .i64 X.hi.p.vw, .int .i64 X.hi.p.nm, X.hi.vs, X.hi.vt, X.vb, X.vv, X.vn, X.vd] := t1.touch tch (fun e => by have := NB.out _ (S1.out _ e); omega)
  clear tch hm t1  O1 T1 HB S1 q10
  obtain ⟨-, -, -, -, -, -, -, -, -, -, -, q11, -, -⟩ := t2.c14
  go_wp2_with fail
  refine (HV.out _ (O2.out.vo)).mono ?_
  rintro e W3 ⟨rfl, hm, hg⟩
  have tch : Touch (oneB X.vv) W2 W3 := Touch.of_grown hg (fun q hq => mem_oneB.2 hq)
  have O3 : Hid (OwnRep W3 B _) := OwnRep.setVo O2.out _ hm tch
  have T3 : Hid (Touch (repK X) w W3) := T2.out.trans (tch.more S2.out)
  have t3 : Bx W3 w.heap.size 31 #[.int .i64 X.idn, .int .i64 X.n, .int .i64 X.vw, .int .i64 X.vo, .int .i64 X.lo, .int .i64 X.pr, .int .i64 X.hi.p.vw, .int .i64 X.hi.p.nm, X.hi.vs, X.hi.vt, X.vb, X.vv, X.vn, X.vd] := t2.touch tch (fun e => by have := NB.out _ (S2.out _ e); omega)
  clear tch hm t2 hg O2 T2 HV S2 q11
  obtain ⟨-, -, -, -, -, -, -, -, -, -, -, -, q12, -⟩ := t3.c14
  go_wp2_with fail
  refine (HN.out _ (O3.out.nw)).mono ?_
  rintro e W4 ⟨rfl, hm, hg⟩
  have tch : Touch (oneB X.vn) W3 W4 := Touch.of_grown hg (fun q hq => mem_oneB.2 hq)
  have O4 : Hid (OwnRep W4 B _) := OwnRep.setNw O3.out _ hm tch
  have T4 : Hid (Touch (repK X) w W4) := T3.out.trans (tch.more S3.out)
  have t4 : Bx W4 w.heap.size 31 #[.int .i64 X.idn, .int .i64 X.n, .int .i64 X.vw, .int .i64 X.vo, .int .i64 X.lo, .int .i64 X.pr, .int .i64 X.hi.p.vw, .int .i64 X.hi.p.nm, X.hi.vs, X.hi.vt, X.vb, X.vv, X.vn, X.vd] := t3.touch tch (fun e => by have := NB.out _ (S3.out _ e); omega)
  clear tch hm t3 hg O3 T3 HN S3 q12
  obtain ⟨-, -, -, -, -, -, -, -, -, -, -, -, -, q13⟩ := t4.c14
  go_wp2_with fail
  refine (HD.out _ (O4.out.dn)).mono ?_
  rintro e W5 ⟨rfl, hm, hg⟩
  have tch : Touch (oneB X.vd) W4 W5 := Touch.of_grown hg (fun q hq => mem_oneB.2 hq)
  have O5 : Hid (OwnRep W5 B _) := OwnRep.setDn O4.out _ hm tch
  have T5 : Hid (Touch (repK X) w W5) := T4.out.trans (tch.more S4.out)
  have END : Hid (MarkRp w B k X (.returned (.int .i64 (k5 : Int))) W5) := by
    refine ⟨by rw [HE.out], ?_, T5.out⟩
    rw [HX.out]
    exact O5.out
  clear tch hm hg O4 O5 T4 T5 t4 HD S4 q13
  go_wp2
  go_ret
  exact END.out
set_option maxHeartbeats 4000000 in
set_option maxRecDepth 100000 in
theorem heldReplica_any (X : RepX) (k : Nat) (w : World) (hr : RdRep w (mkRep k X)) (hk0 : 0 < k) (hkp : k + cntPr X.hi ≤ 4194304) (hk : k + cntRep X ≤ 8388608) :
    Calls Tryz.prog 56 #[.agg #[.int .i64 X.idn, .int .i64 X.n, .int .i64 X.vw, .int .i64 X.vo, .int .i64 X.lo, .int .i64 X.pr, .int .i64 X.hi.p.vw, .int .i64 X.hi.p.nm, X.hi.vs, X.hi.vt, X.vb, X.vv, X.vn, X.vd], .int .i64 (k : Int)] w fun e w' => e = .returned (.int .i64 ((k + cntRep X : Nat) : Int)) ∧ Below w.heap.size w w' := by
  unfold cntRep at hk
  obtain ⟨r0, r1, r1i, r2, r3, r4⟩ := hr
  obtain ⟨k1, hk1⟩ : ∃ k1, k1 = k + cntPr X.hi := ⟨_, rfl⟩
  obtain ⟨k2, hk2⟩ : ∃ k2, k2 = k1 + cntB X.bs := ⟨_, rfl⟩
  obtain ⟨k3, hk3⟩ : ∃ k3, k3 = k2 + 4 * X.vs.length := ⟨_, rfl⟩
  obtain ⟨k4, hk4⟩ : ∃ k4, k4 = k3 + 2 * X.ns.length := ⟨_, rfl⟩
  obtain ⟨k5, hk5⟩ : ∃ k5, k5 = k4 + X.dn.length := ⟨_, rfl⟩
  have HE : Hid (k5 = k + cntRep X) := by unfold Hid cntRep; omega
  change RdPr w (mkPr k X.hi) at r0
  change RdBs w X.vb (bmkTo (k + cntPr X.hi) X.bs X.bs.length) at r1
  change InBs w (bmkTo (k + cntPr X.hi) X.bs X.bs.length) at r1i
  change RdVo w X.vv (vomarks (k + cntPr X.hi + cntB X.bs) X.vs.length) at r2
  change RdNw w X.vn (nwmarks (k + cntPr X.hi + cntB X.bs + 4 * X.vs.length) X.ns.length) at r3
  change RdI w X.vd (imarks (k + cntPr X.hi + cntB X.bs + 4 * X.vs.length + 2 * X.ns.length) X.dn.length) at r4
  rw [← hk1] at r1 r1i r2 r3 r4
  rw [← hk2] at r2 r3 r4
  rw [← hk3] at r3 r4
  rw [← hk4] at r4
  have HP : Hid (∀ W, Below w.heap.size w W → Calls Tryz.prog 127 #[.agg #[.int .i64 X.hi.p.vw, .int .i64 X.hi.p.nm, X.hi.vs, X.hi.vt], .int .i64 (k : Int)] W fun e w' => e = .returned (.int .i64 (k1 : Int)) ∧ Below W.heap.size W w') := fun W h => by rw [hk1]; exact heldProof_any X.hi k W (r0.below h) hkp
  have HB : Hid (∀ W, Below w.heap.size w W → Calls Tryz.prog 128 #[X.vb, .int .i64 (k1 : Int)] W fun e w' => e = .returned (.int .i64 (k2 : Int)) ∧ Below W.heap.size W w') := fun W h => by rw [hk2]; exact heldBlocks_any X.vb X.bs k1 W (by omega) (by omega) (r1.below h) (r1i.below h)
  have HV : Hid (∀ W, Below w.heap.size w W → Calls Tryz.prog 129 #[X.vv, .int .i64 (k2 : Int)] W fun e w' => e = .returned (.int .i64 (k3 : Int)) ∧ w' = W) := fun W h => by rw [hk3]; exact voheld_any X.vv X.vs.length k2 W (by omega) (r2.below h)
  have HN : Hid (∀ W, Below w.heap.size w W → Calls Tryz.prog 130 #[X.vn, .int .i64 (k3 : Int)] W fun e w' => e = .returned (.int .i64 (k4 : Int)) ∧ w' = W) := fun W h => by rw [hk4]; exact nwheld_any X.vn X.ns.length k3 W (by omega) (r3.below h)
  have HD : Hid (∀ W, Below w.heap.size w W → Calls Tryz.prog 131 #[X.vd, .int .i64 (k4 : Int)] W fun e w' => e = .returned (.int .i64 (k5 : Int)) ∧ w' = W) := fun W h => by rw [hk5]; exact iheld_any X.vd X.dn.length k4 W (by omega) (r4.below h)
  have n1 : ¬ ((k1 : Int) < 0) := by omega
  have n2 : ¬ ((k2 : Int) < 0) := by omega
  have n3 : ¬ ((k3 : Int) < 0) := by omega
  have n4 : ¬ ((k4 : Int) < 0) := by omega
  have n5 : ¬ ((k5 : Int) < 0) := by omega
  clear hk1 hk2 hk3 hk4 hk5 hk hkp hk0 r0 r1 r1i r2 r3 r4
  have t0 := bx_new w 31 #[.int .i64 X.idn, .int .i64 X.n, .int .i64 X.vw, .int .i64 X.vo, .int .i64 X.lo, .int .i64 X.pr, .int .i64 X.hi.p.vw, .int .i64 X.hi.p.nm, X.hi.vs, X.hi.vt, X.vb, X.vv, X.vn, X.vd]
  have b0 := below1 w (.cells #[.int .i64 X.idn, .int .i64 X.n, .int .i64 X.vw, .int .i64 X.vo, .int .i64 X.lo, .int .i64 X.pr, .int .i64 X.hi.p.vw, .int .i64 X.hi.p.nm, X.hi.vs, X.hi.vt, X.vb, X.vv, X.vn, X.vd] 31)
  obtain ⟨q0, q1, q2, q3, q4, q5, q6, q7, q8, q9, q10, q11, q12, q13⟩ := t0.c14
  go_enter Tryz.func56, Tryz.ntmps56
  go_wp2_with fail
  refine (HP.out _ b0).mono ?_
  rintro e w1 ⟨rfl, hb1⟩
  have t1 := t0.below hb1
  have b1 := b0.trans (hb1.mono b0.size)
  clear t0 b0 hb1 q0 q1 q2 q3 q4 q5 q6 q7 q8 q9 q10 q11 q12 q13 HP
  obtain ⟨-, -, -, -, -, -, -, -, -, -, q10, -, -, -⟩ := t1.c14
  go_wp2_with fail
  refine (HB.out _ b1).mono ?_
  rintro e w2 ⟨rfl, hb2⟩
  have t2 := t1.below hb2
  have b2 := b1.trans (hb2.mono b1.size)
  clear t1 b1 hb2 q10 HB n1
  obtain ⟨-, -, -, -, -, -, -, -, -, -, -, q11, q12, q13⟩ := t2.c14
  go_wp2_with fail
  refine (HV.out _ b2).mono ?_
  rintro e w3 ⟨rfl, hw3⟩
  replace hw3 := hw3.symm
  subst hw3
  clear HV n2 q11
  go_wp2_with fail
  refine (HN.out _ b2).mono ?_
  rintro e w4 ⟨rfl, hw4⟩
  replace hw4 := hw4.symm
  subst hw4
  clear HN n3 q12
  go_wp2_with fail
  refine (HD.out _ b2).mono ?_
  rintro e w5 ⟨rfl, hw5⟩
  replace hw5 := hw5.symm
  subst hw5
  clear HD n4 q13 t2
  go_wp2
  go_ret
  exact ⟨by rw [HE.out]; rfl, b2⟩
end Go.Proofs.YtilhaokiohbeeaaGreatDoor
