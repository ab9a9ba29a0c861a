/- The laws' own helpers over Replicas: measured, copied, alike. -/
import Derived.Test.YtilhaokiohbeeaaGreatDoorG03
import Derived.Test.YtilhaokiohbeeaaGreatDoorG08
import Derived.Test.YtilhaokiohbeeaaGreatDoorNwsCp
import Derived.Test.YtilhaokiohbeeaaGreatDoorG04
-- UNF Gen
namespace Go.Proofs.YtilhaokiohbeeaaGreatDoor
open Go.RowKit
set_option maxHeartbeats 400000 in
set_option maxRecDepth 100000 in
theorem szVotes_at (v : Value) (ns : List Vot) (l : Int) (w : World) (hr : RdVo w v ns) (h0 : 0 ≤ l) (h1 : l ≤ 1048576) :
    Calls Tryz.prog 102 #[v, .int .i64 l] w fun e w' => w' = w ∧ ∃ x : Int, e = .returned (.int .i64 x) ∧ (x = -1 ∨ 0 ≤ x ∧ x + ns.length ≤ l) := by
  obtain ⟨a, cap, hv, hl, hm, _⟩ := id hr
  subst hv
  unfold maxLen at hm
  by_cases hb : l - (ns.length : Int) < 0
  · go_enter Tryz.func102, Tryz.ntmps102
    go_wp2
    go_ret
    exact ⟨rfl, -1, rfl, .inl rfl⟩
  · go_enter Tryz.func102, Tryz.ntmps102
    go_wp2
    go_ret
    exact ⟨rfl, _, rfl, .inr ⟨by omega, by omega⟩⟩
set_option maxHeartbeats 400000 in
set_option maxRecDepth 100000 in
theorem szNews_at (v : Value) (ns : List Nws) (l : Int) (w : World) (hr : RdNw w v ns) (h0 : 0 ≤ l) (h1 : l ≤ 1048576) :
    Calls Tryz.prog 103 #[v, .int .i64 l] w fun e w' => w' = w ∧ ∃ x : Int, e = .returned (.int .i64 x) ∧ (x = -1 ∨ 0 ≤ x ∧ x + ns.length ≤ l) := by
  obtain ⟨a, cap, hv, hl, hm, _⟩ := id hr
  subst hv
  unfold maxLen at hm
  by_cases hb : l - (ns.length : Int) < 0
  · go_enter Tryz.func103, Tryz.ntmps103
    go_wp2
    go_ret
    exact ⟨rfl, -1, rfl, .inl rfl⟩
  · go_enter Tryz.func103, Tryz.ntmps103
    go_wp2
    go_ret
    exact ⟨rfl, _, rfl, .inr ⟨by omega, by omega⟩⟩
/-- What the measure of a Replica leaves. -/
def SzRep (w : World) (X : RepX) (l : Int) (e : Ending) (w' : World) : Prop := Below w.heap.size w w' ∧ ∃ z : Int, e = .returned (.int .i64 z) ∧ (z = -1 ∨ 0 ≤ z ∧ z + ((X.hi.p.sv.length + X.hi.p.tg.length + bsz X.bs + X.vs.length + X.ns.length + X.dn.length : Nat) : Int) ≤ l ∧ ∀ t ∈ X.bs, SmallB t.b)
set_option maxHeartbeats 2000000 in
set_option maxRecDepth 100000 in
theorem szReplica_any (X : RepX) (l : Int) (w : World) (hx : RdRep w X) (hz : ∀ t ∈ X.bs, ∀ s ∈ t.b.mo, s.size ≤ maxLen) (hl0 : 0 ≤ l) (hl1 : l ≤ 1048576) :
    Calls Tryz.prog 46 #[.agg #[.int .i64 X.idn, .int .i64 X.n, .int .i64 X.vw, .int .i64 X.vo, .int .i64 X.lo, .int .i64 X.pr, .int .i64 X.hi.p.vw, .int .i64 X.hi.p.nm, X.hi.vs, X.hi.vt, X.vb, X.vv, X.vn, X.vd], .int .i64 l] w fun e w' => SzRep w X l e w' := by
  have t0 := bx_new w 87 #[.int .i64 X.idn, .int .i64 X.n, .int .i64 X.vw, .int .i64 X.vo, .int .i64 X.lo, .int .i64 X.pr, .int .i64 X.hi.p.vw, .int .i64 X.hi.p.nm, X.hi.vs, X.hi.vt, X.vb, X.vv, X.vn, X.vd]
  have b0 := below1 w (.cells #[.int .i64 X.idn, .int .i64 X.n, .int .i64 X.vw, .int .i64 X.vo, .int .i64 X.lo, .int .i64 X.pr, .int .i64 X.hi.p.vw, .int .i64 X.hi.p.nm, X.hi.vs, X.hi.vt, X.vb, X.vv, X.vn, X.vd] 87)
  have HP : Hid (∀ l W, RdPr W X.hi → 0 ≤ l → l ≤ 1048576 → Calls Tryz.prog 100 #[.agg #[.int .i64 X.hi.p.vw, .int .i64 X.hi.p.nm, X.hi.vs, X.hi.vt], .int .i64 l] W fun e w' => SzPr W X.hi.p l e w') := fun l W h h0 h1 => szProof_any X.hi l W h h0 h1
  have HB : Hid (∀ l W, RdBs W X.vb X.bs → InBs W X.bs → 0 ≤ l → l ≤ 1048576 → Calls Tryz.prog 101 #[X.vb, .int .i64 l] W fun e w' => SzBs W X.bs l e w') := fun l W h hi h0 h1 => szBlocks_at _ _ l W h hi hz h0 h1
  have HV : Hid (∀ l W, RdVo W X.vv X.vs → 0 ≤ l → l ≤ 1048576 → Calls Tryz.prog 102 #[X.vv, .int .i64 l] W fun e w' => w' = W ∧ ∃ x : Int, e = .returned (.int .i64 x) ∧ (x = -1 ∨ 0 ≤ x ∧ x + X.vs.length ≤ l)) := fun l W h h0 h1 => szVotes_at _ _ l W h h0 h1
  have HN : Hid (∀ l W, RdNw W X.vn X.ns → 0 ≤ l → l ≤ 1048576 → Calls Tryz.prog 103 #[X.vn, .int .i64 l] W fun e w' => w' = W ∧ ∃ x : Int, e = .returned (.int .i64 x) ∧ (x = -1 ∨ 0 ≤ x ∧ x + X.ns.length ≤ l)) := fun l W h h0 h1 => szNews_at _ _ l W h h0 h1
  have HD : Hid (∀ l W, RdI W X.vd X.dn → 0 ≤ l → l ≤ 1048576 → Calls Tryz.prog 104 #[X.vd, .int .i64 l] W fun e w' => w' = W ∧ ∃ x : Int, e = .returned (.int .i64 x) ∧ (x = -1 ∨ 0 ≤ x ∧ x + X.dn.length ≤ l)) := fun l W h h0 h1 => szIntsP_at _ _ l W h h0 h1
  clear hz
  obtain ⟨-, -, -, -, -, -, q6, q7, q8, q9, -⟩ := t0.c14
  go_enter Tryz.func46, Tryz.ntmps46
  go_wp2_with fail
  refine (HP.out _ _ (hx.hi.below b0) hl0 hl1).mono ?_
  rintro e w1 ⟨hb1, z1, rfl, hz1⟩
  have t1 := t0.below hb1
  have b1 := b0.trans (hb1.mono b0.size)
  clear q6 q7 q8 q9 t0 b0 hb1 HP
  obtain ⟨-, -, -, -, -, -, -, -, -, -, q10, -⟩ := t1.c14
  rcases hz1 with hz1 | ⟨hz10, hz11⟩
  · subst hz1
    go_wp2
    go_ret
    exact ⟨b1, -1, rfl, .inl rfl⟩
  have hle1 : z1 ≤ 1048576 := by omega
  have HS1 : Hid (z1 + (X.hi.p.sv.length + X.hi.p.tg.length) ≤ l) := by unfold Hid; omega
  clear hz11 hl0 hl1
  go_wp2_with fail
  refine (HB.out _ _ (hx.bl.below b1) (hx.ib.below b1) hz10 hle1).mono ?_
  rintro e w2 ⟨hb2, z2, rfl, hz2⟩
  have t2 := t1.below hb2
  have b2 := b1.trans (hb2.mono b1.size)
  clear q10 t1 b1 hb2 HB
  obtain ⟨-, -, -, -, -, -, -, -, -, -, -, q11, q12, q13⟩ := t2.c14
  rcases hz2 with hz2 | ⟨hz20, hz21, hz22⟩
  · subst hz2
    go_wp2
    go_ret
    exact ⟨b2, -1, rfl, .inl rfl⟩
  have hle2 : z2 ≤ 1048576 := by omega
  have HS2 : Hid (z2 + (X.hi.p.sv.length + X.hi.p.tg.length + bsz X.bs) ≤ l) := by have := HS1.out; unfold Hid; omega
  have HZ : Hid (∀ t ∈ X.bs, SmallB t.b) := hz22
  clear hz21 hz22 hz10 hle1 HS1
  go_wp2_with fail
  refine (HV.out _ _ (hx.vo.below b2) hz20 hle2).mono ?_
  rintro e w3 ⟨hw3, z3, rfl, hz3⟩
  subst hw3
  clear q11 HV
  rcases hz3 with hz3 | ⟨hz30, hz31⟩
  · subst hz3
    go_wp2
    go_ret
    exact ⟨b2, -1, rfl, .inl rfl⟩
  have hle3 : z3 ≤ 1048576 := by omega
  have HS3 : Hid (z3 + (X.hi.p.sv.length + X.hi.p.tg.length + bsz X.bs + X.vs.length) ≤ l) := by have := HS2.out; unfold Hid; omega
  clear hz31 hz20 hle2 HS2
  go_wp2_with fail
  refine (HN.out _ _ (hx.nw.below b2) hz30 hle3).mono ?_
  rintro e w4 ⟨hw4, z4, rfl, hz4⟩
  subst hw4
  clear q12 HN
  rcases hz4 with hz4 | ⟨hz40, hz41⟩
  · subst hz4
    go_wp2
    go_ret
    exact ⟨b2, -1, rfl, .inl rfl⟩
  have hle4 : z4 ≤ 1048576 := by omega
  have HS4 : Hid (z4 + (X.hi.p.sv.length + X.hi.p.tg.length + bsz X.bs + X.vs.length + X.ns.length) ≤ l) := by have := HS3.out; unfold Hid; omega
  clear hz41 hz30 hle3 HS3
  go_wp2_with fail
  refine (HD.out _ _ (hx.dn.below b2) hz40 hle4).mono ?_
  rintro e w5 ⟨hw5, z5, rfl, hz5⟩
  subst hw5
  clear q13 HD t2
  rcases hz5 with hz5 | ⟨hz50, hz51⟩
  · subst hz5
    go_wp2
    go_ret
    exact ⟨b2, -1, rfl, .inl rfl⟩
  have HS5 : Hid (z5 + ((X.hi.p.sv.length + X.hi.p.tg.length + bsz X.bs + X.vs.length + X.ns.length + X.dn.length : Nat) : Int) ≤ l) := by have := HS4.out; unfold Hid; omega
  clear hz51 hz40 hle4 HS4
  go_wp2
  go_ret
  exact ⟨b2, z5, rfl, .inr ⟨hz50, HS5.out, HZ.out⟩⟩
/-- All blocks of a Replica's rows. -/
def repK (X : RepX) : List Nat := prB X.hi ++ ((oneB X.vb ++ bblks X.bs) ++ (oneB X.vv ++ (oneB X.vn ++ oneB X.vd)))
/-- A Replica in rows of the call's own, no two in one block. -/
structure OwnRep (w : World) (B : Nat) (X : RepX) : Prop where
  hi : OwnPr w B X.hi
  bl : OwnBs w B X.vb X.bs
  ib : InOB w B X.bs
  vo : OwnVo w B X.vv X.vs
  nw : OwnNw w B X.vn X.ns
  dn : OwnI w B X.vd X.dn
  nod : (repK X).Nodup
theorem OwnRep.below {w w' : World} {B : Nat} {X : RepX} (h : OwnRep w B X) (hb : Below w.heap.size w w') : OwnRep w' B X := ⟨h.hi.below hb, h.bl.below hb, h.ib.below hb, h.vo.below hb, h.nw.below hb, h.dn.below hb, h.nod⟩
theorem OwnRep.mono {w : World} {B B' : Nat} {X : RepX} (h : OwnRep w B X) (hb : B' ≤ B) : OwnRep w B' X := ⟨h.hi.mono hb, h.bl.mono hb, h.ib.mono hb, h.vo.mono hb, h.nw.mono hb, h.dn.mono hb, h.nod⟩
theorem OwnRep.rd {w : World} {B : Nat} {X : RepX} (h : OwnRep w B X) : RdRep w X := ⟨h.hi.rd, h.bl.rd, h.ib.rd, h.vo.rd, h.nw.rd, h.dn.rd⟩
theorem OwnRep.bound {w : World} {B : Nat} {X : RepX} (h : OwnRep w B X) {k : Nat} (hk : k ∈ repK X) : B ≤ k ∧ k < w.heap.size := by
  unfold repK at hk
  rcases List.mem_append.1 hk with hk | hk
  · exact h.hi.bound hk
  rcases List.mem_append.1 hk with hk | hk
  · rcases List.mem_append.1 hk with hk | hk
    · exact World.ownsRow.lt h.bl k (mem_oneB.1 hk)
    · exact bblks_bound h.ib hk
  rcases List.mem_append.1 hk with hk | hk
  · exact World.ownsRow.lt h.vo k (mem_oneB.1 hk)
  rcases List.mem_append.1 hk with hk | hk
  · exact World.ownsRow.lt h.nw k (mem_oneB.1 hk)
  · exact World.ownsRow.lt h.dn k (mem_oneB.1 hk)
theorem InOB.touch {bs : List Nat} {w w' : World} {B : Nat} {Xs : List BlX} (h : InOB w B Xs) (ht : Touch bs w w') (hn : ∀ k ∈ bblks Xs, k ∉ bs) : InOB w' B Xs := fun X hX => (h X hX).touch ht (fun k hk => hn k (List.mem_flatMap.2 ⟨X, hX, hk⟩))
theorem OwnRep.touch {bs : List Nat} {w w' : World} {B : Nat} {X : RepX} (h : OwnRep w B X) (ht : Touch bs w w') (hn : ∀ k ∈ repK X, k ∉ bs) : OwnRep w' B X := by
  have n1 : ∀ k ∈ prB X.hi, k ∉ bs := fun k hk => hn k (List.mem_append_left _ hk)
  have n2 : ∀ k ∈ oneB X.vb, k ∉ bs := fun k hk => hn k (List.mem_append_right _ (List.mem_append_left _ (List.mem_append_left _ hk)))
  have n3 : ∀ k ∈ bblks X.bs, k ∉ bs := fun k hk => hn k (List.mem_append_right _ (List.mem_append_left _ (List.mem_append_right _ hk)))
  have n4 : ∀ k ∈ oneB X.vv, k ∉ bs := fun k hk => hn k (List.mem_append_right _ (List.mem_append_right _ (List.mem_append_left _ hk)))
  have n5 : ∀ k ∈ oneB X.vn, k ∉ bs := fun k hk => hn k (List.mem_append_right _ (List.mem_append_right _ (List.mem_append_right _ (List.mem_append_left _ hk))))
  have n6 : ∀ k ∈ oneB X.vd, k ∉ bs := fun k hk => hn k (List.mem_append_right _ (List.mem_append_right _ (List.mem_append_right _ (List.mem_append_right _ hk))))
  exact ⟨h.hi.touch ht n1, ht.row h.bl (fun k hk => n2 k (mem_oneB.2 hk)), h.ib.touch ht n3, ht.row h.vo (fun k hk => n4 k (mem_oneB.2 hk)), ht.row h.nw (fun k hk => n5 k (mem_oneB.2 hk)), ht.row h.dn (fun k hk => n6 k (mem_oneB.2 hk)), h.nod⟩
/-- New blocks in the place of none. -/
theorem nod_ins {a s b : List Nat} {m : Nat} (h : (a ++ b).Nodup) (hs : s.Nodup) (ha : ∀ x ∈ a ++ b, x < m) (hm : ∀ x ∈ s, m ≤ x) : (a ++ (s ++ b)).Nodup := by
  rw [List.nodup_append] at h ⊢
  obtain ⟨h1, h2, h3⟩ := h
  refine ⟨h1, ?_, fun x hx y hy e => ?_⟩
  · rw [List.nodup_append]
    exact ⟨hs, h2, fun x hx y hy e => by have := hm x hx; have := ha y (List.mem_append_right _ hy); omega⟩
  · rcases List.mem_append.1 hy with hy | hy
    · have := hm y hy; have := ha x (List.mem_append_left _ hx); omega
    · exact h3 x hx y hy e
theorem OwnPr.nodP {w : World} {lo : Nat} {X : PrX} (h : OwnPr w lo X) : (prB X).Nodup := by
  unfold prB
  rw [List.nodup_append]
  exact ⟨oneBN _, oneBN _, fun a ha b hb e => by subst e; exact h.two a (mem_oneB.1 ha) (mem_oneB.1 hb)⟩
def rexZ (d n v o l p : Int) (pv pn : Int) : RepX := ⟨d, n, v, o, l, p, ⟨⟨pv, pn, [], []⟩, .slice none 0 0, .slice none 0 0⟩, .slice none 0 0, [], .slice none 0 0, [], .slice none 0 0, [], .slice none 0 0, []⟩
theorem nilRow (w : World) (B t s : Nat) : w.ownsRow B t s (.slice none 0 0) 0 [] := ⟨by simp, .inl ⟨rfl, rfl⟩⟩
theorem ownRep_zero (w : World) (B : Nat) (d n v o l p pv pn : Int) : OwnRep w B (rexZ d n v o l p pv pn) :=
  ⟨ownPr_zero w B pv pn, nilRow _ _ _ _, (fun X hX => by cases hX), nilRow _ _ _ _, nilRow _ _ _ _, ownI_nil w B, by simp [repK, rexZ, prB, oneB, bblks, Value.ownBlock]⟩
theorem OwnRep.putHi {w w' : World} {B : Nat} {X : RepX} (h : OwnRep w B X) (Y : PrX) (hz : prB X.hi = []) (hb : Below w.heap.size w w') (ho : OwnPr w' w.heap.size Y) (hB : B ≤ w.heap.size) : OwnRep w' B { X with hi := Y } := by
  refine ⟨ho.mono hB, h.bl.below hb, h.ib.below hb, h.vo.below hb, h.nw.below hb, h.dn.below hb, ?_⟩
  have hn := h.nod
  have hlt : ∀ x ∈ repK X, x < w.heap.size := fun x hx => (h.bound hx).2
  unfold repK at hn hlt ⊢
  rw [hz] at hn hlt
  have hnn := nod_ins (a := []) (s := prB Y) (b := (oneB X.vb ++ bblks X.bs) ++ (oneB X.vv ++ (oneB X.vn ++ (oneB X.vd)))) (m := w.heap.size) (by simpa only [List.append_assoc, List.nil_append, List.append_nil] using hn) ho.nodP (by simpa only [List.append_assoc, List.nil_append, List.append_nil] using hlt) (fun x hx => (ho.bound hx).1)
  simpa only [List.append_assoc, List.nil_append, List.append_nil] using hnn
theorem OwnRep.putBl {w w' : World} {B : Nat} {X : RepX} (h : OwnRep w B X) (v : Value) (Ys : List BlX) (hz : (oneB X.vb ++ bblks X.bs) = []) (hb : Below w.heap.size w w') (ho : OwnBL w' w.heap.size v Ys) (hB : B ≤ w.heap.size) : OwnRep w' B { X with vb := v, bs := Ys } := by
  refine ⟨h.hi.below hb, ho.row.mono hB, ho.ins.mono hB, h.vo.below hb, h.nw.below hb, h.dn.below hb, ?_⟩
  have hn := h.nod
  have hlt : ∀ x ∈ repK X, x < w.heap.size := fun x hx => (h.bound hx).2
  unfold repK at hn hlt ⊢
  rw [hz] at hn hlt
  have hnn := nod_ins (a := (prB X.hi)) (s := oneB v ++ bblks Ys) (b := oneB X.vv ++ (oneB X.vn ++ (oneB X.vd))) (m := w.heap.size) (by simpa only [List.append_assoc, List.nil_append, List.append_nil] using hn) ho.nod (by simpa only [List.append_assoc, List.nil_append, List.append_nil] using hlt) (fun x hx => (ho.bound hx).1)
  simpa only [List.append_assoc, List.nil_append, List.append_nil] using hnn
theorem OwnRep.putVo {w w' : World} {B : Nat} {X : RepX} (h : OwnRep w B X) (v : Value) (Ys : List Vot) (hz : oneB X.vv = []) (hb : Below w.heap.size w w') (ho : OwnVo w' w.heap.size v Ys) (hB : B ≤ w.heap.size) : OwnRep w' B { X with vv := v, vs := Ys } := by
  refine ⟨h.hi.below hb, h.bl.below hb, h.ib.below hb, ho.mono hB, h.nw.below hb, h.dn.below hb, ?_⟩
  have hn := h.nod
  have hlt : ∀ x ∈ repK X, x < w.heap.size := fun x hx => (h.bound hx).2
  unfold repK at hn hlt ⊢
  rw [hz] at hn hlt
  have hnn := nod_ins (a := (prB X.hi) ++ ((oneB X.vb ++ bblks X.bs))) (s := oneB v) (b := oneB X.vn ++ (oneB X.vd)) (m := w.heap.size) (by simpa only [List.append_assoc, List.nil_append, List.append_nil] using hn) (oneBN v) (by simpa only [List.append_assoc, List.nil_append, List.append_nil] using hlt) (fun x hx => (World.ownsRow.lt ho x (mem_oneB.1 hx)).1)
  simpa only [List.append_assoc, List.nil_append, List.append_nil] using hnn
theorem OwnRep.putNw {w w' : World} {B : Nat} {X : RepX} (h : OwnRep w B X) (v : Value) (Ys : List Nws) (hz : oneB X.vn = []) (hb : Below w.heap.size w w') (ho : OwnNw w' w.heap.size v Ys) (hB : B ≤ w.heap.size) : OwnRep w' B { X with vn := v, ns := Ys } := by
  refine ⟨h.hi.below hb, h.bl.below hb, h.ib.below hb, h.vo.below hb, ho.mono hB, h.dn.below hb, ?_⟩
  have hn := h.nod
  have hlt : ∀ x ∈ repK X, x < w.heap.size := fun x hx => (h.bound hx).2
  unfold repK at hn hlt ⊢
  rw [hz] at hn hlt
  have hnn := nod_ins (a := (prB X.hi) ++ ((oneB X.vb ++ bblks X.bs)) ++ (oneB X.vv)) (s := oneB v) (b := oneB X.vd) (m := w.heap.size) (by simpa only [List.append_assoc, List.nil_append, List.append_nil] using hn) (oneBN v) (by simpa only [List.append_assoc, List.nil_append, List.append_nil] using hlt) (fun x hx => (World.ownsRow.lt ho x (mem_oneB.1 hx)).1)
  simpa only [List.append_assoc, List.nil_append, List.append_nil] using hnn
theorem OwnRep.putDn {w w' : World} {B : Nat} {X : RepX} (h : OwnRep w B X) (v : Value) (Ys : List Int) (hz : oneB X.vd = []) (hb : Below w.heap.size w w') (ho : OwnI w' w.heap.size v Ys) (hB : B ≤ w.heap.size) : OwnRep w' B { X with vd := v, dn := Ys } := by
  refine ⟨h.hi.below hb, h.bl.below hb, h.ib.below hb, h.vo.below hb, h.nw.below hb, ho.mono hB, ?_⟩
  have hn := h.nod
  have hlt : ∀ x ∈ repK X, x < w.heap.size := fun x hx => (h.bound hx).2
  unfold repK at hn hlt ⊢
  rw [hz] at hn hlt
  have hnn := nod_ins (a := (prB X.hi) ++ ((oneB X.vb ++ bblks X.bs)) ++ (oneB X.vv) ++ (oneB X.vn)) (s := oneB v) (b := []) (m := w.heap.size) (by simpa only [List.append_assoc, List.nil_append, List.append_nil] using hn) (oneBN v) (by simpa only [List.append_assoc, List.nil_append, List.append_nil] using hlt) (fun x hx => (World.ownsRow.lt ho x (mem_oneB.1 hx)).1)
  simpa only [List.append_assoc, List.nil_append, List.append_nil] using hnn
/-- A Replica of the call's own, with these parts. -/
def ToRep (w : World) (R : Rep) (e : Ending) (w' : World) : Prop := ∃ Y : RepX, e = .returned (.agg #[.int .i64 Y.idn, .int .i64 Y.n, .int .i64 Y.vw, .int .i64 Y.vo, .int .i64 Y.lo, .int .i64 Y.pr, .int .i64 Y.hi.p.vw, .int .i64 Y.hi.p.nm, Y.hi.vs, Y.hi.vt, Y.vb, Y.vv, Y.vn, Y.vd]) ∧ Y.rep = R ∧ OwnRep w' w.heap.size Y ∧ Below w.heap.size w w'
set_option maxHeartbeats 4000000 in
set_option maxRecDepth 100000 in
theorem toReplica_any (X : RepX) (w : World) (hx : RdRep w X) (hs : SmallRep X) :
    Calls Tryz.prog 48 #[.agg #[.int .i64 X.idn, .int .i64 X.n, .int .i64 X.vw, .int .i64 X.vo, .int .i64 X.lo, .int .i64 X.pr, .int .i64 X.hi.p.vw, .int .i64 X.hi.p.nm, X.hi.vs, X.hi.vt, X.vb, X.vv, X.vn, X.vd]] w fun e w' => ToRep w X.rep e w' := by
  have hsum := hs.sum
  have HP : Hid (∀ W, RdPr W X.hi → Calls Tryz.prog 106 #[.agg #[.int .i64 X.hi.p.vw, .int .i64 X.hi.p.nm, X.hi.vs, X.hi.vt]] W fun e w' => ToPr W X.hi.p e w') := fun W h => toProof_any X.hi W h (by omega)
  have HB : Hid (∀ W, RdBs W X.vb X.bs → InBs W X.bs → Calls Tryz.prog 107 #[X.vb] W fun e w' => TosB W X.bs e w') := fun W h hi => toBlocks_any _ _ W h hi (by omega)
  have HV : Hid (∀ W, RdVo W X.vv X.vs → Calls Tryz.prog 108 #[X.vv] W fun e w' => ∃ u, e = .returned u ∧ OwnVo w' W.heap.size u X.vs ∧ Below W.heap.size W w') := fun W h => toVotes_any _ _ W h (by omega)
  have HN : Hid (∀ W, RdNw W X.vn X.ns → Calls Tryz.prog 109 #[X.vn] W fun e w' => ∃ u, e = .returned u ∧ OwnNw w' W.heap.size u X.ns ∧ Below W.heap.size W w') := fun W h => toNewss_any _ _ W h (by omega)
  have HD : Hid (∀ W, RdI W X.vd X.dn → Calls Tryz.prog 110 #[X.vd] W fun e w' => ∃ u, e = .returned u ∧ OwnI w' W.heap.size u X.dn ∧ Below W.heap.size W w') := fun W h => toInts_any _ _ W h (by omega)
  clear hsum hs
  obtain ⟨A, hA⟩ : ∃ A, A = Obj.cells #[.int .i64 X.idn, .int .i64 X.n, .int .i64 X.vw, .int .i64 X.vo, .int .i64 X.lo, .int .i64 X.pr, .int .i64 X.hi.p.vw, .int .i64 X.hi.p.nm, X.hi.vs, X.hi.vt, X.vb, X.vv, X.vn, X.vd] 87 := ⟨_, rfl⟩
  obtain ⟨Z, hZ⟩ : ∃ Z, Z = Obj.cells #[.int .i64 0, .int .i64 0, .int .i64 0, .int .i64 0, .int .i64 0, .int .i64 0, .int .i64 0, .int .i64 0, .slice none 0 0, .slice none 0 0, .slice none 0 0, .slice none 0 0, .slice none 0 0, .slice none 0 0] 31 := ⟨_, rfl⟩
  obtain ⟨C, hC⟩ : ∃ C, C = Obj.cells #[.int .i64 X.idn, .int .i64 X.n, .int .i64 X.vw, .int .i64 X.vo, .int .i64 X.lo, .int .i64 X.pr, .int .i64 0, .int .i64 0, .slice none 0 0, .slice none 0 0, .slice none 0 0, .slice none 0 0, .slice none 0 0, .slice none 0 0] 31 := ⟨_, rfl⟩
  obtain ⟨W2, hW2⟩ : ∃ W2, W2 = ((w.alloc A).alloc Z).alloc C := ⟨_, rfl⟩
  have t2 : Bx W2 w.heap.size 87 #[.int .i64 X.idn, .int .i64 X.n, .int .i64 X.vw, .int .i64 X.vo, .int .i64 X.lo, .int .i64 X.pr, .int .i64 X.hi.p.vw, .int .i64 X.hi.p.nm, X.hi.vs, X.hi.vt, X.vb, X.vv, X.vn, X.vd] := by rw [hW2, hA]; exact ((bx_new w _ _).below (below1 _ _)).below (below1 _ _)
  have r2 : Bx W2 (w.heap.size + 1) 31 #[.int .i64 0, .int .i64 0, .int .i64 0, .int .i64 0, .int .i64 0, .int .i64 0, .int .i64 0, .int .i64 0, .slice none 0 0, .slice none 0 0, .slice none 0 0, .slice none 0 0, .slice none 0 0, .slice none 0 0] := by
    have h := (bx_new (w.alloc A) 31 #[.int .i64 0, .int .i64 0, .int .i64 0, .int .i64 0, .int .i64 0, .int .i64 0, .int .i64 0, .int .i64 0, .slice none 0 0, .slice none 0 0, .slice none 0 0, .slice none 0 0, .slice none 0 0, .slice none 0 0]).below (below1 _ C)
    rw [szQ] at h
    rw [hW2, hZ]; exact h
  have o2 : Bx W2 (w.heap.size + 2) 31 #[.int .i64 X.idn, .int .i64 X.n, .int .i64 X.vw, .int .i64 X.vo, .int .i64 X.lo, .int .i64 X.pr, .int .i64 0, .int .i64 0, .slice none 0 0, .slice none 0 0, .slice none 0 0, .slice none 0 0, .slice none 0 0, .slice none 0 0] := by
    have h := bx_new ((w.alloc A).alloc Z) 31 #[.int .i64 X.idn, .int .i64 X.n, .int .i64 X.vw, .int .i64 X.vo, .int .i64 X.lo, .int .i64 X.pr, .int .i64 0, .int .i64 0, .slice none 0 0, .slice none 0 0, .slice none 0 0, .slice none 0 0, .slice none 0 0, .slice none 0 0]
    rw [szQ, szQ] at h
    rw [hW2, hC]; exact h
  have b2 : Below w.heap.size w W2 := by rw [hW2]; exact ((below1 w A).alloc (by simp) Z).alloc (by simp; omega) C
  have s2 : W2.heap.size = w.heap.size + 3 := by rw [hW2]; simp
  have HWW : Hid (((w.alloc (Obj.cells #[.int .i64 X.idn, .int .i64 X.n, .int .i64 X.vw, .int .i64 X.vo, .int .i64 X.lo, .int .i64 X.pr, .int .i64 X.hi.p.vw, .int .i64 X.hi.p.nm, X.hi.vs, X.hi.vt, X.vb, X.vv, X.vn, X.vd] 87)).alloc (Obj.cells #[.int .i64 0, .int .i64 0, .int .i64 0, .int .i64 0, .int .i64 0, .int .i64 0, .int .i64 0, .int .i64 0, .slice none 0 0, .slice none 0 0, .slice none 0 0, .slice none 0 0, .slice none 0 0, .slice none 0 0] 31)).alloc (Obj.cells #[.int .i64 X.idn, .int .i64 X.n, .int .i64 X.vw, .int .i64 X.vo, .int .i64 X.lo, .int .i64 X.pr, .int .i64 0, .int .i64 0, .slice none 0 0, .slice none 0 0, .slice none 0 0, .slice none 0 0, .slice none 0 0, .slice none 0 0] 31) = W2) := by unfold Hid; rw [hW2, hA, hZ, hC]
  have O2 : OwnRep W2 (w.heap.size + 3) (rexZ X.idn X.n X.vw X.vo X.lo X.pr 0 0) := ownRep_zero _ _ _ _ _ _ _ _ _ _
  have t1 := (bx_new w 87 #[.int .i64 X.idn, .int .i64 X.n, .int .i64 X.vw, .int .i64 X.vo, .int .i64 X.lo, .int .i64 X.pr, .int .i64 X.hi.p.vw, .int .i64 X.hi.p.nm, X.hi.vs, X.hi.vt, X.vb, X.vv, X.vn, X.vd])
  obtain ⟨m0, m1, m2, m3, m4, m5, m6, m7, m8, m9, m10, m11, m12, m13⟩ := t1.c14
  obtain ⟨q0, q1, q2, q3, q4, q5, q6, q7, q8, q9, q10, q11, q12, q13⟩ := t2.c14
  clear hA hZ hC hW2 t1
  go_enter Tryz.func48, Tryz.ntmps48
  go_wp2_with fail
  rw [HWW.out]
  refine (HP.out _ (hx.hi.below b2)).mono ?_
  rintro e w3 ⟨Y, rfl, hY, hO3, hb3⟩
  have t3 := t2.below hb3
  have r3 := r2.below hb3
  have o3 := o2.below hb3
  have b3 := b2.trans (hb3.mono b2.size)
  have s3 : w.heap.size + 3 ≤ w3.heap.size := by rw [← s2]; exact hb3.size
  have O3 := O2.putHi Y rfl hb3 hO3 (by omega)
  clear m0 m1 m2 m3 m4 m5 m6 m7 m8 m9 m10 m11 m12 m13 q0 q1 q2 q3 q4 q5 q6 q7 q8 q9 q10 q11 q12 q13 t2 r2 o2 b2 hb3 HP HWW O2 s2
  obtain ⟨as1, cs1, al1, cl1, hvs, hvt⟩ := hO3.slices
  clear hO3
  obtain ⟨⟨yv, yn, ys, yt⟩, yvs, yvt⟩ := Y
  simp only [rexZ] at hY hvs hvt O3 ⊢
  generalize hsn : ys.length = sn at hvs
  generalize hln : yt.length = ln at hvt
  subst hvs hvt
  clear hsn hln
  obtain ⟨f0, f1, f2, f3, f4, f5, f6, f7, f8, f9, f10, f11, f12, f13⟩ := o3.f14
  obtain ⟨c0, c1, c2, c3, c4, c5, c6, c7, c8, c9, c10, c11, c12, c13⟩ := o3.c14
  have p3a : Bx _ _ _ #[.int .i64 X.idn, .int .i64 X.n, .int .i64 X.vw, .int .i64 X.vo, .int .i64 X.lo, .int .i64 X.pr, .int .i64 yv, .int .i64 0, .slice none 0 0, .slice none 0 0, .slice none 0 0, .slice none 0 0, .slice none 0 0, .slice none 0 0] := o3.set 6 (.int .i64 yv)
  have p3b : Bx _ _ _ #[.int .i64 X.idn, .int .i64 X.n, .int .i64 X.vw, .int .i64 X.vo, .int .i64 X.lo, .int .i64 X.pr, .int .i64 yv, .int .i64 yn, .slice none 0 0, .slice none 0 0, .slice none 0 0, .slice none 0 0, .slice none 0 0, .slice none 0 0] := p3a.set 7 (.int .i64 yn)
  have p3c : Bx _ _ _ #[.int .i64 X.idn, .int .i64 X.n, .int .i64 X.vw, .int .i64 X.vo, .int .i64 X.lo, .int .i64 X.pr, .int .i64 yv, .int .i64 yn, .slice as1 sn cs1, .slice none 0 0, .slice none 0 0, .slice none 0 0, .slice none 0 0, .slice none 0 0] := p3b.set 8 (.slice as1 sn cs1)
  have p3d : Bx _ _ _ #[.int .i64 X.idn, .int .i64 X.n, .int .i64 X.vw, .int .i64 X.vo, .int .i64 X.lo, .int .i64 X.pr, .int .i64 yv, .int .i64 yn, .slice as1 sn cs1, .slice al1 ln cl1, .slice none 0 0, .slice none 0 0, .slice none 0 0, .slice none 0 0] := p3c.set 9 (.slice al1 ln cl1)
  have hin : w.heap.size + 2 ∈ [w.heap.size + 2] := List.mem_singleton.2 rfl
  have hT4 : Touch [w.heap.size + 2] w3 ((((w3.setCell ⟨w.heap.size + 2, 6, none⟩ (.int .i64 yv)).setCell ⟨w.heap.size + 2, 7, none⟩ (.int .i64 yn)).setCell ⟨w.heap.size + 2, 8, none⟩ (.slice as1 sn cs1)).setCell ⟨w.heap.size + 2, 9, none⟩ (.slice al1 ln cl1)) := ((((Touch.set hin).trans (Touch.set hin)).trans (Touch.set hin)).trans (Touch.set hin))
  have t4 : Bx ((((w3.setCell ⟨w.heap.size + 2, 6, none⟩ (.int .i64 yv)).setCell ⟨w.heap.size + 2, 7, none⟩ (.int .i64 yn)).setCell ⟨w.heap.size + 2, 8, none⟩ (.slice as1 sn cs1)).setCell ⟨w.heap.size + 2, 9, none⟩ (.slice al1 ln cl1)) w.heap.size 87 _ := t3.of_block (hT4.block _ t3.lt (by simp))
  have r4 : Bx ((((w3.setCell ⟨w.heap.size + 2, 6, none⟩ (.int .i64 yv)).setCell ⟨w.heap.size + 2, 7, none⟩ (.int .i64 yn)).setCell ⟨w.heap.size + 2, 8, none⟩ (.slice as1 sn cs1)).setCell ⟨w.heap.size + 2, 9, none⟩ (.slice al1 ln cl1)) (w.heap.size + 1) 31 _ := r3.of_block (hT4.block _ r3.lt (by simp))
  have O4 := O3.touch hT4 (fun q hq e => by have h1 := (O3.bound hq).1; have h2 := List.mem_singleton.1 e; omega)
  have b4 : Below w.heap.size w ((((w3.setCell ⟨w.heap.size + 2, 6, none⟩ (.int .i64 yv)).setCell ⟨w.heap.size + 2, 7, none⟩ (.int .i64 yn)).setCell ⟨w.heap.size + 2, 8, none⟩ (.slice as1 sn cs1)).setCell ⟨w.heap.size + 2, 9, none⟩ (.slice al1 ln cl1)) := hT4.below b3 (fun q hq => by have := List.mem_singleton.1 hq; omega)
  have s4 : w.heap.size + 3 ≤ ((((w3.setCell ⟨w.heap.size + 2, 6, none⟩ (.int .i64 yv)).setCell ⟨w.heap.size + 2, 7, none⟩ (.int .i64 yn)).setCell ⟨w.heap.size + 2, 8, none⟩ (.slice as1 sn cs1)).setCell ⟨w.heap.size + 2, 9, none⟩ (.slice al1 ln cl1)).heap.size := Nat.le_trans s3 hT4.size
  have o4 := p3d
  obtain ⟨-, -, -, -, -, -, -, -, -, -, q10, -, -, -⟩ := t4.c14
  clear hin hT4 p3a p3b p3c p3d t3 r3 o3 O3 b3 s3
  go_wp2_with fail
  clear f0 f1 f2 f3 f4 f5 f6 f7 f8 f9 f10 f11 f12 f13 c0 c1 c2 c3 c4 c5 c6 c7 c8 c9 c10 c11 c12 c13
  generalize (((w3.setCell ⟨w.heap.size + 2, 6, none⟩ (.int .i64 yv)).setCell ⟨w.heap.size + 2, 7, none⟩ (.int .i64 yn)).setCell ⟨w.heap.size + 2, 8, none⟩ (.slice as1 sn cs1)).setCell ⟨w.heap.size + 2, 9, none⟩ (.slice al1 ln cl1) = W4 at t4 r4 O4 b4 s4 o4 q10 ⊢
  refine (HB.out _ (hx.bl.below b4) (hx.ib.below b4)).mono ?_
  rintro e w5 ⟨u, us, rfl, hus, hOn, hbn⟩
  have t5 := t4.below hbn
  have r5 := r4.below hbn
  have o5 := o4.below hbn
  have b5 := b4.trans (hbn.mono b4.size)
  have s5 : w.heap.size + 3 ≤ w5.heap.size := Nat.le_trans s4 hbn.size
  have O5 := O4.putBl u us rfl hbn hOn s4
  have eb : ∃ a n c, u = .slice a n c := by obtain ⟨a, c, h⟩ := ownSlX hOn.row; exact ⟨a, _, c, h⟩
  obtain ⟨ab, bn, cb, eb⟩ := eb
  subst eb
  simp only at O5
  clear hOn hbn t4 r4 o4 b4 s4 O4 q10 HB
  obtain ⟨f0, f1, f2, f3, f4, f5, f6, f7, f8, f9, f10, f11, f12, f13⟩ := o5.f14
  obtain ⟨c0, c1, c2, c3, c4, c5, c6, c7, c8, c9, c10, c11, c12, c13⟩ := o5.c14
  have p5a : Bx _ _ _ #[.int .i64 X.idn, .int .i64 X.n, .int .i64 X.vw, .int .i64 X.vo, .int .i64 X.lo, .int .i64 X.pr, .int .i64 yv, .int .i64 yn, .slice as1 sn cs1, .slice al1 ln cl1, .slice ab bn cb, .slice none 0 0, .slice none 0 0, .slice none 0 0] := o5.set 10 (.slice ab bn cb)
  have hin : w.heap.size + 2 ∈ [w.heap.size + 2] := List.mem_singleton.2 rfl
  have hT6 : Touch [w.heap.size + 2] w5 (w5.setCell ⟨w.heap.size + 2, 10, none⟩ (.slice ab bn cb)) := (Touch.set hin)
  have t6 : Bx (w5.setCell ⟨w.heap.size + 2, 10, none⟩ (.slice ab bn cb)) w.heap.size 87 _ := t5.of_block (hT6.block _ t5.lt (by simp))
  have r6 : Bx (w5.setCell ⟨w.heap.size + 2, 10, none⟩ (.slice ab bn cb)) (w.heap.size + 1) 31 _ := r5.of_block (hT6.block _ r5.lt (by simp))
  have O6 := O5.touch hT6 (fun q hq e => by have h1 := (O5.bound hq).1; have h2 := List.mem_singleton.1 e; omega)
  have b6 : Below w.heap.size w (w5.setCell ⟨w.heap.size + 2, 10, none⟩ (.slice ab bn cb)) := hT6.below b5 (fun q hq => by have := List.mem_singleton.1 hq; omega)
  have s6 : w.heap.size + 3 ≤ (w5.setCell ⟨w.heap.size + 2, 10, none⟩ (.slice ab bn cb)).heap.size := Nat.le_trans s5 hT6.size
  have o6 := p5a
  obtain ⟨-, -, -, -, -, -, -, -, -, -, -, q11, -, -⟩ := t6.c14
  clear hin hT6 p5a t5 r5 o5 O5 b5 s5
  go_wp2_with fail
  clear f0 f1 f2 f3 f4 f5 f6 f7 f8 f9 f10 f11 f12 f13 c0 c1 c2 c3 c4 c5 c6 c7 c8 c9 c10 c11 c12 c13
  generalize w5.setCell ⟨w.heap.size + 2, 10, none⟩ (.slice ab bn cb) = W6 at t6 r6 O6 b6 s6 o6 q11 ⊢
  refine (HV.out _ (hx.vo.below b6)).mono ?_
  rintro e w7 ⟨u, rfl, hOn, hbn⟩
  have t7 := t6.below hbn
  have r7 := r6.below hbn
  have o7 := o6.below hbn
  have b7 := b6.trans (hbn.mono b6.size)
  have s7 : w.heap.size + 3 ≤ w7.heap.size := Nat.le_trans s6 hbn.size
  have O7 := O6.putVo u _ rfl hbn hOn s6
  have eb : ∃ a n c, u = .slice a n c := by obtain ⟨a, c, h⟩ := ownSlX hOn; exact ⟨a, _, c, h⟩
  obtain ⟨av, nv, cv, eb⟩ := eb
  subst eb
  simp only at O7
  clear hOn hbn t6 r6 o6 b6 s6 O6 q11 HV
  obtain ⟨f0, f1, f2, f3, f4, f5, f6, f7, f8, f9, f10, f11, f12, f13⟩ := o7.f14
  obtain ⟨c0, c1, c2, c3, c4, c5, c6, c7, c8, c9, c10, c11, c12, c13⟩ := o7.c14
  have p7a : Bx _ _ _ #[.int .i64 X.idn, .int .i64 X.n, .int .i64 X.vw, .int .i64 X.vo, .int .i64 X.lo, .int .i64 X.pr, .int .i64 yv, .int .i64 yn, .slice as1 sn cs1, .slice al1 ln cl1, .slice ab bn cb, .slice av nv cv, .slice none 0 0, .slice none 0 0] := o7.set 11 (.slice av nv cv)
  have hin : w.heap.size + 2 ∈ [w.heap.size + 2] := List.mem_singleton.2 rfl
  have hT8 : Touch [w.heap.size + 2] w7 (w7.setCell ⟨w.heap.size + 2, 11, none⟩ (.slice av nv cv)) := (Touch.set hin)
  have t8 : Bx (w7.setCell ⟨w.heap.size + 2, 11, none⟩ (.slice av nv cv)) w.heap.size 87 _ := t7.of_block (hT8.block _ t7.lt (by simp))
  have r8 : Bx (w7.setCell ⟨w.heap.size + 2, 11, none⟩ (.slice av nv cv)) (w.heap.size + 1) 31 _ := r7.of_block (hT8.block _ r7.lt (by simp))
  have O8 := O7.touch hT8 (fun q hq e => by have h1 := (O7.bound hq).1; have h2 := List.mem_singleton.1 e; omega)
  have b8 : Below w.heap.size w (w7.setCell ⟨w.heap.size + 2, 11, none⟩ (.slice av nv cv)) := hT8.below b7 (fun q hq => by have := List.mem_singleton.1 hq; omega)
  have s8 : w.heap.size + 3 ≤ (w7.setCell ⟨w.heap.size + 2, 11, none⟩ (.slice av nv cv)).heap.size := Nat.le_trans s7 hT8.size
  have o8 := p7a
  obtain ⟨-, -, -, -, -, -, -, -, -, -, -, -, q12, -⟩ := t8.c14
  clear hin hT8 p7a t7 r7 o7 O7 b7 s7
  go_wp2_with fail
  clear f0 f1 f2 f3 f4 f5 f6 f7 f8 f9 f10 f11 f12 f13 c0 c1 c2 c3 c4 c5 c6 c7 c8 c9 c10 c11 c12 c13
  generalize w7.setCell ⟨w.heap.size + 2, 11, none⟩ (.slice av nv cv) = W8 at t8 r8 O8 b8 s8 o8 q12 ⊢
  refine (HN.out _ (hx.nw.below b8)).mono ?_
  rintro e w9 ⟨u, rfl, hOn, hbn⟩
  have t9 := t8.below hbn
  have r9 := r8.below hbn
  have o9 := o8.below hbn
  have b9 := b8.trans (hbn.mono b8.size)
  have s9 : w.heap.size + 3 ≤ w9.heap.size := Nat.le_trans s8 hbn.size
  have O9 := O8.putNw u _ rfl hbn hOn s8
  have eb : ∃ a n c, u = .slice a n c := by obtain ⟨a, c, h⟩ := ownSlX hOn; exact ⟨a, _, c, h⟩
  obtain ⟨an, nn, cn, eb⟩ := eb
  subst eb
  simp only at O9
  clear hOn hbn t8 r8 o8 b8 s8 O8 q12 HN
  obtain ⟨f0, f1, f2, f3, f4, f5, f6, f7, f8, f9, f10, f11, f12, f13⟩ := o9.f14
  obtain ⟨c0, c1, c2, c3, c4, c5, c6, c7, c8, c9, c10, c11, c12, c13⟩ := o9.c14
  have p9a : Bx _ _ _ #[.int .i64 X.idn, .int .i64 X.n, .int .i64 X.vw, .int .i64 X.vo, .int .i64 X.lo, .int .i64 X.pr, .int .i64 yv, .int .i64 yn, .slice as1 sn cs1, .slice al1 ln cl1, .slice ab bn cb, .slice av nv cv, .slice an nn cn, .slice none 0 0] := o9.set 12 (.slice an nn cn)
  have hin : w.heap.size + 2 ∈ [w.heap.size + 2] := List.mem_singleton.2 rfl
  have hT10 : Touch [w.heap.size + 2] w9 (w9.setCell ⟨w.heap.size + 2, 12, none⟩ (.slice an nn cn)) := (Touch.set hin)
  have t10 : Bx (w9.setCell ⟨w.heap.size + 2, 12, none⟩ (.slice an nn cn)) w.heap.size 87 _ := t9.of_block (hT10.block _ t9.lt (by simp))
  have r10 : Bx (w9.setCell ⟨w.heap.size + 2, 12, none⟩ (.slice an nn cn)) (w.heap.size + 1) 31 _ := r9.of_block (hT10.block _ r9.lt (by simp))
  have O10 := O9.touch hT10 (fun q hq e => by have h1 := (O9.bound hq).1; have h2 := List.mem_singleton.1 e; omega)
  have b10 : Below w.heap.size w (w9.setCell ⟨w.heap.size + 2, 12, none⟩ (.slice an nn cn)) := hT10.below b9 (fun q hq => by have := List.mem_singleton.1 hq; omega)
  have s10 : w.heap.size + 3 ≤ (w9.setCell ⟨w.heap.size + 2, 12, none⟩ (.slice an nn cn)).heap.size := Nat.le_trans s9 hT10.size
  have o10 := p9a
  obtain ⟨-, -, -, -, -, -, -, -, -, -, -, -, -, q13⟩ := t10.c14
  clear hin hT10 p9a t9 r9 o9 O9 b9 s9
  go_wp2_with fail
  clear f0 f1 f2 f3 f4 f5 f6 f7 f8 f9 f10 f11 f12 f13 c0 c1 c2 c3 c4 c5 c6 c7 c8 c9 c10 c11 c12 c13
  generalize w9.setCell ⟨w.heap.size + 2, 12, none⟩ (.slice an nn cn) = W10 at t10 r10 O10 b10 s10 o10 q13 ⊢
  refine (HD.out _ (hx.dn.below b10)).mono ?_
  rintro e w11 ⟨u, rfl, hOn, hbn⟩
  have t11 := t10.below hbn
  have r11 := r10.below hbn
  have o11 := o10.below hbn
  have b11 := b10.trans (hbn.mono b10.size)
  have s11 : w.heap.size + 3 ≤ w11.heap.size := Nat.le_trans s10 hbn.size
  have O11 := O10.putDn u _ rfl hbn hOn s10
  have eb : ∃ a n c, u = .slice a n c := by obtain ⟨a, c, h⟩ := ownSlX hOn; exact ⟨a, _, c, h⟩
  obtain ⟨ad, nd, cd, eb⟩ := eb
  subst eb
  simp only at O11
  clear hOn hbn t10 r10 o10 b10 s10 O10 q13 HD
  obtain ⟨f0, f1, f2, f3, f4, f5, f6, f7, f8, f9, f10, f11, f12, f13⟩ := o11.f14
  obtain ⟨c0, c1, c2, c3, c4, c5, c6, c7, c8, c9, c10, c11, c12, c13⟩ := o11.c14
  have p11a : Bx _ _ _ #[.int .i64 X.idn, .int .i64 X.n, .int .i64 X.vw, .int .i64 X.vo, .int .i64 X.lo, .int .i64 X.pr, .int .i64 yv, .int .i64 yn, .slice as1 sn cs1, .slice al1 ln cl1, .slice ab bn cb, .slice av nv cv, .slice an nn cn, .slice ad nd cd] := o11.set 13 (.slice ad nd cd)
  have hin : w.heap.size + 2 ∈ [w.heap.size + 2] := List.mem_singleton.2 rfl
  have hT12 : Touch [w.heap.size + 2] w11 (w11.setCell ⟨w.heap.size + 2, 13, none⟩ (.slice ad nd cd)) := (Touch.set hin)
  have t12 : Bx (w11.setCell ⟨w.heap.size + 2, 13, none⟩ (.slice ad nd cd)) w.heap.size 87 _ := t11.of_block (hT12.block _ t11.lt (by simp))
  have r12 : Bx (w11.setCell ⟨w.heap.size + 2, 13, none⟩ (.slice ad nd cd)) (w.heap.size + 1) 31 _ := r11.of_block (hT12.block _ r11.lt (by simp))
  have O12 := O11.touch hT12 (fun q hq e => by have h1 := (O11.bound hq).1; have h2 := List.mem_singleton.1 e; omega)
  have b12 : Below w.heap.size w (w11.setCell ⟨w.heap.size + 2, 13, none⟩ (.slice ad nd cd)) := hT12.below b11 (fun q hq => by have := List.mem_singleton.1 hq; omega)
  have s12 : w.heap.size + 3 ≤ (w11.setCell ⟨w.heap.size + 2, 13, none⟩ (.slice ad nd cd)).heap.size := Nat.le_trans s11 hT12.size
  have o12 := p11a
  clear f0 f1 f2 f3 f4 f5 f6 f7 f8 f9 f10 f11 f12 f13 c0 c1 c2 c3 c4 c5 c6 c7 c8 c9 c10 c11 c12 c13
  obtain ⟨fo0, fo1, fo2, fo3, fo4, fo5, fo6, fo7, fo8, fo9, fo10, fo11, fo12, fo13⟩ := o11.f14
  obtain ⟨co0, co1, co2, co3, co4, co5, co6, co7, co8, co9, co10, co11, co12, co13⟩ := o11.c14
  obtain ⟨g0, g1, g2, g3, g4, g5, g6, g7, g8, g9, g10, g11, g12, g13⟩ := o12.c14
  obtain ⟨h0, h1, h2, h3, h4, h5, h6, h7, h8, h9, h10, h11, h12, h13⟩ := r12.c14
  obtain ⟨e0, e1, e2, e3, e4, e5, e6, e7, e8, e9, e10, e11, e12, e13⟩ := r12.f14
  obtain ⟨k0, k1, k2, k3, k4, k5, k6, k7, k8, k9, k10, k11, k12, k13⟩ := (r12.put14 (.int .i64 X.idn) (.int .i64 X.n) (.int .i64 X.vw) (.int .i64 X.vo) (.int .i64 X.lo) (.int .i64 X.pr) (.int .i64 yv) (.int .i64 yn) (.slice as1 sn cs1) (.slice al1 ln cl1) (.slice ab bn cb) (.slice av nv cv) (.slice an nn cn) (.slice ad nd cd)).c14
  have HF : Hid (ToRep w X.rep (.returned (.agg #[.int .i64 X.idn, .int .i64 X.n, .int .i64 X.vw, .int .i64 X.vo, .int .i64 X.lo, .int .i64 X.pr, .int .i64 yv, .int .i64 yn, .slice as1 sn cs1, .slice al1 ln cl1, .slice ab bn cb, .slice av nv cv, .slice an nn cn, .slice ad nd cd])) (put14 (w11.setCell ⟨w.heap.size + 2, 13, none⟩ (.slice ad nd cd)) (w.heap.size + 1) (.int .i64 X.idn) (.int .i64 X.n) (.int .i64 X.vw) (.int .i64 X.vo) (.int .i64 X.lo) (.int .i64 X.pr) (.int .i64 yv) (.int .i64 yn) (.slice as1 sn cs1) (.slice al1 ln cl1) (.slice ab bn cb) (.slice av nv cv) (.slice an nn cn) (.slice ad nd cd))) := by
    have hown := O12.touch (put14_touch (b := w.heap.size + 1) (u0 := .int .i64 X.idn) (u1 := .int .i64 X.n) (u2 := .int .i64 X.vw) (u3 := .int .i64 X.vo) (u4 := .int .i64 X.lo) (u5 := .int .i64 X.pr) (u6 := .int .i64 yv) (u7 := .int .i64 yn) (u8 := .slice as1 sn cs1) (u9 := .slice al1 ln cl1) (u10 := .slice ab bn cb) (u11 := .slice av nv cv) (u12 := .slice an nn cn) (u13 := .slice ad nd cd)) (fun q hq e => by have h1 := (O12.bound hq).1; have h2 := List.mem_singleton.1 e; omega)
    refine ⟨_, rfl, ?_, hown.mono (by omega), put14_below b12 (by omega)⟩
    simp only [RepX.rep, hY, hus]
  unfold put14 at k0 k1 k2 k3 k4 k5 k6 k7 k8 k9 k10 k11 k12 k13 HF
  clear hin hT12 p11a t11 r11 o11 O11 b11 s11 t12 r12 o12 O12 b12 s12
  go_wp2
  exact bodyPost_ret (v := .agg #[.int .i64 X.idn, .int .i64 X.n, .int .i64 X.vw, .int .i64 X.vo, .int .i64 X.lo, .int .i64 X.pr, .int .i64 yv, .int .i64 yn, .slice as1 sn cs1, .slice al1 ln cl1, .slice ab bn cb, .slice av nv cv, .slice an nn cn, .slice ad nd cd]) (by simp [results, Tryz.results48, go_sem, k0, k1, k2, k3, k4, k5, k6, k7, k8, k9, k10, k11, k12, k13]) rfl HF.out
set_option maxHeartbeats 4000000 in
set_option maxRecDepth 100000 in
theorem eqReplica_same (Y Z : RepX) (w : World) (hy : RdRep w Y) (hz : RdRep w Z) (hp : Y.rep = Z.rep) :
    Calls Tryz.prog 50 #[.agg #[.int .i64 Y.idn, .int .i64 Y.n, .int .i64 Y.vw, .int .i64 Y.vo, .int .i64 Y.lo, .int .i64 Y.pr, .int .i64 Y.hi.p.vw, .int .i64 Y.hi.p.nm, Y.hi.vs, Y.hi.vt, Y.vb, Y.vv, Y.vn, Y.vd], .agg #[.int .i64 Z.idn, .int .i64 Z.n, .int .i64 Z.vw, .int .i64 Z.vo, .int .i64 Z.lo, .int .i64 Z.pr, .int .i64 Z.hi.p.vw, .int .i64 Z.hi.p.nm, Z.hi.vs, Z.hi.vt, Z.vb, Z.vv, Z.vn, Z.vd]] w fun e w' => e = .returned (.bool true) ∧ Below w.heap.size w w' := by
  obtain ⟨d, n, v, o, l, r, yp, yb, ybs, yv, yvs, yn, yns, yd, ydn⟩ := Y
  obtain ⟨d2, n2, v2, o2, l2, r2, zp, zb, zbs, zv, zvs, zn, zns, zd, zdn⟩ := Z
  simp only [RepX.rep, Rep.mk.injEq] at hp
  obtain ⟨rfl, rfl, rfl, rfl, rfl, rfl, hpp, hbb, rfl, rfl, rfl⟩ := hp
  have HP : Hid (∀ W, RdPr W yp → RdPr W zp → Calls Tryz.prog 113 #[.agg #[.int .i64 yp.p.vw, .int .i64 yp.p.nm, yp.vs, yp.vt], .agg #[.int .i64 zp.p.vw, .int .i64 zp.p.nm, zp.vs, zp.vt]] W fun e w' => e = .returned (.bool true) ∧ Below W.heap.size W w') := fun W h1 h2 => eqProof_same yp zp W h1 h2 hpp
  have HB : Hid (∀ W, RdBs W yb ybs → InBs W ybs → RdBs W zb zbs → InBs W zbs → Calls Tryz.prog 114 #[yb, zb] W fun e w' => e = .returned (.bool true) ∧ Below W.heap.size W w') := fun W h1 h2 h3 h4 => eqBlocks_same yb zb ybs zbs W h1 h2 h3 h4 hbb
  have HV : Hid (∀ W, RdVo W yv yvs → RdVo W zv yvs → Calls Tryz.prog 115 #[yv, zv] W fun e w' => e = .returned (.bool true) ∧ Below W.heap.size W w') := fun W h1 h2 => eqVotes_same yv zv yvs W h1 h2
  have HN : Hid (∀ W, RdNw W yn yns → RdNw W zn yns → Calls Tryz.prog 116 #[yn, zn] W fun e w' => e = .returned (.bool true) ∧ Below W.heap.size W w') := fun W h1 h2 => eqNewss_same yn zn yns W h1 h2
  have HD : Hid (∀ W, RdI W yd ydn → RdI W zd ydn → Calls Tryz.prog 117 #[yd, zd] W fun e w' => e = .returned (.bool true) ∧ Below W.heap.size W w') := fun W h1 h2 => eqIntsZ yd zd ydn W h1 h2
  clear hpp hbb
  obtain ⟨hy1, hy2, hy3, hy4, hy5, hy6⟩ := hy
  obtain ⟨hz1, hz2, hz3, hz4, hz5, hz6⟩ := hz
  simp only at hy1 hy2 hy3 hy4 hy5 hy6 hz1 hz2 hz3 hz4 hz5 hz6 ⊢
  obtain ⟨⟨pv, pn, ps, pt⟩, pvs, pvt⟩ := yp
  obtain ⟨⟨qv, qn, qs, qt⟩, qvs, qvt⟩ := zp
  simp only at HP
  obtain ⟨A, hA⟩ : ∃ A, A = Obj.cells #[.int .i64 d, .int .i64 n, .int .i64 v, .int .i64 o, .int .i64 l, .int .i64 r, .int .i64 pv, .int .i64 pn, pvs, pvt, yb, yv, yn, yd] 31 := ⟨_, rfl⟩
  obtain ⟨B, hB⟩ : ∃ B, B = Obj.cells #[.int .i64 d, .int .i64 n, .int .i64 v, .int .i64 o, .int .i64 l, .int .i64 r, .int .i64 qv, .int .i64 qn, qvs, qvt, zb, zv, zn, zd] 31 := ⟨_, rfl⟩
  have t0 : Bx ((w.alloc A).alloc B) w.heap.size 31 #[.int .i64 d, .int .i64 n, .int .i64 v, .int .i64 o, .int .i64 l, .int .i64 r, .int .i64 pv, .int .i64 pn, pvs, pvt, yb, yv, yn, yd] := by rw [hA]; exact (bx_new w _ _).below (below1 _ _)
  have u0 : Bx ((w.alloc A).alloc B) (w.heap.size + 1) 31 #[.int .i64 d, .int .i64 n, .int .i64 v, .int .i64 o, .int .i64 l, .int .i64 r, .int .i64 qv, .int .i64 qn, qvs, qvt, zb, zv, zn, zd] := by
    have h := bx_new (w.alloc A) 31 #[.int .i64 d, .int .i64 n, .int .i64 v, .int .i64 o, .int .i64 l, .int .i64 r, .int .i64 qv, .int .i64 qn, qvs, qvt, zb, zv, zn, zd]
    rw [szQ] at h
    rw [hB]; exact h
  have b0 : Below w.heap.size w ((w.alloc A).alloc B) := below2 w A B
  obtain ⟨W0, hW0⟩ : ∃ W0, W0 = (w.alloc A).alloc B := ⟨_, rfl⟩
  rw [← hW0] at t0 u0 b0
  rw [hA, hB] at hW0
  obtain ⟨c0, c1, c2, c3, c4, c5, c6, c7, c8, c9, c10, c11, c12, c13⟩ := t0.c14
  obtain ⟨d0, d1, d2, d3, d4, d5, d6, d7, d8, d9, d10, d11, d12, d13⟩ := u0.c14
  rw [hW0] at c0 c1 c2 c3 c4 c5 c6 c7 c8 c9 c10 c11 c12 c13 d0 d1 d2 d3 d4 d5 d6 d7 d8 d9 d10 d11 d12 d13
  have n0 : (d != d) = false := by simp
  have n1 : (n != n) = false := by simp
  have n2 : (v != v) = false := by simp
  have n3 : (o != o) = false := by simp
  have n4 : (l != l) = false := by simp
  have n5 : (r != r) = false := by simp
  have HW0 : Hid (((w.alloc (Obj.cells #[.int .i64 d, .int .i64 n, .int .i64 v, .int .i64 o, .int .i64 l, .int .i64 r, .int .i64 pv, .int .i64 pn, pvs, pvt, yb, yv, yn, yd] 31)).alloc (Obj.cells #[.int .i64 d, .int .i64 n, .int .i64 v, .int .i64 o, .int .i64 l, .int .i64 r, .int .i64 qv, .int .i64 qn, qvs, qvt, zb, zv, zn, zd] 31)) = W0) := hW0.symm
  clear hA hB hW0
  go_enter Tryz.func50, Tryz.ntmps50
  go_wp2_with fail
  rw [HW0.out]
  refine (HP.out _ (hy1.below b0) (hz1.below b0)).mono ?_
  rintro e w1 ⟨rfl, hb1⟩
  have t1 := t0.below hb1
  have u1 := u0.below hb1
  have b1 := b0.trans (hb1.mono b0.size)
  clear c0 c1 c2 c3 c4 c5 c6 c7 c8 c9 c10 c11 c12 c13 d0 d1 d2 d3 d4 d5 d6 d7 d8 d9 d10 d11 d12 d13 t0 u0 b0 hb1 HW0 HP n0 n1 n2 n3 n4 n5
  obtain ⟨-, -, -, -, -, -, -, -, -, -, c10, -⟩ := t1.c14
  obtain ⟨-, -, -, -, -, -, -, -, -, -, d10, -⟩ := u1.c14
  go_wp2_with fail
  refine (HB.out _ (hy2.below b1) (hy3.below b1) (hz2.below b1) (hz3.below b1)).mono ?_
  rintro e w2 ⟨rfl, hb2⟩
  have t2 := t1.below hb2
  have u2 := u1.below hb2
  have b2 := b1.trans (hb2.mono b1.size)
  clear c10 d10 t1 u1 b1 hb2 HB
  obtain ⟨-, -, -, -, -, -, -, -, -, -, -, c11, -⟩ := t2.c14
  obtain ⟨-, -, -, -, -, -, -, -, -, -, -, d11, -⟩ := u2.c14
  go_wp2_with fail
  refine (HV.out _ (hy4.below b2) (hz4.below b2)).mono ?_
  rintro e w3 ⟨rfl, hb3⟩
  have t3 := t2.below hb3
  have u3 := u2.below hb3
  have b3 := b2.trans (hb3.mono b2.size)
  clear c11 d11 t2 u2 b2 hb3 HV
  obtain ⟨-, -, -, -, -, -, -, -, -, -, -, -, c12, -⟩ := t3.c14
  obtain ⟨-, -, -, -, -, -, -, -, -, -, -, -, d12, -⟩ := u3.c14
  go_wp2_with fail
  refine (HN.out _ (hy5.below b3) (hz5.below b3)).mono ?_
  rintro e w4 ⟨rfl, hb4⟩
  have t4 := t3.below hb4
  have u4 := u3.below hb4
  have b4 := b3.trans (hb4.mono b3.size)
  clear c12 d12 t3 u3 b3 hb4 HN
  obtain ⟨-, -, -, -, -, -, -, -, -, -, -, -, -, c13⟩ := t4.c14
  obtain ⟨-, -, -, -, -, -, -, -, -, -, -, -, -, d13⟩ := u4.c14
  go_wp2_with fail
  refine (HD.out _ (hy6.below b4) (hz6.below b4)).mono ?_
  rintro e w5 ⟨rfl, hb5⟩
  have b5 := b4.trans (hb5.mono b4.size)
  clear c13 d13 t4 u4 b4 hb5 HD
  go_wp2
  go_ret
  exact ⟨rfl, b5⟩
end Go.Proofs.YtilhaokiohbeeaaGreatDoor
