/- A voter whose lists are all its own; what voterOf answers: plain. The contracts of the model's copies of a Block and of rows of Blocks. -/
import Derived.Test.YtilhaokiohbeeaaGreatDoorVtrAdy
import Derived.Test.YtilhaokiohbeeaaGreatDoorG42
import Derived.Test.YtilhaokiohbeeaaGreatDoorG17
import Derived.Test.YtilhaokiohbeeaaGreatDoorG07
-- UNF Gen
namespace Go.Proofs.YtilhaokiohbeeaaGreatDoor
open Go.RowKit
/-- May the first k Blocks come one by one? -/
noncomputable def ablB (bs : List Blk) (n : Int) : Nat → Bool
  | 0 => true
  | k + 1 => ablB bs n k && (decide (k < 60) && mayB (bs.take k) n (bs.getD k ⟨0, 0, prfZ, [], 0⟩))
theorem abl_no {bs : List Blk} {n : Int} {k m : Nat} (h : ablB bs n k = false) (hk : k ≤ m) : ablB bs n m = false := by
  induction m with
  | zero => have : k = 0 := by omega
            subst this; exact h
  | succ m ih =>
    by_cases e : k = m + 1
    · subst e; exact h
    · rw [ablB, ih (by omega)]; rfl
theorem abl_bls (bs : List Blk) (n : Int) : ∀ k, ablB bs n k = (decide (k ≤ 60) && blsB bs n k)
  | 0 => by simp [ablB, blsB]
  | k + 1 => by
    rw [ablB, blsB, abl_bls bs n k]
    by_cases h : k + 1 ≤ 60
    · rw [decide_eq_true (show k ≤ 60 by omega), decide_eq_true (show k < 60 by omega), decide_eq_true h]; simp
    · by_cases h2 : k ≤ 60
      · rw [decide_eq_false (show ¬ k < 60 by omega), decide_eq_false h]; simp
      · rw [decide_eq_false h2, decide_eq_false h]; simp
/-- Is it a right Replica, as the program asks it? -/
noncomputable def irepR (X : Rep) : Bool := numB X && (heaB X.n X.vs X.ns && (ablB X.bs X.n X.bs.length && ((prfR X.hi X.n && knoB X.bs X.hi) && dnI X.bs X.dn 0)))
theorem row_off_bbl {w : World} {B B' t s n : Nat} {v : Value} {xs : List Value} {Xs : List BlX} (ho : w.ownsRow B t s v n xs) (hi : InOB w B' Xs) (h1 : t ≠ 2) (h2 : t ≠ 9) : ∀ k, v.ownBlock = some k → k ∉ bblks Xs := fun k hk e => by
  obtain ⟨X, hX, hk2⟩ := List.mem_flatMap.1 e
  have h := hi X hX
  rcases List.mem_append.1 hk2 with hk2 | hk2
  · rcases List.mem_append.1 hk2 with hk2 | hk2
    · exact rows_apart ho h.pr.sv h1 k hk (mem_oneB.1 hk2)
    · exact rows_apart ho h.pr.tg h1 k hk (mem_oneB.1 hk2)
  · exact rows_apart ho h.mo h2 k hk (mem_oneB.1 hk2)
theorem row_off_prb {w : World} {B B' t s n : Nat} {v : Value} {xs : List Value} {X : PrX} (ho : w.ownsRow B t s v n xs) (h : OwnPr w B' X) (h1 : t ≠ 2) : ∀ k, v.ownBlock = some k → k ∉ prB X := fun k hk e => by
  rcases List.mem_append.1 e with e | e
  · exact rows_apart ho h.sv h1 k hk (mem_oneB.1 e)
  · exact rows_apart ho h.tg h1 k hk (mem_oneB.1 e)
theorem nod_all {W : World} {w0 N : Nat} {X : RepX} (hi : OwnPr W N X.hi) (bl : OwnBs W w0 X.vb X.bs) (ib : InOB W w0 X.bs) (vo : OwnVo W w0 X.vv X.vs) (nw : OwnNw W w0 X.vn X.ns) (dn : OwnI W N X.vd X.dn) (hb : ∀ k ∈ bblks X.bs, k < N) (hn : (bblks X.bs).Nodup) (hd : ∀ k ∈ prB X.hi, k ∉ oneB X.vd) : (repK X).Nodup := by
  have hiB : ∀ k ∈ prB X.hi, N ≤ k := fun k hk => (hi.bound hk).1
  have hdB : ∀ k ∈ oneB X.vd, N ≤ k := fun k hk => (World.ownsRow.lt dn k (mem_oneB.1 hk)).1
  unfold repK
  rw [List.nodup_append]
  refine ⟨hi.nodP, ?_, fun a ha b hb2 e => ?_⟩
  · rw [List.nodup_append]
    refine ⟨?_, ?_, fun a ha b hb2 e => ?_⟩
    · rw [List.nodup_append]
      exact ⟨oneBN _, hn, fun a ha b hb2 e => row_off_bbl bl ib (by decide) (by decide) a (mem_oneB.1 ha) (e ▸ hb2)⟩
    · rw [List.nodup_append, List.nodup_append]
      refine ⟨oneBN _, ⟨oneBN _, oneBN _, fun a ha b hb2 e => rows_apart nw dn (by decide) a (mem_oneB.1 ha) (mem_oneB.1 (e ▸ hb2))⟩, fun a ha b hb2 e => ?_⟩
      subst e
      rcases List.mem_append.1 hb2 with hb2 | hb2
      · exact rows_apart vo nw (by decide) a (mem_oneB.1 ha) (mem_oneB.1 hb2)
      · exact rows_apart vo dn (by decide) a (mem_oneB.1 ha) (mem_oneB.1 hb2)
    · subst e
      rcases List.mem_append.1 ha with ha | ha
      · rcases List.mem_append.1 hb2 with hb2 | hb2
        · exact rows_apart bl vo (by decide) a (mem_oneB.1 ha) (mem_oneB.1 hb2)
        rcases List.mem_append.1 hb2 with hb2 | hb2
        · exact rows_apart bl nw (by decide) a (mem_oneB.1 ha) (mem_oneB.1 hb2)
        · exact rows_apart bl dn (by decide) a (mem_oneB.1 ha) (mem_oneB.1 hb2)
      · rcases List.mem_append.1 hb2 with hb2 | hb2
        · exact row_off_bbl vo ib (by decide) (by decide) a (mem_oneB.1 hb2) ha
        rcases List.mem_append.1 hb2 with hb2 | hb2
        · exact row_off_bbl nw ib (by decide) (by decide) a (mem_oneB.1 hb2) ha
        · have := hb a ha; have := hdB a hb2; omega
  · subst e
    rcases List.mem_append.1 hb2 with hb2 | hb2
    · rcases List.mem_append.1 hb2 with hb2 | hb2
      · exact row_off_prb bl hi (by decide) a (mem_oneB.1 hb2) ha
      · have := hb a hb2; have := hiB a ha; omega
    rcases List.mem_append.1 hb2 with hb2 | hb2
    · exact row_off_prb vo hi (by decide) a (mem_oneB.1 hb2) ha
    rcases List.mem_append.1 hb2 with hb2 | hb2
    · exact row_off_prb nw hi (by decide) a (mem_oneB.1 hb2) ha
    · exact hd a ha hb2
/-- Its box's cells change, but not what tells its Blocks. -/
theorem VtA.chg {w0 W W' : World} {g : Nat} {V : Vt} {X' : RepX} (h : VtA w0 W g V) (ht : Touch [g] W W') (hb : X'.vb = V.X.vb) (hs : X'.bs = V.X.bs)
    (hx : Bx W' g 123 #[.int .i64 X'.idn, .int .i64 X'.n, .int .i64 X'.vw, .int .i64 X'.vo, .int .i64 X'.lo, .int .i64 X'.pr, .int .i64 X'.hi.p.vw, .int .i64 X'.hi.p.nm, X'.hi.vs, X'.hi.vt, X'.vb, X'.vv, X'.vn, X'.vd, V.vnm, .map (some V.mb), V.vst]) : VtA w0 W' g { V with X := X' } := by
  have hgt : ∀ {B t s n : Nat} {u : Value} {xs : List Value}, W.ownsRow B t s u n xs → 123 ≠ t → ∀ k, u.ownBlock = some k → k ∉ [g] := fun hr ht k hk e => by
    rw [List.mem_singleton.1 e] at hk
    exact h.box.row hr (fun e => ht e.symm) g hk rfl
  have hblk : ∀ {B : Nat} {X : BlX}, OwnBl W B X → ∀ k ∈ blB X, k ∉ [g] := fun hX k hk => by
    rcases List.mem_append.1 hk with hk | hk
    · rcases List.mem_append.1 hk with hk | hk
      · exact hgt hX.pr.sv (by decide) k (mem_oneB.1 hk)
      · exact hgt hX.pr.tg (by decide) k (mem_oneB.1 hk)
    · exact hgt hX.mo (by decide) k (mem_oneB.1 hk)
  obtain ⟨es, c, hm, hr⟩ := h.mp
  have hmg : V.mb ∉ [g] := fun e => by
    have hb := h.box
    rw [List.mem_singleton.1 e] at hm
    unfold Bx at hb
    rw [hb] at hm
    cases hm
  have hN : vtN { V with X := X' } = vtN V := by unfold vtN; simp only; rw [hs]
  refine ⟨ht.below h.bel (fun k hk => by rw [List.mem_singleton.1 hk]; exact h.ge), h.ge, h.mge, hx, ?_, ?_, ?_, ?_, ⟨es, c, (ht.block _ (Array.getElem?_eq_some_iff.1 hm).1 hmg).trans hm, hr⟩, h.im, ?_, ?_, ?_, ?_, ?_⟩
  · simp only; rw [hb, hs]; exact ht.row h.bl (hgt h.bl (by decide))
  · simp only; rw [hs]; exact fun X hX => (h.ib X hX).touch ht (hblk (h.ib X hX))
  · rw [hN]; exact ht.row h.nm (hgt h.nm (by decide))
  · simp only; rw [hs]; exact h.nod
  · simp only; rw [hs]; exact h.eqb
  · rw [hN]; exact h.uni
  · simp only; rw [hs]; exact h.fit
  · simp only; rw [hs]; exact h.sm
  · simp only; rw [hs]; exact h.len
/-- A voter all of whose lists are its own. -/
structure VtO (w0 W : World) (g : Nat) (V : Vt) : Prop where
  a : VtA w0 W g V
  own : OwnRep W w0.heap.size V.X
  nodn : (repK V.X ++ oneB V.vnm).Nodup
  st : W.ownsRow w0.heap.size 38 20 V.vst 0 []
/-- What voterOf answers. -/
def VoP (w : World) (X : RepX) (R : Bool) (e : Ending) (w' : World) : Prop :=
  (R = false ∧ (∃ g, e = .returned (.tuple #[.pointer (some ⟨g, 0, none⟩), .bool false])) ∧ Below w.heap.size w w') ∨
  (R = true ∧ ∃ g V, e = .returned (.tuple #[.pointer (some ⟨g, 0, none⟩), .bool true]) ∧ VtO w w' g V ∧ V.X.rep = X.rep)
/-- Where voterOf's loop stands: the argument's box beside the voter, k Blocks have come. -/
structure VtS (w W : World) (g : Nat) (V : Vt) (X : RepX) (k : Nat) : Prop where
  a : VtA w W g V
  arg : Bx W w.heap.size 31 #[.int .i64 X.idn, .int .i64 X.n, .int .i64 X.vw, .int .i64 X.vo, .int .i64 X.lo, .int .i64 X.pr, .int .i64 X.hi.p.vw, .int .i64 X.hi.p.nm, X.hi.vs, X.hi.vt, X.vb, X.vv, X.vn, X.vd]
  eqX : V.X = { X with vb := V.X.vb, bs := V.X.bs }
  eqb : bsOf V.X.bs = (bsOf X.bs).take k
  st : W.ownsRow w.heap.size 38 20 V.vst 0 []
theorem VtS.next {w W W' : World} {g : Nat} {V : Vt} {X : RepX} {k : Nat} (h : VtS w W g V X k) (hb : Below W.heap.size W W') : VtS w W' g V X k :=
  ⟨h.a.next hb, h.arg.below hb, h.eqX, h.eqb, own_below h.st hb⟩
/-- One more Block has come. -/
theorem VtS.plus {w W W' : World} {g : Nat} {V : Vt} {X : RepX} {k : Nat} (h : VtS w W g V X k) (hk : k < X.bs.length) {v u : Value} {Y M : BlX} (hY : Y.b = (nthBs X.bs k).b) (ha : VtA w W' g (V.plus v Y u M)) (ht : Touch (g :: V.mb :: (oneB V.X.vb ++ oneB V.vnm)) W W') : VtS w W' g (V.plus v Y u M) X (k + 1) := by
  obtain ⟨es, c, hm, -⟩ := h.a.mp
  have hoff : w.heap.size ∉ (g :: V.mb :: (oneB V.X.vb ++ oneB V.vnm)) := fun e => by
    rcases List.mem_cons.1 e with e | e
    · have h1 := h.arg
      have h2 := h.a.box
      rw [e] at h1
      unfold Bx at h1 h2
      rw [h1] at h2
      injection h2 with h2
      injection h2 with _ h3
      exact absurd h3 (by decide)
    rcases List.mem_cons.1 e with e | e
    · have h1 := h.arg
      rw [← e] at hm
      unfold Bx at h1
      rw [h1] at hm
      cases hm
    rcases List.mem_append.1 e with e | e
    · exact h.arg.row h.a.bl (by decide) _ (mem_oneB.1 e) rfl
    · exact h.arg.row h.a.nm (by decide) _ (mem_oneB.1 e) rfl
  have hoffS : ∀ q, V.vst.ownBlock = some q → q ∉ (g :: V.mb :: (oneB V.X.vb ++ oneB V.vnm)) := fun q hq e => by
    rcases List.mem_cons.1 e with e | e
    · subst e
      exact h.a.box.row h.st (by decide) q hq rfl
    rcases List.mem_cons.1 e with e | e
    · subst e
      exact row_no_map h.st hq hm
    rcases List.mem_append.1 e with e | e
    · exact rows_apart h.st h.a.bl (by decide) q hq (mem_oneB.1 e)
    · exact rows_apart h.st h.a.nm (by decide) q hq (mem_oneB.1 e)
  refine ⟨ha, h.arg.of_block (ht.block _ h.arg.lt hoff), ?_, ?_, ht.row h.st hoffS⟩
  · have := h.eqX
    simp only [Vt.plus]
    rw [this]
  · have h1 := h.eqb
    have h2 : bsOf (V.plus v Y u M).X.bs = bsOf V.X.bs ++ [Y.b] := by simp [bsOf, Vt.plus]
    rw [h2, h1, hY, ← bsOf_get (by rw [bsOf_len]; exact hk)]
    rw [List.take_succ_eq_append_getElem (by rw [bsOf_len]; exact hk)]
end Go.Proofs.YtilhaokiohbeeaaGreatDoor
-- UNF Gen
namespace Go.Proofs.YtilhaokiohbeeaaGreatDoor
open Go.RowKit
theorem blB_inS {t : BlX} {k : Nat} (h : k ∈ blB t) : k ∈ bblks [t] := List.mem_flatMap.2 ⟨t, List.mem_singleton.2 rfl, h⟩
set_option maxHeartbeats 4000000 in
set_option maxRecDepth 100000 in
theorem cpBlockS_any (X : BlX) (w : World) (hr0 : RdBl w X) (hn : NilOk X.vm) (hl1 : X.b.p.sv.length ≤ 1000000000) (hl2 : X.b.p.tg.length ≤ 1000000000) (hl3 : X.b.mo.length ≤ 1000000000) :
    Calls Tryz.prog 202 #[.agg #[.int .i64 X.b.vw, .int .i64 X.b.pa, .int .i64 X.b.p.vw, .int .i64 X.b.p.nm, X.vs, X.vt, X.vm, .int .i64 X.b.sv]] w fun e w' => ToBl w X.b e w' := by
  obtain ⟨⟨vw, pa, ⟨pv, pn, ps, pt⟩, mo, sv⟩, pvs, pvt, vm⟩ := X
  obtain ⟨hrp, hrm⟩ := hr0
  simp only [BlX.pr] at hrp hrm hn hl1 hl2 hl3 ⊢
  have HPC : Hid (∀ W, RdPr W ⟨⟨pv, pn, ps, pt⟩, pvs, pvt⟩ → Calls Tryz.prog 143 #[.agg #[.int .i64 pv, .int .i64 pn, pvs, pvt]] W fun e w' => ToPr W ⟨pv, pn, ps, pt⟩ e w') := fun W h => cpProofS_any ⟨⟨pv, pn, ps, pt⟩, pvs, pvt⟩ W h hl1 hl2
  clear hl1 hl2
  have t := (bx_new w 34 #[.int .i64 vw, .int .i64 pa, .int .i64 pv, .int .i64 pn, pvs, pvt, vm, .int .i64 sv]).below (below1 _ (.cells #[.int .i64 0, .int .i64 0, .int .i64 0, .int .i64 0, .slice none 0 0, .slice none 0 0, .slice none 0 0, .int .i64 0] 34))
  have r := bx_new (w.alloc (.cells #[.int .i64 vw, .int .i64 pa, .int .i64 pv, .int .i64 pn, pvs, pvt, vm, .int .i64 sv] 34)) 34 #[.int .i64 0, .int .i64 0, .int .i64 0, .int .i64 0, .slice none 0 0, .slice none 0 0, .slice none 0 0, .int .i64 0]
  have b := below2 w (.cells #[.int .i64 vw, .int .i64 pa, .int .i64 pv, .int .i64 pn, pvs, pvt, vm, .int .i64 sv] 34) (.cells #[.int .i64 0, .int .i64 0, .int .i64 0, .int .i64 0, .slice none 0 0, .slice none 0 0, .slice none 0 0, .int .i64 0] 34)
  have s : w.heap.size + 2 ≤ ((w.alloc (.cells #[.int .i64 vw, .int .i64 pa, .int .i64 pv, .int .i64 pn, pvs, pvt, vm, .int .i64 sv] 34)).alloc (.cells #[.int .i64 0, .int .i64 0, .int .i64 0, .int .i64 0, .slice none 0 0, .slice none 0 0, .slice none 0 0, .int .i64 0] 34)).heap.size := by simp
  rw [show (w.alloc (.cells #[.int .i64 vw, .int .i64 pa, .int .i64 pv, .int .i64 pn, pvs, pvt, vm, .int .i64 sv] 34)).heap.size = w.heap.size + 1 by simp] at r
  obtain ⟨q0, q1, q2, q3, q4, q5, q6, q7⟩ := t.c8
  go_enter Tryz.func202, Tryz.ntmps202
  go_wp2_with fail
  generalize (w.alloc (.cells #[.int .i64 vw, .int .i64 pa, .int .i64 pv, .int .i64 pn, pvs, pvt, vm, .int .i64 sv] 34)).alloc (.cells #[.int .i64 0, .int .i64 0, .int .i64 0, .int .i64 0, .slice none 0 0, .slice none 0 0, .slice none 0 0, .int .i64 0] 34) = W2 at t r b s q0 q1 q2 q3 q4 q5 q6 q7 ⊢
  refine (HPC.out _ (hrp.below b)).mono ?_
  rintro e u3 ⟨Y, rfl, hY, hP, hb⟩
  have t3 := t.below hb
  have r3 := r.below hb
  have b3 := b.trans (hb.mono b.size)
  have s3 : w.heap.size + 2 ≤ u3.heap.size := Nat.le_trans s hb.size
  replace hP := OwnPr.mono hP s
  obtain ⟨⟨yv, yn, ys, yt⟩, yvs, yvt⟩ := Y
  simp only [Prf.mk.injEq] at hY
  obtain ⟨hY1, hY2, hY3, hY4⟩ := hY
  replace hY1 := hY1.symm
  replace hY2 := hY2.symm
  replace hY3 := hY3.symm
  replace hY4 := hY4.symm
  subst hY1 hY2 hY3 hY4
  obtain ⟨a1, c1, a2, c2, e1, e2⟩ := hP.slices
  simp only at e1 e2 hP ⊢
  obtain ⟨n1, hn1⟩ : ∃ n, n = ps.length := ⟨_, rfl⟩
  obtain ⟨n2, hn2⟩ : ∃ n, n = pt.length := ⟨_, rfl⟩
  rw [← hn1] at e1
  rw [← hn2] at e2
  clear hn1 hn2
  subst e1 e2
  clear t r b s hb HPC q0 q1 q2 q3 q4 q5 q6 q7
  obtain ⟨f0, f1, f2, f3, f4, f5, f6, f7⟩ := t3.f8
  obtain ⟨g0, g1, g2, g3, g4, g5, g6, g7⟩ := t3.c8
  have HT : Touch [w.heap.size] u3 (putPB u3 w.heap.size (.int .i64 pv) (.int .i64 pn) (.slice a1 n1 c1) (.slice a2 n2 c2)) := putPB_touch
  have t4 := t3.putP (.int .i64 pv) (.int .i64 pn) (.slice a1 n1 c1) (.slice a2 n2 c2)
  have r4 := r3.of_block (HT.block _ r3.lt (by simp))
  have b4 := putPB_below (u0 := .int .i64 pv) (u1 := .int .i64 pn) (u2 := .slice a1 n1 c1) (u3 := .slice a2 n2 c2) b3 (Nat.le_refl _)
  have p4 := hP.touch HT (fun k hk e => by have h1 := (hP.bound hk).1; have h2 := List.mem_singleton.1 e; omega)
  have s4 := Nat.le_trans s3 HT.size
  unfold putPB at t4 r4 b4 p4 s4
  clear HT t3 r3 b3 hP
  obtain ⟨V, hV⟩ : ∃ V, V = ((((u3.setCell ⟨w.heap.size, 2, none⟩ (.int .i64 pv)).setCell ⟨w.heap.size, 3, none⟩ (.int .i64 pn)).setCell ⟨w.heap.size, 4, none⟩ (.slice a1 n1 c1)).setCell ⟨w.heap.size, 5, none⟩ (.slice a2 n2 c2)) := ⟨_, rfl⟩
  have szV : V.heap.size = u3.heap.size := by rw [hV]; simp
  rw [← hV] at t4 r4 b4 p4 s4
  have z2 : OwnS (World.alloc ((((u3.setCell ⟨w.heap.size, 2, none⟩ (.int .i64 pv)).setCell ⟨w.heap.size, 3, none⟩ (.int .i64 pn)).setCell ⟨w.heap.size, 4, none⟩ (.slice a1 n1 c1)).setCell ⟨w.heap.size, 5, none⟩ (.slice a2 n2 c2)) (.cells #[] 9)) u3.heap.size (.slice (some ⟨u3.heap.size, 0, none⟩) 0 0) [] := by
    rw [← hV, ← szV]; exact ownTx_none V
  have tA := t4.below (below1 V (.cells #[] 9))
  have bA := b4.alloc b4.size (.cells #[] 9)
  have hrA := hrm.below bA
  rw [hV] at tA hrA
  obtain ⟨q0, q1, q2, q3, q4, q5, q6, q7⟩ := tA.c8
  go_wp2_with (at_builtin; (refine wpList_append_txts rfl _ _ rfl u3.heap.size _ _ [] mo rfl rfl z2 hrA hn (by simp; omega) (by simp) ?_))
  intro u u5 ho hg
  rw [← hV] at hg
  have hbn : Below V.heap.size V u5 := (below1 V (.cells #[] 9)).grown hg (by simp) (fun k hk => by have : u3.heap.size = k := Option.some.inj hk; omega)
  obtain ⟨a3, c3, e3⟩ := ownSlX ho
  obtain ⟨n3, hn3⟩ : ∃ n, n = mo.length := ⟨_, rfl⟩
  rw [← hn3] at e3
  subst e3
  clear hn3
  have hap1 : ∀ k, (Value.slice a1 n1 c1).ownBlock = some k → (Value.slice a3 n3 c3).ownBlock = some k → False := fun k h1 h2 => by have := (World.ownsRow.lt p4.sv k h1).2; have := (World.ownsRow.lt ho k h2).1; omega
  have hap2 : ∀ k, (Value.slice a2 n2 c2).ownBlock = some k → (Value.slice a3 n3 c3).ownBlock = some k → False := fun k h1 h2 => by have := (World.ownsRow.lt p4.tg k h1).2; have := (World.ownsRow.lt ho k h2).1; omega
  have t5 := t4.below hbn
  have r5 := r4.below hbn
  have p5 := p4.below hbn
  have b5 := b4.trans (hbn.mono b4.size)
  have s5 : w.heap.size + 2 ≤ u5.heap.size := Nat.le_trans s4 hbn.size
  replace ho := ho.mono (show w.heap.size + 2 ≤ u3.heap.size by omega)
  clear z2 tA bA hrA q0 q1 q2 q3 q4 q5 q6 q7 hg t4 r4 b4 s4 p4 hbn hV szV V f0 f1 f2 f3 f4 f5 f6 f7 g0 g1 g2 g3 g4 g5 g6 g7
  have hown : OwnBl u5 (w.heap.size + 2) ⟨⟨vw, pa, ⟨pv, pn, ps, pt⟩, mo, sv⟩, .slice a1 n1 c1, .slice a2 n2 c2, .slice a3 n3 c3⟩ := ⟨p5, ho, hap1, hap2⟩
  obtain ⟨f0, f1, f2, f3, f4, f5, f6, f7⟩ := t5.f8
  obtain ⟨g0, g1, g2, g3, g4, g5, g6, g7⟩ := t5.c8
  have HT : Touch [w.heap.size] u5 (u5.setCell ⟨w.heap.size, 6, none⟩ (.slice a3 n3 c3)) := Touch.set (List.mem_singleton.2 rfl)
  have t6 : Bx (u5.setCell ⟨w.heap.size, 6, none⟩ (.slice a3 n3 c3)) w.heap.size 34 #[.int .i64 vw, .int .i64 pa, .int .i64 pv, .int .i64 pn, .slice a1 n1 c1, .slice a2 n2 c2, .slice a3 n3 c3, .int .i64 sv] := t5.set 6 (.slice a3 n3 c3)
  have r6 := r5.of_block (HT.block _ r5.lt (by simp))
  have b6 := b5.setCell (p := ⟨w.heap.size, 6, none⟩) (Nat.le_refl _) (.slice a3 n3 c3)
  have o6 := hown.touch HT (fun k hk e => by have h1 := (hown.bound hk).1; have h2 := List.mem_singleton.1 e; omega)
  obtain ⟨h0, h1, h2, h3, h4, h5, h6, h7⟩ := t6.c8
  obtain ⟨x0, x1, x2, x3, x4, x5, x6, x7⟩ := r6.c8
  obtain ⟨y0, y1, y2, y3, y4, y5, y6, y7⟩ := r6.f8
  obtain ⟨k0, k1, k2, k3, k4, k5, k6, k7⟩ := (r6.put8 (.int .i64 vw) (.int .i64 pa) (.int .i64 pv) (.int .i64 pn) (.slice a1 n1 c1) (.slice a2 n2 c2) (.slice a3 n3 c3) (.int .i64 sv)).c8
  have HF : Hid (ToBl w ⟨vw, pa, ⟨pv, pn, ps, pt⟩, mo, sv⟩ (.returned (.agg #[.int .i64 vw, .int .i64 pa, .int .i64 pv, .int .i64 pn, .slice a1 n1 c1, .slice a2 n2 c2, .slice a3 n3 c3, .int .i64 sv])) (put8B (u5.setCell ⟨w.heap.size, 6, none⟩ (.slice a3 n3 c3)) (w.heap.size + 1) (.int .i64 vw) (.int .i64 pa) (.int .i64 pv) (.int .i64 pn) (.slice a1 n1 c1) (.slice a2 n2 c2) (.slice a3 n3 c3) (.int .i64 sv))) :=
    ⟨⟨⟨vw, pa, ⟨pv, pn, ps, pt⟩, mo, sv⟩, .slice a1 n1 c1, .slice a2 n2 c2, .slice a3 n3 c3⟩, rfl, rfl, (o6.touch put8B_touch (fun q hq e => by have h1 := (o6.bound hq).1; have h2 := List.mem_singleton.1 e; omega)).mono (by omega), put8B_below b6 (by omega)⟩
  unfold put8B at k0 k1 k2 k3 k4 k5 k6 k7 HF
  clear o6 hown p5 ho hap1 hap2 t5 t6 r5 r6 b5 b6 s5 HT
  go_wp2
  exact bodyPost_ret (v := .agg #[.int .i64 vw, .int .i64 pa, .int .i64 pv, .int .i64 pn, .slice a1 n1 c1, .slice a2 n2 c2, .slice a3 n3 c3, .int .i64 sv]) (by simp [results, Tryz.results202, go_sem, k0, k1, k2, k3, k4, k5, k6, k7]) rfl HF.out
theorem rdBs_oneS (w : World) (X : BlX) (t : TypeId) : RdBs (w.alloc (.cells #[.int .i64 X.b.vw, .int .i64 X.b.pa, .int .i64 X.b.p.vw, .int .i64 X.b.p.nm, X.vs, X.vt, X.vm, .int .i64 X.b.sv] t)) (.slice (some ⟨w.heap.size, 0, none⟩) 1 1) [X] := by
  refine ⟨_, 1, rfl, Nat.le_refl _, by unfold maxLen; omega, (fun h => by cases h), .inr ⟨_, 0, rfl, fun i hi => ?_⟩⟩
  have : i = 0 := by simpa using hi
  subst this
  have h := (bx_new w t #[.int .i64 X.b.vw, .int .i64 X.b.pa, .int .i64 X.b.p.vw, .int .i64 X.b.p.nm, X.vs, X.vt, X.vm, .int .i64 X.b.sv]).c8
  exact h
set_option maxHeartbeats 2000000 in
set_option maxRecDepth 100000 in
theorem cpBlocksS_any (v : Value) (ts : List BlX) (w : World) (hr : RdBs w v ts) (hin : InBs w ts) (hnil : ∀ M ∈ ts, NilOk M.vm) (hn : bsz ts ≤ 1048576) :
    Calls Tryz.prog 156 #[v] w fun e w' => TosB w ts e w' := by
  obtain ⟨a, cap, hv, hla, hma, -⟩ := id hr
  have HL : Hid (∀ t ∈ ts, t.b.p.sv.length + t.b.p.tg.length + t.b.mo.length ≤ 1048576) := fun t ht => by have := bsz_mem ht; omega
  have HNL : Hid (∀ M ∈ ts, NilOk M.vm) := hnil
  have hn2 : ts.length ≤ 1048576 := by have := bsz_len ts; omega
  obtain ⟨nn, hnn⟩ : ∃ nn, nn = ts.length := ⟨_, rfl⟩
  have HNN : Hid (nn = ts.length) := hnn
  rw [← hnn] at hv hla hn2
  subst hv
  unfold maxLen at hma
  clear hnn hn hnil
  have b0 := below1 w (.cells #[] 34)
  have Z0 : Hid (OwnBL (w.alloc (.cells #[] 34)) w.heap.size (.slice (some ⟨w.heap.size, 0, none⟩) 0 0) []) := ⟨ownBs_none w, (fun t ht => by cases ht), by simp [bblks, oneBN]⟩
  go_enter Tryz.func156, Tryz.ntmps156
  go_wp2
  go_loopw [3, 4] (fun u i wr => ∃ (k : Nat) (us : List BlX), k ≤ nn ∧ i = .int .i64 k ∧ Hid (OwnBL wr w.heap.size u us) ∧ Hid (us.length = k ∧ us.map (·.b) = (ts.take k).map (·.b)) ∧ Below w.heap.size w wr) (fun _ i _ => nn - (intOf i).toNat)
  case atStart => exact ⟨0, [], Nat.zero_le _, rfl, Z0, ⟨rfl, rfl⟩, b0⟩
  case round =>
    obtain ⟨k, us, hk, rfl, HO, HC, hb⟩ := hrel
    clear Z0 b0
    by_cases hlt : k < nn
    · have hkl : k < ts.length := by rw [← HNN.out]; exact hlt
      obtain ⟨b, off, rfl, hc⟩ := (hr.below hb).atN k hkl
      have hri := (hin.below hb).nth hkl
      have hkc : k < cap := by omega
      have hlt2 := HL.out (nthBs ts k) (by rw [nthBs_eq hkl]; exact List.getElem_mem hkl)
      have hnl2 := HNL.out (nthBs ts k) (by rw [nthBs_eq hkl]; exact List.getElem_mem hkl)
      have HTK : Hid ((ts.take (k + 1)).map (·.b) = (ts.take k).map (·.b) ++ [(nthBs ts k).b]) := by unfold Hid; rw [take_snocB hkl, List.map_append]; rfl
      have HCL : Hid (∀ W, RdBl W (nthBs ts k) → Calls Tryz.prog 202 #[.agg #[.int .i64 (nthBs ts k).b.vw, .int .i64 (nthBs ts k).b.pa, .int .i64 (nthBs ts k).b.p.vw, .int .i64 (nthBs ts k).b.p.nm, (nthBs ts k).vs, (nthBs ts k).vt, (nthBs ts k).vm, .int .i64 (nthBs ts k).b.sv]] W fun e w' => ToBl W (nthBs ts k).b e w') := fun W h1 => cpBlockS_any _ W h1 hnl2 (by omega) (by omega) (by omega)
      generalize nthBs ts k = t at hc hri HTK HCL
      obtain ⟨c0, c1, c2, c3, c4, c5, c6, c7⟩ := id hc
      clear hlt2 hnl2 hkl
      go_wp2_with fail
      refine (HCL.out _ hri).mono ?_
      rintro e w2 ⟨Y, rfl, hyb, hoy, hb2⟩
      have b2 := hb.trans (hb2.mono hb.size)
      have HO2 : Hid (OwnBL w2 w.heap.size _ us) := HO.out.below hb2
      have HY : Hid (OwnBl w2 wr.heap.size Y) := hoy
      have HSZ : Hid (w.heap.size ≤ wr.heap.size) := hb.size
      have HOL : Hid (∀ q ∈ bblks us, q < wr.heap.size) := fun q hq => (HO.out.bound (List.mem_append_right _ hq)).2
      have e1 : ∃ a n c, Y.vs = .slice a n c := by obtain ⟨a, c, h⟩ := ownSlX hoy.pr.sv; exact ⟨a, _, c, h⟩
      have e2 : ∃ a n c, Y.vt = .slice a n c := by obtain ⟨a, c, h⟩ := ownSlX hoy.pr.tg; exact ⟨a, _, c, h⟩
      have e3 : ∃ a n c, Y.vm = .slice a n c := by obtain ⟨a, c, h⟩ := ownSlX hoy.mo; exact ⟨a, _, c, h⟩
      obtain ⟨yb, ys, yt, ym⟩ := Y
      obtain ⟨a1, n1, k1, e1⟩ := e1
      obtain ⟨a2, n2, k2, e2⟩ := e2
      obtain ⟨a3, n3, k3, e3⟩ := e3
      dsimp only at e1 e2 e3
      subst e1 e2 e3
      simp only at hyb ⊢
      have HYB : Hid (yb = t.b) := hyb
      clear hyb
      have bA := below1 w2 (.cells #[.int .i64 yb.vw, .int .i64 yb.pa, .int .i64 yb.p.vw, .int .i64 yb.p.nm, .slice a1 n1 k1, .slice a2 n2 k2, .slice a3 n3 k3, .int .i64 yb.sv] 34)
      have hO := HO2.out.row.below bA
      have hR := rdBs_oneS w2 ⟨yb, .slice a1 n1 k1, .slice a2 n2 k2, .slice a3 n3 k3⟩ 34
      have hlu : us.length = k := HC.out.1
      obtain ⟨au, cu, hvu⟩ := ownSlX hO
      rw [hlu] at hvu
      subst hvu
      clear hb hb2 hoy HCL hc hri c0 c1 c2 c3 c4 c5 c6 c7 HO
      go_wp2_with (at_builtin; (refine wpList_append_blocks rfl _ _ rfl w.heap.size _ _ us [⟨yb, .slice a1 n1 k1, .slice a2 n2 k2, .slice a3 n3 k3⟩] rfl rfl hO hR (fun X hX => by rw [List.mem_singleton.1 hX]; exact ⟨rfl, rfl, rfl⟩) (by simp; omega) (Nat.le_trans b2.size bA.size) ?_))
      intro u2 w3 ho3 hg3
      have b3 : Below w.heap.size w w3 := (b2.alloc b2.size _).grown hg3 (Nat.le_trans b2.size bA.size) (fun q hq => (World.ownsRow.lt hO q hq).1)
      have HX : Hid (OwnBL w3 w.heap.size u2 (us ++ [⟨yb, .slice a1 n1 k1, .slice a2 n2 k2, .slice a3 n3 k3⟩])) := by
        have tch := Touch.of_grown hg3 (fun q hq => mem_oneB.2 hq)
        have hi1 := HO2.out.ins.below bA
        have hy1 := HY.out.below bA
        have off1 := row_off_bbl hO hi1 (by decide) (by decide)
        have offy : ∀ q ∈ blB _, q ∉ oneB _ := fun q hq e => row_off_bbl hO (Xs := [⟨yb, .slice a1 n1 k1, .slice a2 n2 k2, .slice a3 n3 k3⟩]) (fun X hX => by rw [List.mem_singleton.1 hX]; exact hy1) (by decide) (by decide) q (mem_oneB.1 e) (blB_inS hq)
        have hi3 : InOB w3 w.heap.size (us ++ [⟨yb, .slice a1 n1 k1, .slice a2 n2 k2, .slice a3 n3 k3⟩]) := fun X hX => by
          rcases List.mem_append.1 hX with hX | hX
          · exact (hi1 X hX).touch tch (fun q hq e => off1 q (mem_oneB.1 e) (List.mem_flatMap.2 ⟨X, hX, hq⟩))
          · rw [List.mem_singleton.1 hX]
            exact (hy1.touch tch offy).mono HSZ.out
        refine ⟨ho3, hi3, ?_⟩
        rw [List.nodup_append]
        refine ⟨oneBN _, ?_, fun q h1 q2 h2 e => ?_⟩
        · rw [bblks_push, List.nodup_append]
          refine ⟨(List.nodup_append.1 HO2.out.nod).2.1, HY.out.nod, fun q h1 q2 h2 e => ?_⟩
          have := HOL.out q h1
          have := (HY.out.bound h2).1
          omega
        · subst e
          exact row_off_bbl ho3 hi3 (by decide) (by decide) q (mem_oneB.1 h1) h2
      have HC2 : Hid ((us ++ [(⟨yb, .slice a1 n1 k1, .slice a2 n2 k2, .slice a3 n3 k3⟩ : BlX)]).length = k + 1 ∧ (us ++ [(⟨yb, .slice a1 n1 k1, .slice a2 n2 k2, .slice a3 n3 k3⟩ : BlX)]).map (·.b) = (ts.take (k + 1)).map (·.b)) := by
        obtain ⟨g1, g2⟩ := HC.out
        exact ⟨by rw [List.length_append, g1]; rfl, by rw [List.map_append, g2, HTK.out]; simp [HYB.out]⟩
      clear hO hR hlu hg3 ho3 bA b2 HO2 HY HSZ HOL HC HTK
      go_wp2
      go_roundw
      case rel => exact ⟨k + 1, _, by omega, by go_num, HX, HC2, b3⟩
      case measure => simp [intOf]; omega
    · have hke : k = nn := by omega
      have HEND : Hid (∀ u, OwnBL wr w.heap.size u us → TosB w ts (.returned u) wr) := fun u hu => by
        obtain ⟨g1, g2⟩ := HC.out
        exact ⟨u, us, rfl, by rw [g2, hke, HNN.out, List.take_length], hu, hb⟩
      have HO2 := HEND.out _ HO.out
      have HO3 : Hid (TosB _ _ _ _) := HO2
      clear HO HC hke HEND HO2
      go_wp2
      go_ret
      exact HO3.out
end Go.Proofs.YtilhaokiohbeeaaGreatDoor
