/- A voter whose lists are all its own; what voterOf answers: plain. -/
import Derived.Test.YtahihlnhimmgdaaGreatDoorVtrAdy
import Derived.Test.YtahihlnhimmgdaaGreatDoorG43
-- UNF Gen
namespace Go.Proofs.YtahihlnhimmgdaaGreatDoor
open Go.RowKit
/-- May the first k Blocks come one by one? -/
noncomputable def ablB (bs : List Blk) (n : Int) : Nat → Bool
  | 0 => true
  | k + 1 => ablB bs n k && (decide (k < 60) && mayB (bs.take k) n (bs.getD k ⟨0, 0, prfZ, [], 0⟩))
theorem abl_no {bs : List Blk} {n : Int} {k m : Nat} (h : ablB bs n k = false) (hk : k ≤ m) : ablB bs n m = false := by
  induction m with
  | zero => have : k = 0 := by omega
            subst this; exact h
  | succ m ih =>
    by_cases e : k = m + 1
    · subst e; exact h
    · rw [ablB, ih (by omega)]; rfl
theorem abl_bls (bs : List Blk) (n : Int) : ∀ k, ablB bs n k = (decide (k ≤ 60) && blsB bs n k)
  | 0 => by simp [ablB, blsB]
  | k + 1 => by
    rw [ablB, blsB, abl_bls bs n k]
    by_cases h : k + 1 ≤ 60
    · rw [decide_eq_true (show k ≤ 60 by omega), decide_eq_true (show k < 60 by omega), decide_eq_true h]; simp
    · by_cases h2 : k ≤ 60
      · rw [decide_eq_false (show ¬ k < 60 by omega), decide_eq_false h]; simp
      · rw [decide_eq_false h2, decide_eq_false h]; simp
/-- Is it a right Replica, as the program asks it? -/
noncomputable def irepR (X : Rep) : Bool := numB X && (heaB X.n X.vs X.ns && (ablB X.bs X.n X.bs.length && ((prfR X.hi X.n && knoB X.bs X.hi) && dnI X.bs X.dn 0)))
theorem row_off_bbl {w : World} {B B' t s n : Nat} {v : Value} {xs : List Value} {Xs : List BlX} (ho : w.ownsRow B t s v n xs) (hi : InOB w B' Xs) (h1 : t ≠ 2) (h2 : t ≠ 9) : ∀ k, v.ownBlock = some k → k ∉ bblks Xs := fun k hk e => by
  obtain ⟨X, hX, hk2⟩ := List.mem_flatMap.1 e
  have h := hi X hX
  rcases List.mem_append.1 hk2 with hk2 | hk2
  · rcases List.mem_append.1 hk2 with hk2 | hk2
    · exact rows_apart ho h.pr.sv h1 k hk (mem_oneB.1 hk2)
    · exact rows_apart ho h.pr.tg h1 k hk (mem_oneB.1 hk2)
  · exact rows_apart ho h.mo h2 k hk (mem_oneB.1 hk2)
theorem row_off_prb {w : World} {B B' t s n : Nat} {v : Value} {xs : List Value} {X : PrX} (ho : w.ownsRow B t s v n xs) (h : OwnPr w B' X) (h1 : t ≠ 2) : ∀ k, v.ownBlock = some k → k ∉ prB X := fun k hk e => by
  rcases List.mem_append.1 e with e | e
  · exact rows_apart ho h.sv h1 k hk (mem_oneB.1 e)
  · exact rows_apart ho h.tg h1 k hk (mem_oneB.1 e)
theorem nod_all {W : World} {w0 N : Nat} {X : RepX} (hi : OwnPr W N X.hi) (bl : OwnBs W w0 X.vb X.bs) (ib : InOB W w0 X.bs) (vo : OwnVo W w0 X.vv X.vs) (nw : OwnNw W w0 X.vn X.ns) (dn : OwnI W N X.vd X.dn) (hb : ∀ k ∈ bblks X.bs, k < N) (hn : (bblks X.bs).Nodup) (hd : ∀ k ∈ prB X.hi, k ∉ oneB X.vd) : (repK X).Nodup := by
  have hiB : ∀ k ∈ prB X.hi, N ≤ k := fun k hk => (hi.bound hk).1
  have hdB : ∀ k ∈ oneB X.vd, N ≤ k := fun k hk => (World.ownsRow.lt dn k (mem_oneB.1 hk)).1
  unfold repK
  rw [List.nodup_append]
  refine ⟨hi.nodP, ?_, fun a ha b hb2 e => ?_⟩
  · rw [List.nodup_append]
    refine ⟨?_, ?_, fun a ha b hb2 e => ?_⟩
    · rw [List.nodup_append]
      exact ⟨oneBN _, hn, fun a ha b hb2 e => row_off_bbl bl ib (by decide) (by decide) a (mem_oneB.1 ha) (e ▸ hb2)⟩
    · rw [List.nodup_append, List.nodup_append]
      refine ⟨oneBN _, ⟨oneBN _, oneBN _, fun a ha b hb2 e => rows_apart nw dn (by decide) a (mem_oneB.1 ha) (mem_oneB.1 (e ▸ hb2))⟩, fun a ha b hb2 e => ?_⟩
      subst e
      rcases List.mem_append.1 hb2 with hb2 | hb2
      · exact rows_apart vo nw (by decide) a (mem_oneB.1 ha) (mem_oneB.1 hb2)
      · exact rows_apart vo dn (by decide) a (mem_oneB.1 ha) (mem_oneB.1 hb2)
    · subst e
      rcases List.mem_append.1 ha with ha | ha
      · rcases List.mem_append.1 hb2 with hb2 | hb2
        · exact rows_apart bl vo (by decide) a (mem_oneB.1 ha) (mem_oneB.1 hb2)
        rcases List.mem_append.1 hb2 with hb2 | hb2
        · exact rows_apart bl nw (by decide) a (mem_oneB.1 ha) (mem_oneB.1 hb2)
        · exact rows_apart bl dn (by decide) a (mem_oneB.1 ha) (mem_oneB.1 hb2)
      · rcases List.mem_append.1 hb2 with hb2 | hb2
        · exact row_off_bbl vo ib (by decide) (by decide) a (mem_oneB.1 hb2) ha
        rcases List.mem_append.1 hb2 with hb2 | hb2
        · exact row_off_bbl nw ib (by decide) (by decide) a (mem_oneB.1 hb2) ha
        · have := hb a ha; have := hdB a hb2; omega
  · subst e
    rcases List.mem_append.1 hb2 with hb2 | hb2
    · rcases List.mem_append.1 hb2 with hb2 | hb2
      · exact row_off_prb bl hi (by decide) a (mem_oneB.1 hb2) ha
      · have := hb a hb2; have := hiB a ha; omega
    rcases List.mem_append.1 hb2 with hb2 | hb2
    · exact row_off_prb vo hi (by decide) a (mem_oneB.1 hb2) ha
    rcases List.mem_append.1 hb2 with hb2 | hb2
    · exact row_off_prb nw hi (by decide) a (mem_oneB.1 hb2) ha
    · exact hd a ha hb2
/-- Its box's cells change, but not what tells its Blocks. -/
theorem VtA.chg {w0 W W' : World} {g : Nat} {V : Vt} {X' : RepX} (h : VtA w0 W g V) (ht : Touch [g] W W') (hb : X'.vb = V.X.vb) (hs : X'.bs = V.X.bs)
    (hx : Bx W' g 99 #[.int .i64 X'.idn, .int .i64 X'.n, .int .i64 X'.vw, .int .i64 X'.vo, .int .i64 X'.lo, .int .i64 X'.pr, .int .i64 X'.hi.p.vw, .int .i64 X'.hi.p.nm, X'.hi.vs, X'.hi.vt, X'.vb, X'.vv, X'.vn, X'.vd, V.vnm, .map (some V.mb), V.vst]) : VtA w0 W' g { V with X := X' } := by
  have hgt : ∀ {B t s n : Nat} {u : Value} {xs : List Value}, W.ownsRow B t s u n xs → 99 ≠ t → ∀ k, u.ownBlock = some k → k ∉ [g] := fun hr ht k hk e => by
    rw [List.mem_singleton.1 e] at hk
    exact h.box.row hr (fun e => ht e.symm) g hk rfl
  have hblk : ∀ {B : Nat} {X : BlX}, OwnBl W B X → ∀ k ∈ blB X, k ∉ [g] := fun hX k hk => by
    rcases List.mem_append.1 hk with hk | hk
    · rcases List.mem_append.1 hk with hk | hk
      · exact hgt hX.pr.sv (by decide) k (mem_oneB.1 hk)
      · exact hgt hX.pr.tg (by decide) k (mem_oneB.1 hk)
    · exact hgt hX.mo (by decide) k (mem_oneB.1 hk)
  obtain ⟨es, c, hm, hr⟩ := h.mp
  have hmg : V.mb ∉ [g] := fun e => by
    have hb := h.box
    rw [List.mem_singleton.1 e] at hm
    unfold Bx at hb
    rw [hb] at hm
    cases hm
  have hN : vtN { V with X := X' } = vtN V := by unfold vtN; simp only; rw [hs]
  refine ⟨ht.below h.bel (fun k hk => by rw [List.mem_singleton.1 hk]; exact h.ge), h.ge, h.mge, hx, ?_, ?_, ?_, ?_, ⟨es, c, (ht.block _ (Array.getElem?_eq_some_iff.1 hm).1 hmg).trans hm, hr⟩, h.im, ?_, ?_, ?_, ?_, ?_⟩
  · simp only; rw [hb, hs]; exact ht.row h.bl (hgt h.bl (by decide))
  · simp only; rw [hs]; exact fun X hX => (h.ib X hX).touch ht (hblk (h.ib X hX))
  · rw [hN]; exact ht.row h.nm (hgt h.nm (by decide))
  · simp only; rw [hs]; exact h.nod
  · simp only; rw [hs]; exact h.eqb
  · rw [hN]; exact h.uni
  · simp only; rw [hs]; exact h.fit
  · simp only; rw [hs]; exact h.sm
  · simp only; rw [hs]; exact h.len
/-- A voter all of whose lists are its own. -/
structure VtO (w0 W : World) (g : Nat) (V : Vt) : Prop where
  a : VtA w0 W g V
  own : OwnRep W w0.heap.size V.X
  nodn : (repK V.X ++ oneB V.vnm).Nodup
  st : W.ownsRow w0.heap.size 38 20 V.vst 0 []
/-- What voterOf answers. -/
def VoP (w : World) (X : RepX) (R : Bool) (e : Ending) (w' : World) : Prop :=
  (R = false ∧ (∃ g, e = .returned (.tuple #[.pointer (some ⟨g, 0, none⟩), .bool false])) ∧ Below w.heap.size w w') ∨
  (R = true ∧ ∃ g V, e = .returned (.tuple #[.pointer (some ⟨g, 0, none⟩), .bool true]) ∧ VtO w w' g V ∧ V.X.rep = X.rep)
/-- Where voterOf's loop stands: the argument's box beside the voter, k Blocks have come. -/
structure VtS (w W : World) (g : Nat) (V : Vt) (X : RepX) (k : Nat) : Prop where
  a : VtA w W g V
  arg : Bx W w.heap.size 31 #[.int .i64 X.idn, .int .i64 X.n, .int .i64 X.vw, .int .i64 X.vo, .int .i64 X.lo, .int .i64 X.pr, .int .i64 X.hi.p.vw, .int .i64 X.hi.p.nm, X.hi.vs, X.hi.vt, X.vb, X.vv, X.vn, X.vd]
  eqX : V.X = { X with vb := V.X.vb, bs := V.X.bs }
  eqb : bsOf V.X.bs = (bsOf X.bs).take k
  st : W.ownsRow w.heap.size 38 20 V.vst 0 []
theorem VtS.next {w W W' : World} {g : Nat} {V : Vt} {X : RepX} {k : Nat} (h : VtS w W g V X k) (hb : Below W.heap.size W W') : VtS w W' g V X k :=
  ⟨h.a.next hb, h.arg.below hb, h.eqX, h.eqb, own_below h.st hb⟩
/-- One more Block has come. -/
theorem VtS.plus {w W W' : World} {g : Nat} {V : Vt} {X : RepX} {k : Nat} (h : VtS w W g V X k) (hk : k < X.bs.length) {v u : Value} {Y M : BlX} (hY : Y.b = (nthBs X.bs k).b) (ha : VtA w W' g (V.plus v Y u M)) (ht : Touch (g :: V.mb :: (oneB V.X.vb ++ oneB V.vnm)) W W') : VtS w W' g (V.plus v Y u M) X (k + 1) := by
  obtain ⟨es, c, hm, -⟩ := h.a.mp
  have hoff : w.heap.size ∉ (g :: V.mb :: (oneB V.X.vb ++ oneB V.vnm)) := fun e => by
    rcases List.mem_cons.1 e with e | e
    · have h1 := h.arg
      have h2 := h.a.box
      rw [e] at h1
      unfold Bx at h1 h2
      rw [h1] at h2
      injection h2 with h2
      injection h2 with _ h3
      exact absurd h3 (by decide)
    rcases List.mem_cons.1 e with e | e
    · have h1 := h.arg
      rw [← e] at hm
      unfold Bx at h1
      rw [h1] at hm
      cases hm
    rcases List.mem_append.1 e with e | e
    · exact h.arg.row h.a.bl (by decide) _ (mem_oneB.1 e) rfl
    · exact h.arg.row h.a.nm (by decide) _ (mem_oneB.1 e) rfl
  have hoffS : ∀ q, V.vst.ownBlock = some q → q ∉ (g :: V.mb :: (oneB V.X.vb ++ oneB V.vnm)) := fun q hq e => by
    rcases List.mem_cons.1 e with e | e
    · subst e
      exact h.a.box.row h.st (by decide) q hq rfl
    rcases List.mem_cons.1 e with e | e
    · subst e
      exact row_no_map h.st hq hm
    rcases List.mem_append.1 e with e | e
    · exact rows_apart h.st h.a.bl (by decide) q hq (mem_oneB.1 e)
    · exact rows_apart h.st h.a.nm (by decide) q hq (mem_oneB.1 e)
  refine ⟨ha, h.arg.of_block (ht.block _ h.arg.lt hoff), ?_, ?_, ht.row h.st hoffS⟩
  · have := h.eqX
    simp only [Vt.plus]
    rw [this]
  · have h1 := h.eqb
    have h2 : bsOf (V.plus v Y u M).X.bs = bsOf V.X.bs ++ [Y.b] := by simp [bsOf, Vt.plus]
    rw [h2, h1, hY, ← bsOf_get (by rw [bsOf_len]; exact hk)]
    rw [List.take_succ_eq_append_getElem (by rw [bsOf_len]; exact hk)]
end Go.Proofs.YtahihlnhimmgdaaGreatDoor
