/- The contract of the program's voter.doneOk. A voter whose lists are all its own; what voterOf answers: plain. -/
import Derived.Test.YtilhaokiohbeeaaGreatDoorG37
import Derived.Test.YtilhaokiohbeeaaGreatDoorVtrAdy
import Derived.Test.YtilhaokiohbeeaaGreatDoorG33
-- UNF Gen
namespace Go.Proofs.YtilhaokiohbeeaaGreatDoor
open Go.RowKit
theorem fnd_name {Xs : List BlX} {d : Int} {j : Nat} (hn : (Xs.map (fun x => namN x.b)).Nodup) (hj : j < (Xs.map (fun x => namN x.b)).length) (hx : (Xs.map (fun x => namN x.b)).getD j 0 = d) : (bsOf Xs).findIdx? (fun b => decide (namN b = d)) = some j := by
  have hjx : j < Xs.length := by simpa using hj
  have hd : namN (nthBs Xs j).b = d := by
    rw [← hx, nthBs_eq hjx]
    simp [List.getD, List.getElem?_eq_getElem hjx]
  rw [List.findIdx?_eq_some_iff_getElem]
  refine ⟨by rw [bsOf_len]; exact hjx, by rw [bsOf_get, hd]; simp, fun i hi => ?_⟩
  rw [bsOf_get]
  intro e
  have e2 : namN (nthBs Xs i).b = d := by simpa using e
  have hix : i < Xs.length := by omega
  have hp := List.pairwise_iff_getElem.1 hn i j (by simpa using hix) (by simpa using hjx) hi
  apply hp
  rw [List.getElem_map, List.getElem_map, ← nthBs_eq hix, ← nthBs_eq hjx, e2, hd]
theorem fnd_noname {Xs : List BlX} {d : Int} (h : d ∉ Xs.map (fun x => namN x.b)) : (bsOf Xs).findIdx? (fun b => decide (namN b = d)) = none := by
  rw [List.findIdx?_eq_none_iff]
  intro b hb
  unfold bsOf at hb
  obtain ⟨X, hX, rfl⟩ := List.mem_map.1 hb
  rw [decide_eq_false_iff_not]
  intro e
  exact h (List.mem_map.2 ⟨X, hX, e⟩)
def dnIStep (bs : List Blk) (r : List Int) (d pa : Int) (o : Option Nat) : Bool := match o with
  | none => false
  | some k => decide ((bs.getD k ⟨0, 0, prfZ, [], 0⟩).pa = pa) && dnI bs r d
theorem dnI_step (bs : List Blk) (r : List Int) (d pa : Int) : dnI bs (d :: r) pa = dnIStep bs r d pa (bs.findIdx? (fun b => decide (namN b = d))) := by
  rw [dnI]
  unfold dnIStep
  cases bs.findIdx? (fun b => decide (namN b = d)) <;> rfl
set_option maxHeartbeats 4000000 in
set_option maxRecDepth 100000 in
theorem doneOkV_any {w0 W : World} {g : Nat} {V : Vt} (h : VtA w0 W g V) (hd : RdI W V.X.vd V.X.dn) :
    Calls Tryz.prog 149 #[.pointer (some ⟨g, 0, none⟩)] W fun e w' => e = .returned (.bool (dnI (bsOf V.X.bs) V.X.dn 0)) ∧ w' = W := by
  have hrb := h.bl.rd
  have hrn := h.nm.rd
  have huni := h.uni
  have hbox := h.box.c17
  obtain ⟨X, vnm, mb, Ms, vst⟩ := V
  obtain ⟨xd, xn, xv, xo, xl, xr, xh, vb, Xs, vv, vs, vn, ns, vd, dn⟩ := X
  simp only [vtN] at hrb hrn hd huni hbox ⊢
  obtain ⟨-, -, -, -, -, -, -, -, -, -, q10, -, -, q13, q14, -, -⟩ := hbox
  obtain ⟨ab, cb, hvb, hlb, hmb, -⟩ := id hrb
  obtain ⟨ad, cd, hvd, hld, hmd, -⟩ := id hd
  unfold maxLen at hmb hmd
  obtain ⟨bn, hbn⟩ : ∃ k, k = Xs.length := ⟨_, rfl⟩
  obtain ⟨dl, hdl⟩ : ∃ k, k = dn.length := ⟨_, rfl⟩
  have HBN : Hid (bn = Xs.length) := hbn
  have HDL : Hid (dl = dn.length) := hdl
  rw [← hbn] at hvb hlb
  rw [← hdl] at hvd hld
  have HIX : Hid (∀ d, Calls Tryz.prog 199 #[vnm, .int .i64 d] W fun e w' => IdxN W (Xs.map (fun x => namN x.b)) d e w') := fun d => idxN_any _ _ d W hrn
  have HUN : Hid ((Xs.map (fun x => namN x.b)).Nodup) := huni
  subst hvb hvd
  clear hbn hdl huni hrn h
  go_enter Tryz.func149, Tryz.ntmps149
  go_wp2
  go_loopw [3, 13] (fun pv iv wr => ∃ (i : Nat) (pa : Int), i ≤ dl ∧ iv = .int .i64 i ∧ pv = .int .i64 pa ∧ Hid (dnI (bsOf Xs) dn 0 = dnI (bsOf Xs) (dn.drop i) pa) ∧ wr = W) (fun _ iv _ => dl - (intOf iv).toNat)
  case atStart => exact ⟨0, 0, Nat.zero_le _, rfl, rfl, by unfold Hid; simp, rfl⟩
  case round =>
    obtain ⟨i, pa, hil, rfl, rfl, HJ, rfl⟩ := hrel
    by_cases hlt : i < dl
    · have hdi : i < dn.length := by rw [← HDL.out]; exact hlt
      obtain ⟨b2, off2, rfl, hdc⟩ := hd.at i hdi
      have hic : i < cd := by omega
      obtain ⟨d, hde⟩ : ∃ d, d = dn[i] := ⟨_, rfl⟩
      rw [← hde] at hdc
      have HST : Hid (dnI (bsOf Xs) dn 0 = dnIStep (bsOf Xs) (dn.drop (i + 1)) d pa ((bsOf Xs).findIdx? (fun b => decide (namN b = d)))) := by
        unfold Hid
        rw [HJ.out, List.drop_eq_getElem_cons hdi, dnI_step, ← hde]
      clear hde HJ
      go_wp2_with fail
      refine (HIX.out d).mono ?_
      rintro e w2 ⟨hw2, hz⟩
      subst hw2
      rcases hz with ⟨j, hj, hx, rfl⟩ | ⟨hx, rfl⟩
      · have hjx : j < Xs.length := by simpa using hj
        have hjb : j < bn := by rw [HBN.out]; exact hjx
        have hjc : j < cb := by omega
        have hj0 : ¬ (j : Int) < 0 := by omega
        obtain ⟨b, off, rfl, hc⟩ := hrb.atN j hjx
        have HGD : Hid ((bsOf Xs).getD j ⟨0, 0, prfZ, [], 0⟩ = (nthBs Xs j).b) := bsOf_getD Xs j hjx
        have HS2 : Hid (dnI (bsOf Xs) dn 0 = (decide ((nthBs Xs j).b.pa = pa) && dnI (bsOf Xs) (dn.drop (i + 1)) d)) := by
          unfold Hid
          rw [HST.out, fnd_name HUN.out hj hx]
          unfold dnIStep
          simp only
          rw [HGD.out]
        generalize nthBs Xs j = t at hc HS2
        obtain ⟨-, c1, -, -, -, -, -, -⟩ := id hc
        clear hc HST HGD hx hj hjx
        by_cases hpa : t.b.pa = pa
        · have hne : (t.b.pa != pa) = false := by simp [hpa]
          have HJ2 : Hid (dnI (bsOf Xs) dn 0 = dnI (bsOf Xs) (dn.drop (i + 1)) d) := by unfold Hid; rw [HS2.out]; simp [hpa]
          clear hpa HS2
          go_wp2
          go_roundw
          case rel => exact ⟨i + 1, d, by omega, by go_num, rfl, HJ2, by first | rfl | trivial⟩
          case measure => simp [intOf]; omega
        · have hne : (t.b.pa != pa) = true := by simp [hpa]
          have HJ2 : Hid (dnI (bsOf Xs) dn 0 = false) := by unfold Hid; rw [HS2.out]; simp [hpa]
          clear hpa HS2
          go_wp2
          go_ret
          exact ⟨ret_bool HJ2.out.symm, rfl⟩
      · have HJ2 : Hid (dnI (bsOf Xs) dn 0 = false) := by unfold Hid; rw [HST.out, fnd_noname hx]; rfl
        clear hx HST
        go_wp2
        go_ret
        exact ⟨ret_bool HJ2.out.symm, rfl⟩
    · have HE : Hid (dnI (bsOf Xs) dn 0 = true) := by
        have hie : i = dl := by omega
        unfold Hid
        rw [HJ.out, hie, HDL.out, List.drop_length]
        rfl
      clear HJ
      go_wp2
      go_ret
      exact ⟨ret_bool HE.out.symm, rfl⟩
end Go.Proofs.YtilhaokiohbeeaaGreatDoor
-- UNF Gen
namespace Go.Proofs.YtilhaokiohbeeaaGreatDoor
open Go.RowKit
/-- May the first k Blocks come one by one? -/
noncomputable def ablB (bs : List Blk) (n : Int) : Nat → Bool
  | 0 => true
  | k + 1 => ablB bs n k && (decide (k < 60) && mayB (bs.take k) n (bs.getD k ⟨0, 0, prfZ, [], 0⟩))
theorem abl_no {bs : List Blk} {n : Int} {k m : Nat} (h : ablB bs n k = false) (hk : k ≤ m) : ablB bs n m = false := by
  induction m with
  | zero => have : k = 0 := by omega
            subst this; exact h
  | succ m ih =>
    by_cases e : k = m + 1
    · subst e; exact h
    · rw [ablB, ih (by omega)]; rfl
theorem abl_bls (bs : List Blk) (n : Int) : ∀ k, ablB bs n k = (decide (k ≤ 60) && blsB bs n k)
  | 0 => by simp [ablB, blsB]
  | k + 1 => by
    rw [ablB, blsB, abl_bls bs n k]
    by_cases h : k + 1 ≤ 60
    · rw [decide_eq_true (show k ≤ 60 by omega), decide_eq_true (show k < 60 by omega), decide_eq_true h]; simp
    · by_cases h2 : k ≤ 60
      · rw [decide_eq_false (show ¬ k < 60 by omega), decide_eq_false h]; simp
      · rw [decide_eq_false h2, decide_eq_false h]; simp
/-- Is it a right Replica, as the program asks it? -/
noncomputable def irepR (X : Rep) : Bool := numB X && (heaB X.n X.vs X.ns && (ablB X.bs X.n X.bs.length && ((prfR X.hi X.n && knoB X.bs X.hi) && dnI X.bs X.dn 0)))
theorem row_off_bbl {w : World} {B B' t s n : Nat} {v : Value} {xs : List Value} {Xs : List BlX} (ho : w.ownsRow B t s v n xs) (hi : InOB w B' Xs) (h1 : t ≠ 2) (h2 : t ≠ 9) : ∀ k, v.ownBlock = some k → k ∉ bblks Xs := fun k hk e => by
  obtain ⟨X, hX, hk2⟩ := List.mem_flatMap.1 e
  have h := hi X hX
  rcases List.mem_append.1 hk2 with hk2 | hk2
  · rcases List.mem_append.1 hk2 with hk2 | hk2
    · exact rows_apart ho h.pr.sv h1 k hk (mem_oneB.1 hk2)
    · exact rows_apart ho h.pr.tg h1 k hk (mem_oneB.1 hk2)
  · exact rows_apart ho h.mo h2 k hk (mem_oneB.1 hk2)
theorem row_off_prb {w : World} {B B' t s n : Nat} {v : Value} {xs : List Value} {X : PrX} (ho : w.ownsRow B t s v n xs) (h : OwnPr w B' X) (h1 : t ≠ 2) : ∀ k, v.ownBlock = some k → k ∉ prB X := fun k hk e => by
  rcases List.mem_append.1 e with e | e
  · exact rows_apart ho h.sv h1 k hk (mem_oneB.1 e)
  · exact rows_apart ho h.tg h1 k hk (mem_oneB.1 e)
theorem nod_all {W : World} {w0 N : Nat} {X : RepX} (hi : OwnPr W N X.hi) (bl : OwnBs W w0 X.vb X.bs) (ib : InOB W w0 X.bs) (vo : OwnVo W w0 X.vv X.vs) (nw : OwnNw W w0 X.vn X.ns) (dn : OwnI W N X.vd X.dn) (hb : ∀ k ∈ bblks X.bs, k < N) (hn : (bblks X.bs).Nodup) (hd : ∀ k ∈ prB X.hi, k ∉ oneB X.vd) : (repK X).Nodup := by
  have hiB : ∀ k ∈ prB X.hi, N ≤ k := fun k hk => (hi.bound hk).1
  have hdB : ∀ k ∈ oneB X.vd, N ≤ k := fun k hk => (World.ownsRow.lt dn k (mem_oneB.1 hk)).1
  unfold repK
  rw [List.nodup_append]
  refine ⟨hi.nodP, ?_, fun a ha b hb2 e => ?_⟩
  · rw [List.nodup_append]
    refine ⟨?_, ?_, fun a ha b hb2 e => ?_⟩
    · rw [List.nodup_append]
      exact ⟨oneBN _, hn, fun a ha b hb2 e => row_off_bbl bl ib (by decide) (by decide) a (mem_oneB.1 ha) (e ▸ hb2)⟩
    · rw [List.nodup_append, List.nodup_append]
      refine ⟨oneBN _, ⟨oneBN _, oneBN _, fun a ha b hb2 e => rows_apart nw dn (by decide) a (mem_oneB.1 ha) (mem_oneB.1 (e ▸ hb2))⟩, fun a ha b hb2 e => ?_⟩
      subst e
      rcases List.mem_append.1 hb2 with hb2 | hb2
      · exact rows_apart vo nw (by decide) a (mem_oneB.1 ha) (mem_oneB.1 hb2)
      · exact rows_apart vo dn (by decide) a (mem_oneB.1 ha) (mem_oneB.1 hb2)
    · subst e
      rcases List.mem_append.1 ha with ha | ha
      · rcases List.mem_append.1 hb2 with hb2 | hb2
        · exact rows_apart bl vo (by decide) a (mem_oneB.1 ha) (mem_oneB.1 hb2)
        rcases List.mem_append.1 hb2 with hb2 | hb2
        · exact rows_apart bl nw (by decide) a (mem_oneB.1 ha) (mem_oneB.1 hb2)
        · exact rows_apart bl dn (by decide) a (mem_oneB.1 ha) (mem_oneB.1 hb2)
      · rcases List.mem_append.1 hb2 with hb2 | hb2
        · exact row_off_bbl vo ib (by decide) (by decide) a (mem_oneB.1 hb2) ha
        rcases List.mem_append.1 hb2 with hb2 | hb2
        · exact row_off_bbl nw ib (by decide) (by decide) a (mem_oneB.1 hb2) ha
        · have := hb a ha; have := hdB a hb2; omega
  · subst e
    rcases List.mem_append.1 hb2 with hb2 | hb2
    · rcases List.mem_append.1 hb2 with hb2 | hb2
      · exact row_off_prb bl hi (by decide) a (mem_oneB.1 hb2) ha
      · have := hb a hb2; have := hiB a ha; omega
    rcases List.mem_append.1 hb2 with hb2 | hb2
    · exact row_off_prb vo hi (by decide) a (mem_oneB.1 hb2) ha
    rcases List.mem_append.1 hb2 with hb2 | hb2
    · exact row_off_prb nw hi (by decide) a (mem_oneB.1 hb2) ha
    · exact hd a ha hb2
/-- Its box's cells change, but not what tells its Blocks. -/
theorem VtA.chg {w0 W W' : World} {g : Nat} {V : Vt} {X' : RepX} (h : VtA w0 W g V) (ht : Touch [g] W W') (hb : X'.vb = V.X.vb) (hs : X'.bs = V.X.bs)
    (hx : Bx W' g 123 #[.int .i64 X'.idn, .int .i64 X'.n, .int .i64 X'.vw, .int .i64 X'.vo, .int .i64 X'.lo, .int .i64 X'.pr, .int .i64 X'.hi.p.vw, .int .i64 X'.hi.p.nm, X'.hi.vs, X'.hi.vt, X'.vb, X'.vv, X'.vn, X'.vd, V.vnm, .map (some V.mb), V.vst]) : VtA w0 W' g { V with X := X' } := by
  have hgt : ∀ {B t s n : Nat} {u : Value} {xs : List Value}, W.ownsRow B t s u n xs → 123 ≠ t → ∀ k, u.ownBlock = some k → k ∉ [g] := fun hr ht k hk e => by
    rw [List.mem_singleton.1 e] at hk
    exact h.box.row hr (fun e => ht e.symm) g hk rfl
  have hblk : ∀ {B : Nat} {X : BlX}, OwnBl W B X → ∀ k ∈ blB X, k ∉ [g] := fun hX k hk => by
    rcases List.mem_append.1 hk with hk | hk
    · rcases List.mem_append.1 hk with hk | hk
      · exact hgt hX.pr.sv (by decide) k (mem_oneB.1 hk)
      · exact hgt hX.pr.tg (by decide) k (mem_oneB.1 hk)
    · exact hgt hX.mo (by decide) k (mem_oneB.1 hk)
  obtain ⟨es, c, hm, hr⟩ := h.mp
  have hmg : V.mb ∉ [g] := fun e => by
    have hb := h.box
    rw [List.mem_singleton.1 e] at hm
    unfold Bx at hb
    rw [hb] at hm
    cases hm
  have hN : vtN { V with X := X' } = vtN V := by unfold vtN; simp only; rw [hs]
  refine ⟨ht.below h.bel (fun k hk => by rw [List.mem_singleton.1 hk]; exact h.ge), h.ge, h.mge, hx, ?_, ?_, ?_, ?_, ⟨es, c, (ht.block _ (Array.getElem?_eq_some_iff.1 hm).1 hmg).trans hm, hr⟩, h.im, ?_, ?_, ?_, ?_, ?_⟩
  · simp only; rw [hb, hs]; exact ht.row h.bl (hgt h.bl (by decide))
  · simp only; rw [hs]; exact fun X hX => (h.ib X hX).touch ht (hblk (h.ib X hX))
  · rw [hN]; exact ht.row h.nm (hgt h.nm (by decide))
  · simp only; rw [hs]; exact h.nod
  · simp only; rw [hs]; exact h.eqb
  · rw [hN]; exact h.uni
  · simp only; rw [hs]; exact h.fit
  · simp only; rw [hs]; exact h.sm
  · simp only; rw [hs]; exact h.len
/-- A voter all of whose lists are its own. -/
structure VtO (w0 W : World) (g : Nat) (V : Vt) : Prop where
  a : VtA w0 W g V
  own : OwnRep W w0.heap.size V.X
  nodn : (repK V.X ++ oneB V.vnm).Nodup
  st : W.ownsRow w0.heap.size 38 20 V.vst 0 []
/-- What voterOf answers. -/
def VoP (w : World) (X : RepX) (R : Bool) (e : Ending) (w' : World) : Prop :=
  (R = false ∧ (∃ g, e = .returned (.tuple #[.pointer (some ⟨g, 0, none⟩), .bool false])) ∧ Below w.heap.size w w') ∨
  (R = true ∧ ∃ g V, e = .returned (.tuple #[.pointer (some ⟨g, 0, none⟩), .bool true]) ∧ VtO w w' g V ∧ V.X.rep = X.rep)
/-- Where voterOf's loop stands: the argument's box beside the voter, k Blocks have come. -/
structure VtS (w W : World) (g : Nat) (V : Vt) (X : RepX) (k : Nat) : Prop where
  a : VtA w W g V
  arg : Bx W w.heap.size 31 #[.int .i64 X.idn, .int .i64 X.n, .int .i64 X.vw, .int .i64 X.vo, .int .i64 X.lo, .int .i64 X.pr, .int .i64 X.hi.p.vw, .int .i64 X.hi.p.nm, X.hi.vs, X.hi.vt, X.vb, X.vv, X.vn, X.vd]
  eqX : V.X = { X with vb := V.X.vb, bs := V.X.bs }
  eqb : bsOf V.X.bs = (bsOf X.bs).take k
  st : W.ownsRow w.heap.size 38 20 V.vst 0 []
theorem VtS.next {w W W' : World} {g : Nat} {V : Vt} {X : RepX} {k : Nat} (h : VtS w W g V X k) (hb : Below W.heap.size W W') : VtS w W' g V X k :=
  ⟨h.a.next hb, h.arg.below hb, h.eqX, h.eqb, own_below h.st hb⟩
/-- One more Block has come. -/
theorem VtS.plus {w W W' : World} {g : Nat} {V : Vt} {X : RepX} {k : Nat} (h : VtS w W g V X k) (hk : k < X.bs.length) {v u : Value} {Y M : BlX} (hY : Y.b = (nthBs X.bs k).b) (ha : VtA w W' g (V.plus v Y u M)) (ht : Touch (g :: V.mb :: (oneB V.X.vb ++ oneB V.vnm)) W W') : VtS w W' g (V.plus v Y u M) X (k + 1) := by
  obtain ⟨es, c, hm, -⟩ := h.a.mp
  have hoff : w.heap.size ∉ (g :: V.mb :: (oneB V.X.vb ++ oneB V.vnm)) := fun e => by
    rcases List.mem_cons.1 e with e | e
    · have h1 := h.arg
      have h2 := h.a.box
      rw [e] at h1
      unfold Bx at h1 h2
      rw [h1] at h2
      injection h2 with h2
      injection h2 with _ h3
      exact absurd h3 (by decide)
    rcases List.mem_cons.1 e with e | e
    · have h1 := h.arg
      rw [← e] at hm
      unfold Bx at h1
      rw [h1] at hm
      cases hm
    rcases List.mem_append.1 e with e | e
    · exact h.arg.row h.a.bl (by decide) _ (mem_oneB.1 e) rfl
    · exact h.arg.row h.a.nm (by decide) _ (mem_oneB.1 e) rfl
  have hoffS : ∀ q, V.vst.ownBlock = some q → q ∉ (g :: V.mb :: (oneB V.X.vb ++ oneB V.vnm)) := fun q hq e => by
    rcases List.mem_cons.1 e with e | e
    · subst e
      exact h.a.box.row h.st (by decide) q hq rfl
    rcases List.mem_cons.1 e with e | e
    · subst e
      exact row_no_map h.st hq hm
    rcases List.mem_append.1 e with e | e
    · exact rows_apart h.st h.a.bl (by decide) q hq (mem_oneB.1 e)
    · exact rows_apart h.st h.a.nm (by decide) q hq (mem_oneB.1 e)
  refine ⟨ha, h.arg.of_block (ht.block _ h.arg.lt hoff), ?_, ?_, ht.row h.st hoffS⟩
  · have := h.eqX
    simp only [Vt.plus]
    rw [this]
  · have h1 := h.eqb
    have h2 : bsOf (V.plus v Y u M).X.bs = bsOf V.X.bs ++ [Y.b] := by simp [bsOf, Vt.plus]
    rw [h2, h1, hY, ← bsOf_get (by rw [bsOf_len]; exact hk)]
    rw [List.take_succ_eq_append_getElem (by rw [bsOf_len]; exact hk)]
end Go.Proofs.YtilhaokiohbeeaaGreatDoor
