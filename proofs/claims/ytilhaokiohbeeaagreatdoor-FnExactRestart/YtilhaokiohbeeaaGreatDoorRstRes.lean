/- The contracts of Restart, the model's and the program's. -/
import Derived.Test.YtilhaokiohbeeaaGreatDoorRstCp
import Derived.Test.YtilhaokiohbeeaaGreatDoorRepSpk
import Derived.Test.YtilhaokiohbeeaaGreatDoorRepEqv
import Derived.Deep.Cut
-- UNF Gen
namespace Go.Proofs.YtilhaokiohbeeaaGreatDoor
open Go.RowKit
noncomputable def rstR (X : Rep) : Rep := if repR X = true then ⟨X.idn, X.n, X.vw, X.vo, X.lo, X.pr, X.hi, X.bs, [], [], X.dn⟩ else ⟨0, 0, 0, 0, 0, 0, ⟨0, 0, [], []⟩, [], [], [], []⟩
/-- Two new rows in place of the Votes and the News. -/
theorem OwnRep.newRows {w w' : World} {B : Nat} {X : RepX} (h : OwnRep w B X) (hb : Below w.heap.size w w') (hB : B ≤ w.heap.size) {va vn : Value} (hv : OwnVo w' w.heap.size va []) (hn : OwnNw w' w.heap.size vn []) : OwnRep w' B { X with vv := va, vs := [], vn := vn, ns := [] } := by
  refine ⟨h.hi.below hb, h.bl.below hb, h.ib.below hb, OwnVo.mono hv hB, OwnNw.mono hn hB, h.dn.below hb, ?_⟩
  have n0 := h.nod
  unfold repK at n0 ⊢
  simp only
  have sub : List.Sublist (prB X.hi ++ ((oneB X.vb ++ bblks X.bs) ++ oneB X.vd)) (prB X.hi ++ ((oneB X.vb ++ bblks X.bs) ++ (oneB X.vv ++ (oneB X.vn ++ oneB X.vd)))) :=
    (List.Sublist.refl _).append ((List.Sublist.refl _).append ((List.sublist_append_right (oneB X.vn) (oneB X.vd)).trans (List.sublist_append_right (oneB X.vv) _)))
  have m0 := sub.nodup n0
  have bd : ∀ x ∈ (prB X.hi ++ (oneB X.vb ++ bblks X.bs)) ++ oneB X.vd, x < w.heap.size := fun x hx => (h.bound (by
    unfold repK
    rw [List.append_assoc] at hx
    exact sub.subset hx)).2
  rw [← List.append_assoc] at m0
  have hs : (oneB va ++ oneB vn).Nodup := by
    rw [List.nodup_append]
    exact ⟨oneBN _, oneBN _, fun a ha b hb2 e => by subst e; exact rows_apart hv hn (by decide) a (mem_oneB.1 ha) (mem_oneB.1 hb2)⟩
  have hm : ∀ x ∈ oneB va ++ oneB vn, w.heap.size ≤ x := fun x hx => by
    rcases List.mem_append.1 hx with hx | hx
    · exact (World.ownsRow.lt hv x (mem_oneB.1 hx)).1
    · exact (World.ownsRow.lt hn x (mem_oneB.1 hx)).1
  have := nod_ins m0 hs bd hm
  simpa only [List.append_assoc] using this
theorem OwnRep.offBox {w : World} {B g : Nat} {X : RepX} {cs : Array Value} (h : OwnRep w B X) (hx : Bx w g 123 cs) : ∀ k ∈ repK X, k ∉ [g] := fun k hk e => by
  have e := List.mem_singleton.1 e
  have off : ∀ {B2 t s n : Nat} {u : Value} {xs : List Value}, w.ownsRow B2 t s u n xs → t ≠ 123 → k ∈ oneB u → False := fun hr ht hk2 => hx.row hr ht k (mem_oneB.1 hk2) e.symm
  unfold repK at hk
  rcases List.mem_append.1 hk with hk | hk
  · rcases List.mem_append.1 hk with hk | hk
    · exact off h.hi.sv (by decide) hk
    · exact off h.hi.tg (by decide) hk
  rcases List.mem_append.1 hk with hk | hk
  · rcases List.mem_append.1 hk with hk | hk
    · exact off h.bl (by decide) hk
    · obtain ⟨t, ht, hk⟩ := List.mem_flatMap.1 hk
      have ho := h.ib t ht
      rcases List.mem_append.1 hk with hk | hk
      · rcases List.mem_append.1 hk with hk | hk
        · exact off ho.pr.sv (by decide) hk
        · exact off ho.pr.tg (by decide) hk
      · exact off ho.mo (by decide) hk
  rcases List.mem_append.1 hk with hk | hk
  · exact off h.vo (by decide) hk
  rcases List.mem_append.1 hk with hk | hk
  · exact off h.nw (by decide) hk
  · exact off h.dn (by decide) hk
set_option maxHeartbeats 4000000 in
set_option maxRecDepth 100000 in
theorem specRestart_any (X : RepX) (w : World) (hx : RdRep w X) (hf : FitRep X.rep) (hs : SmallRep X) (hsm : SmB X.bs) (hnil : ∀ M ∈ X.bs, NilOk M.vm) :
    Calls Tryz.prog 26 #[.agg #[.int .i64 X.idn, .int .i64 X.n, .int .i64 X.vw, .int .i64 X.vo, .int .i64 X.lo, .int .i64 X.pr, .int .i64 X.hi.p.vw, .int .i64 X.hi.p.nm, X.hi.vs, X.hi.vt, X.vb, X.vv, X.vn, X.vd]] w fun e w' => ToRep w (rstR X.rep) e w' := by
  obtain ⟨R, hR⟩ : ∃ R, R = repR X.rep := ⟨_, rfl⟩
  have HK : Hid (∀ W, Below w.heap.size w W → Calls Tryz.prog 16 #[.agg #[.int .i64 X.idn, .int .i64 X.n, .int .i64 X.vw, .int .i64 X.vo, .int .i64 X.lo, .int .i64 X.pr, .int .i64 X.hi.p.vw, .int .i64 X.hi.p.nm, X.hi.vs, X.hi.vt, X.vb, X.vv, X.vn, X.vd]] W fun e w' => e = .returned (.bool R) ∧ Below W.heap.size W w') := fun W h => by rw [hR]; exact specReplicaOk_any X W (hx.below h) hf hsm
  have HC : Hid (∀ W, Below w.heap.size w W → Calls Tryz.prog 69 #[.agg #[.int .i64 X.idn, .int .i64 X.n, .int .i64 X.vw, .int .i64 X.vo, .int .i64 X.lo, .int .i64 X.pr, .int .i64 X.hi.p.vw, .int .i64 X.hi.p.nm, X.hi.vs, X.hi.vt, X.vb, X.vv, X.vn, X.vd]] W fun e w' => ToRep W X.rep e w') := fun W h => cpReplicaS_any X W (hx.below h) hnil hs
  have HRR : Hid (R = repR X.rep) := hR
  clear hR hf hsm hnil hs hx
  have t := (bx_new w 31 #[.int .i64 X.idn, .int .i64 X.n, .int .i64 X.vw, .int .i64 X.vo, .int .i64 X.lo, .int .i64 X.pr, .int .i64 X.hi.p.vw, .int .i64 X.hi.p.nm, X.hi.vs, X.hi.vt, X.vb, X.vv, X.vn, X.vd]).below (below1 _ (.cells #[.int .i64 0, .int .i64 0, .int .i64 0, .int .i64 0, .int .i64 0, .int .i64 0, .int .i64 0, .int .i64 0, .slice none 0 0, .slice none 0 0, .slice none 0 0, .slice none 0 0, .slice none 0 0, .slice none 0 0] 31))
  have r := bx_new (w.alloc (.cells #[.int .i64 X.idn, .int .i64 X.n, .int .i64 X.vw, .int .i64 X.vo, .int .i64 X.lo, .int .i64 X.pr, .int .i64 X.hi.p.vw, .int .i64 X.hi.p.nm, X.hi.vs, X.hi.vt, X.vb, X.vv, X.vn, X.vd] 31)) 31 #[.int .i64 0, .int .i64 0, .int .i64 0, .int .i64 0, .int .i64 0, .int .i64 0, .int .i64 0, .int .i64 0, .slice none 0 0, .slice none 0 0, .slice none 0 0, .slice none 0 0, .slice none 0 0, .slice none 0 0]
  have b := below2 w (.cells #[.int .i64 X.idn, .int .i64 X.n, .int .i64 X.vw, .int .i64 X.vo, .int .i64 X.lo, .int .i64 X.pr, .int .i64 X.hi.p.vw, .int .i64 X.hi.p.nm, X.hi.vs, X.hi.vt, X.vb, X.vv, X.vn, X.vd] 31) (.cells #[.int .i64 0, .int .i64 0, .int .i64 0, .int .i64 0, .int .i64 0, .int .i64 0, .int .i64 0, .int .i64 0, .slice none 0 0, .slice none 0 0, .slice none 0 0, .slice none 0 0, .slice none 0 0, .slice none 0 0] 31)
  have s : w.heap.size + 2 ≤ ((w.alloc (.cells #[.int .i64 X.idn, .int .i64 X.n, .int .i64 X.vw, .int .i64 X.vo, .int .i64 X.lo, .int .i64 X.pr, .int .i64 X.hi.p.vw, .int .i64 X.hi.p.nm, X.hi.vs, X.hi.vt, X.vb, X.vv, X.vn, X.vd] 31)).alloc (.cells #[.int .i64 0, .int .i64 0, .int .i64 0, .int .i64 0, .int .i64 0, .int .i64 0, .int .i64 0, .int .i64 0, .slice none 0 0, .slice none 0 0, .slice none 0 0, .slice none 0 0, .slice none 0 0, .slice none 0 0] 31)).heap.size := by simp
  rw [show (w.alloc (.cells #[.int .i64 X.idn, .int .i64 X.n, .int .i64 X.vw, .int .i64 X.vo, .int .i64 X.lo, .int .i64 X.pr, .int .i64 X.hi.p.vw, .int .i64 X.hi.p.nm, X.hi.vs, X.hi.vt, X.vb, X.vv, X.vn, X.vd] 31)).heap.size = w.heap.size + 1 by simp] at r
  obtain ⟨q0, q1, q2, q3, q4, q5, q6, q7, q8, q9, q10, q11, q12, q13⟩ := t.c14
  go_enter Tryz.func26, Tryz.ntmps26
  go_wp2_with fail
  generalize (w.alloc (.cells #[.int .i64 X.idn, .int .i64 X.n, .int .i64 X.vw, .int .i64 X.vo, .int .i64 X.lo, .int .i64 X.pr, .int .i64 X.hi.p.vw, .int .i64 X.hi.p.nm, X.hi.vs, X.hi.vt, X.vb, X.vv, X.vn, X.vd] 31)).alloc (.cells #[.int .i64 0, .int .i64 0, .int .i64 0, .int .i64 0, .int .i64 0, .int .i64 0, .int .i64 0, .int .i64 0, .slice none 0 0, .slice none 0 0, .slice none 0 0, .slice none 0 0, .slice none 0 0, .slice none 0 0] 31) = W2 at t r b s q0 q1 q2 q3 q4 q5 q6 q7 q8 q9 q10 q11 q12 q13 ⊢
  refine (HK.out _ b).mono ?_
  rintro e w1 ⟨rfl, hb1⟩
  have t1 := t.below hb1
  have r1 := r.below hb1
  have b1 := b.trans (hb1.mono b.size)
  have s1 : w.heap.size + 2 ≤ w1.heap.size := Nat.le_trans s hb1.size
  clear t r b s hb1 HK q0 q1 q2 q3 q4 q5 q6 q7 q8 q9 q10 q11 q12 q13
  cases R with
  | false =>
    have HZ : Hid (rstR X.rep = ⟨0, 0, 0, 0, 0, 0, ⟨0, 0, [], []⟩, [], [], [], []⟩) := by unfold Hid rstR; rw [if_neg (by rw [← HRR.out]; decide)]
    obtain ⟨x0, x1, x2, x3, x4, x5, x6, x7, x8, x9, x10, x11, x12, x13⟩ := r1.c14
    obtain ⟨y0, y1, y2, y3, y4, y5, y6, y7, y8, y9, y10, y11, y12, y13⟩ := r1.f14
    obtain ⟨k0, k1, k2, k3, k4, k5, k6, k7, k8, k9, k10, k11, k12, k13⟩ := (r1.put14 (.int .i64 0) (.int .i64 0) (.int .i64 0) (.int .i64 0) (.int .i64 0) (.int .i64 0) (.int .i64 0) (.int .i64 0) (.slice none 0 0) (.slice none 0 0) (.slice none 0 0) (.slice none 0 0) (.slice none 0 0) (.slice none 0 0)).c14
    have HF : Hid (ToRep w (rstR X.rep) (.returned (.agg #[.int .i64 0, .int .i64 0, .int .i64 0, .int .i64 0, .int .i64 0, .int .i64 0, .int .i64 0, .int .i64 0, .slice none 0 0, .slice none 0 0, .slice none 0 0, .slice none 0 0, .slice none 0 0, .slice none 0 0])) (put14 w1 (w.heap.size + 1) (.int .i64 0) (.int .i64 0) (.int .i64 0) (.int .i64 0) (.int .i64 0) (.int .i64 0) (.int .i64 0) (.int .i64 0) (.slice none 0 0) (.slice none 0 0) (.slice none 0 0) (.slice none 0 0) (.slice none 0 0) (.slice none 0 0))) := by
      unfold Hid
      rw [HZ.out]
      exact ⟨rexZ 0 0 0 0 0 0 0 0, rfl, rfl, ownRep_zero _ _ _ _ _ _ _ _ _ _, put14_below b1 (by omega)⟩
    unfold put14 at k0 k1 k2 k3 k4 k5 k6 k7 k8 k9 k10 k11 k12 k13 HF
    clear r1 b1 t1 HZ s1
    go_wp2
    exact bodyPost_ret (v := .agg #[.int .i64 0, .int .i64 0, .int .i64 0, .int .i64 0, .int .i64 0, .int .i64 0, .int .i64 0, .int .i64 0, .slice none 0 0, .slice none 0 0, .slice none 0 0, .slice none 0 0, .slice none 0 0, .slice none 0 0]) (by simp [results, Tryz.results26, go_sem, k0, k1, k2, k3, k4, k5, k6, k7, k8, k9, k10, k11, k12, k13]) rfl HF.out
  | true =>
  obtain ⟨q0, q1, q2, q3, q4, q5, q6, q7, q8, q9, q10, q11, q12, q13⟩ := t1.c14
  go_wp2_with fail
  refine (HC.out _ b1).mono ?_
  rintro e w3 ⟨Y, rfl, hY, hO, hb3⟩
  have r3 := r1.below hb3
  have b3 := b1.trans (hb3.mono b1.size)
  have s3 : w.heap.size + 2 ≤ w3.heap.size := Nat.le_trans s1 hb3.size
  replace hO : OwnRep w3 (w.heap.size + 2) Y := OwnRep.mono hO s1
  clear t1 r1 b1 s1 hb3 HC q0 q1 q2 q3 q4 q5 q6 q7 q8 q9 q10 q11 q12 q13
  obtain ⟨a1, c1, a2, c2, e1, e2⟩ := hO.hi.slices
  obtain ⟨a3, c3, e3⟩ := ownSlX hO.bl
  obtain ⟨a4, c4, e4⟩ := ownSlX hO.vo
  obtain ⟨a5, c5, e5⟩ := ownSlX hO.nw
  obtain ⟨a6, c6, e6⟩ := ownSlX hO.dn
  obtain ⟨yi, yn, yw, yo, yl, yr, ⟨yp, yps, ypt⟩, yb, ybs, yv, yvs, yx, yns, yd, ydn⟩ := Y
  simp only at e1 e2 e3 e4 e5 e6 hO hY ⊢
  generalize yp.sv.length = n1 at e1
  generalize yp.tg.length = n2 at e2
  generalize ybs.length = n3 at e3
  generalize yvs.length = n4 at e4
  generalize yns.length = n5 at e5
  generalize ydn.length = n6 at e6
  subst e1 e2 e3 e4 e5 e6
  have HO : Hid (OwnRep w3 (w.heap.size + 2) _) := hO
  have HYR : Hid (RepX.rep _ = X.rep) := hY
  clear hO hY
  have aA := bx_new w3 31 #[.int .i64 yi, .int .i64 yn, .int .i64 yw, .int .i64 yo, .int .i64 yl, .int .i64 yr, .int .i64 yp.vw, .int .i64 yp.nm, .slice a1 n1 c1, .slice a2 n2 c2, .slice a3 n3 c3, .slice a4 n4 c4, .slice a5 n5 c5, .slice a6 n6 c6]
  have bA := below1 w3 (.cells #[.int .i64 yi, .int .i64 yn, .int .i64 yw, .int .i64 yo, .int .i64 yl, .int .i64 yr, .int .i64 yp.vw, .int .i64 yp.nm, .slice a1 n1 c1, .slice a2 n2 c2, .slice a3 n3 c3, .slice a4 n4 c4, .slice a5 n5 c5, .slice a6 n6 c6] 31)
  obtain ⟨P, hP⟩ : ∃ P, P = w3.heap.size := ⟨_, rfl⟩
  have hP2 : P < (w3.alloc (.cells #[.int .i64 yi, .int .i64 yn, .int .i64 yw, .int .i64 yo, .int .i64 yl, .int .i64 yr, .int .i64 yp.vw, .int .i64 yp.nm, .slice a1 n1 c1, .slice a2 n2 c2, .slice a3 n3 c3, .slice a4 n4 c4, .slice a5 n5 c5, .slice a6 n6 c6] 31)).heap.size := by simp; omega
  rw [← hP] at aA
  have HPP : Hid (P = w3.heap.size) := hP
  clear hP
  rw [HPP.out] at aA hP2
  go_upto_region 4 with fail
  rw [← HPP.out] at aA hP2 ⊢
  have hP1 : w3.heap.size ≤ P := by rw [HPP.out]; exact Nat.le_refl _
  generalize w3.alloc (.cells #[.int .i64 yi, .int .i64 yn, .int .i64 yw, .int .i64 yo, .int .i64 yl, .int .i64 yr, .int .i64 yp.vw, .int .i64 yp.nm, .slice a1 n1 c1, .slice a2 n2 c2, .slice a3 n3 c3, .slice a4 n4 c4, .slice a5 n5 c5, .slice a6 n6 c6] 31) = W4 at aA bA hP2 ⊢
  have aB := aA.below (below1 W4 (.cells #[] 36))
  have aC : Bx ((W4.alloc (.cells #[] 36)).setCell ⟨P, 11, none⟩ (.slice (some ⟨W4.heap.size, 0, none⟩) 0 0)) P 31 #[.int .i64 yi, .int .i64 yn, .int .i64 yw, .int .i64 yo, .int .i64 yl, .int .i64 yr, .int .i64 yp.vw, .int .i64 yp.nm, .slice a1 n1 c1, .slice a2 n2 c2, .slice a3 n3 c3, .slice (some ⟨W4.heap.size, 0, none⟩) 0 0, .slice a5 n5 c5, .slice a6 n6 c6] := aB.set 11 (.slice (some ⟨W4.heap.size, 0, none⟩) 0 0)
  have bC : Below w3.heap.size w3 ((W4.alloc (.cells #[] 36)).setCell ⟨P, 11, none⟩ (.slice (some ⟨W4.heap.size, 0, none⟩) 0 0)) := (bA.alloc bA.size _).setCell (p := ⟨P, 11, none⟩) hP1 _
  have vC : OwnVo ((W4.alloc (.cells #[] 36)).setCell ⟨P, 11, none⟩ (.slice (some ⟨W4.heap.size, 0, none⟩) 0 0)) w3.heap.size (.slice (some ⟨W4.heap.size, 0, none⟩) 0 0) [] :=
    OwnVo.mono (row_set (ownVo_none W4) (fun k hk e => by have : W4.heap.size = k := Option.some.inj hk; omega)) bA.size
  have fB := aB.fz 11
  obtain ⟨-, -, -, -, -, -, -, -, -, -, -, uB, -, -⟩ := aB.c14
  clear hP2
  go_upto_region 5 with fail
  generalize (W4.alloc (.cells #[] 36)).setCell ⟨P, 11, none⟩ (.slice (some ⟨W4.heap.size, 0, none⟩) 0 0) = W5 at aC bC vC ⊢
  clear fB uB aB bA aA
  have hP3 : P < W5.heap.size := aC.lt
  generalize W4.heap.size = z4 at aC vC ⊢
  have aD := aC.below (below1 W5 (.cells #[] 128))
  have aE : Bx ((W5.alloc (.cells #[] 128)).setCell ⟨P, 12, none⟩ (.slice (some ⟨W5.heap.size, 0, none⟩) 0 0)) P 31 #[.int .i64 yi, .int .i64 yn, .int .i64 yw, .int .i64 yo, .int .i64 yl, .int .i64 yr, .int .i64 yp.vw, .int .i64 yp.nm, .slice a1 n1 c1, .slice a2 n2 c2, .slice a3 n3 c3, .slice (some ⟨z4, 0, none⟩) 0 0, .slice (some ⟨W5.heap.size, 0, none⟩) 0 0, .slice a6 n6 c6] := aD.set 12 (.slice (some ⟨W5.heap.size, 0, none⟩) 0 0)
  have bE : Below w3.heap.size w3 ((W5.alloc (.cells #[] 128)).setCell ⟨P, 12, none⟩ (.slice (some ⟨W5.heap.size, 0, none⟩) 0 0)) := (bC.alloc bC.size _).setCell (p := ⟨P, 12, none⟩) hP1 _
  have vD := OwnVo.below vC (below1 W5 (.cells #[] 128))
  have vE : OwnVo ((W5.alloc (.cells #[] 128)).setCell ⟨P, 12, none⟩ (.slice (some ⟨W5.heap.size, 0, none⟩) 0 0)) w3.heap.size (.slice (some ⟨z4, 0, none⟩) 0 0) [] :=
    row_set vD (fun k hk e => aD.row vD (by decide) k hk e)
  have nE : OwnNw ((W5.alloc (.cells #[] 128)).setCell ⟨P, 12, none⟩ (.slice (some ⟨W5.heap.size, 0, none⟩) 0 0)) w3.heap.size (.slice (some ⟨W5.heap.size, 0, none⟩) 0 0) [] :=
    OwnNw.mono (row_set (ownNw_none W5) (fun k hk e => by have : W5.heap.size = k := Option.some.inj hk; omega)) bC.size
  have fD := aD.fz 12
  obtain ⟨-, -, -, -, -, -, -, -, -, -, -, -, uD, -⟩ := aD.c14
  clear hP3 vD
  go_upto_region 6 with fail
  generalize (W5.alloc (.cells #[] 128)).setCell ⟨P, 12, none⟩ (.slice (some ⟨W5.heap.size, 0, none⟩) 0 0) = W6 at aE bE vE nE ⊢
  clear fD uD aD aC bC vC
  generalize W5.heap.size = z5 at aE nE ⊢
  have OE := HO.out.newRows bE s3 vE nE
  have rE := r3.below bE
  have bz := b3.trans (bE.mono b3.size)
  obtain ⟨k0, k1, k2, k3, k4, k5, k6, k7, k8, k9, k10, k11, k12, k13⟩ := (rE.put14 (.int .i64 yi) (.int .i64 yn) (.int .i64 yw) (.int .i64 yo) (.int .i64 yl) (.int .i64 yr) (.int .i64 yp.vw) (.int .i64 yp.nm) (.slice a1 n1 c1) (.slice a2 n2 c2) (.slice a3 n3 c3) (.slice (some ⟨z4, 0, none⟩) 0 0) (.slice (some ⟨z5, 0, none⟩) 0 0) (.slice a6 n6 c6)).c14
  have HF : Hid (ToRep w (rstR X.rep) (.returned (.agg #[.int .i64 yi, .int .i64 yn, .int .i64 yw, .int .i64 yo, .int .i64 yl, .int .i64 yr, .int .i64 yp.vw, .int .i64 yp.nm, .slice a1 n1 c1, .slice a2 n2 c2, .slice a3 n3 c3, .slice (some ⟨z4, 0, none⟩) 0 0, .slice (some ⟨z5, 0, none⟩) 0 0, .slice a6 n6 c6])) (put14 W6 (w.heap.size + 1) (.int .i64 yi) (.int .i64 yn) (.int .i64 yw) (.int .i64 yo) (.int .i64 yl) (.int .i64 yr) (.int .i64 yp.vw) (.int .i64 yp.nm) (.slice a1 n1 c1) (.slice a2 n2 c2) (.slice a3 n3 c3) (.slice (some ⟨z4, 0, none⟩) 0 0) (.slice (some ⟨z5, 0, none⟩) 0 0) (.slice a6 n6 c6))) := by
    refine ⟨_, rfl, ?_, (OwnRep.touch OE put14_touch (fun q hq e => by have h1 := (OwnRep.bound OE hq).1; have h2 := List.mem_singleton.1 e; omega)).mono (by omega), put14_below bz (by omega)⟩
    unfold rstR
    rw [if_pos HRR.out.symm, ← HYR.out]
    rfl
  unfold put14 at k0 k1 k2 k3 k4 k5 k6 k7 k8 k9 k10 k11 k12 k13 HF
  obtain ⟨m0, m1, m2, m3, m4, m5, m6, m7, m8, m9, m10, m11, m12, m13⟩ := aE.c14
  obtain ⟨x0, x1, x2, x3, x4, x5, x6, x7, x8, x9, x10, x11, x12, x13⟩ := rE.c14
  obtain ⟨y0, y1, y2, y3, y4, y5, y6, y7, y8, y9, y10, y11, y12, y13⟩ := rE.f14
  clear aE bE vE nE OE rE bz r3 b3 s3 HO HYR hP1
  go_wp2
  exact bodyPost_ret (v := .agg #[.int .i64 yi, .int .i64 yn, .int .i64 yw, .int .i64 yo, .int .i64 yl, .int .i64 yr, .int .i64 yp.vw, .int .i64 yp.nm, .slice a1 n1 c1, .slice a2 n2 c2, .slice a3 n3 c3, .slice (some ⟨z4, 0, none⟩) 0 0, .slice (some ⟨z5, 0, none⟩) 0 0, .slice a6 n6 c6]) (by simp [results, Tryz.results26, go_sem, k0, k1, k2, k3, k4, k5, k6, k7, k8, k9, k10, k11, k12, k13]) rfl HF.out
set_option maxHeartbeats 2000000 in
set_option maxRecDepth 100000 in
theorem restartV_any (g : Nat) (u0 u1 u2 u3 u4 u5 u6 u7 u8 u9 u10 u11 u12 u13 u14 u15 u16 : Value) (w : World) (hx : Bx w g 123 #[u0, u1, u2, u3, u4, u5, u6, u7, u8, u9, u10, u11, u12, u13, u14, u15, u16]) :
    Calls Tryz.prog 87 #[.pointer (some ⟨g, 0, none⟩)] w fun e w' => e = .returned (.tuple #[]) ∧ w' = (World.setCell (World.setCell ((w.alloc (.cells #[] 36)).alloc (.cells #[] 128)) ⟨g, 11, none⟩ (.slice (some ⟨w.heap.size, 0, none⟩) 0 0)) ⟨g, 12, none⟩ (.slice (some ⟨w.heap.size + 1, 0, none⟩) 0 0)) := by
  have bB : Below w.heap.size w ((w.alloc (.cells #[] 36)).alloc (.cells #[] 128)) := (below1 w (.cells #[] 36)).alloc (by simp) _
  have aB := hx.below bB
  have aC : Bx (World.setCell ((w.alloc (.cells #[] 36)).alloc (.cells #[] 128)) ⟨g, 11, none⟩ (.slice (some ⟨w.heap.size, 0, none⟩) 0 0)) g 123 #[u0, u1, u2, u3, u4, u5, u6, u7, u8, u9, u10, .slice (some ⟨w.heap.size, 0, none⟩) 0 0, u12, u13, u14, u15, u16] := aB.set 11 (.slice (some ⟨w.heap.size, 0, none⟩) 0 0)
  have fB := aB.fz 11
  have fC := aC.fz 12
  obtain ⟨-, -, -, -, -, -, -, -, -, -, -, uB, -, -, -, -, -⟩ := aB.c17
  obtain ⟨-, -, -, -, -, -, -, -, -, -, -, -, uC, -, -, -, -⟩ := aC.c17
  clear aB aC bB
  go_enter Tryz.func87, Tryz.ntmps87
  go_wp2
  go_end0
  exact ⟨rfl, rfl⟩
set_option maxHeartbeats 4000000 in
set_option maxRecDepth 100000 in
theorem implRestart_any (X : RepX) (w : World) (hx : RdRep w X) (hf : FitRep X.rep) (hs : SmallRep X) (hsm : SmB X.bs) (hnil : ∀ M ∈ X.bs, NilOk M.vm) (ht : Tab w) :
    Calls Tryz.prog 24 #[.agg #[.int .i64 X.idn, .int .i64 X.n, .int .i64 X.vw, .int .i64 X.vo, .int .i64 X.lo, .int .i64 X.pr, .int .i64 X.hi.p.vw, .int .i64 X.hi.p.nm, X.hi.vs, X.hi.vt, X.vb, X.vv, X.vn, X.vd]] w fun e w' => ToRep w (rstR X.rep) e w' := by
  obtain ⟨R, hR⟩ : ∃ R, R = repR X.rep := ⟨_, rfl⟩
  have hsum : X.hi.p.sv.length ≤ 1048576 ∧ X.hi.p.tg.length ≤ 1048576 ∧ X.dn.length ≤ 1048576 := by have := hs.sum; exact ⟨by omega, by omega, by omega⟩
  have HV : Hid (∀ W, Below w.heap.size w W → Calls Tryz.prog 67 #[.agg #[.int .i64 X.idn, .int .i64 X.n, .int .i64 X.vw, .int .i64 X.vo, .int .i64 X.lo, .int .i64 X.pr, .int .i64 X.hi.p.vw, .int .i64 X.hi.p.nm, X.hi.vs, X.hi.vt, X.vb, X.vv, X.vn, X.vd]] W fun e w' => VoP W X R e w') := fun W h => by rw [hR, ← rep_same]; exact voterOf_any X W (hx.below h) hf hsm hnil hsum (ht.on h)
  have HRR : Hid (R = repR X.rep) := hR
  clear hR hf hsm hnil hs hx hsum ht
  have t := (bx_new w 31 #[.int .i64 X.idn, .int .i64 X.n, .int .i64 X.vw, .int .i64 X.vo, .int .i64 X.lo, .int .i64 X.pr, .int .i64 X.hi.p.vw, .int .i64 X.hi.p.nm, X.hi.vs, X.hi.vt, X.vb, X.vv, X.vn, X.vd]).below (below1 _ (.cells #[.int .i64 0, .int .i64 0, .int .i64 0, .int .i64 0, .int .i64 0, .int .i64 0, .int .i64 0, .int .i64 0, .slice none 0 0, .slice none 0 0, .slice none 0 0, .slice none 0 0, .slice none 0 0, .slice none 0 0] 31))
  have r := bx_new (w.alloc (.cells #[.int .i64 X.idn, .int .i64 X.n, .int .i64 X.vw, .int .i64 X.vo, .int .i64 X.lo, .int .i64 X.pr, .int .i64 X.hi.p.vw, .int .i64 X.hi.p.nm, X.hi.vs, X.hi.vt, X.vb, X.vv, X.vn, X.vd] 31)) 31 #[.int .i64 0, .int .i64 0, .int .i64 0, .int .i64 0, .int .i64 0, .int .i64 0, .int .i64 0, .int .i64 0, .slice none 0 0, .slice none 0 0, .slice none 0 0, .slice none 0 0, .slice none 0 0, .slice none 0 0]
  have b := below2 w (.cells #[.int .i64 X.idn, .int .i64 X.n, .int .i64 X.vw, .int .i64 X.vo, .int .i64 X.lo, .int .i64 X.pr, .int .i64 X.hi.p.vw, .int .i64 X.hi.p.nm, X.hi.vs, X.hi.vt, X.vb, X.vv, X.vn, X.vd] 31) (.cells #[.int .i64 0, .int .i64 0, .int .i64 0, .int .i64 0, .int .i64 0, .int .i64 0, .int .i64 0, .int .i64 0, .slice none 0 0, .slice none 0 0, .slice none 0 0, .slice none 0 0, .slice none 0 0, .slice none 0 0] 31)
  have s : w.heap.size + 2 ≤ ((w.alloc (.cells #[.int .i64 X.idn, .int .i64 X.n, .int .i64 X.vw, .int .i64 X.vo, .int .i64 X.lo, .int .i64 X.pr, .int .i64 X.hi.p.vw, .int .i64 X.hi.p.nm, X.hi.vs, X.hi.vt, X.vb, X.vv, X.vn, X.vd] 31)).alloc (.cells #[.int .i64 0, .int .i64 0, .int .i64 0, .int .i64 0, .int .i64 0, .int .i64 0, .int .i64 0, .int .i64 0, .slice none 0 0, .slice none 0 0, .slice none 0 0, .slice none 0 0, .slice none 0 0, .slice none 0 0] 31)).heap.size := by simp
  rw [show (w.alloc (.cells #[.int .i64 X.idn, .int .i64 X.n, .int .i64 X.vw, .int .i64 X.vo, .int .i64 X.lo, .int .i64 X.pr, .int .i64 X.hi.p.vw, .int .i64 X.hi.p.nm, X.hi.vs, X.hi.vt, X.vb, X.vv, X.vn, X.vd] 31)).heap.size = w.heap.size + 1 by simp] at r
  obtain ⟨q0, q1, q2, q3, q4, q5, q6, q7, q8, q9, q10, q11, q12, q13⟩ := t.c14
  go_enter Tryz.func24, Tryz.ntmps24
  go_wp2_with fail
  generalize (w.alloc (.cells #[.int .i64 X.idn, .int .i64 X.n, .int .i64 X.vw, .int .i64 X.vo, .int .i64 X.lo, .int .i64 X.pr, .int .i64 X.hi.p.vw, .int .i64 X.hi.p.nm, X.hi.vs, X.hi.vt, X.vb, X.vv, X.vn, X.vd] 31)).alloc (.cells #[.int .i64 0, .int .i64 0, .int .i64 0, .int .i64 0, .int .i64 0, .int .i64 0, .int .i64 0, .int .i64 0, .slice none 0 0, .slice none 0 0, .slice none 0 0, .slice none 0 0, .slice none 0 0, .slice none 0 0] 31) = W2 at t r b s q0 q1 q2 q3 q4 q5 q6 q7 q8 q9 q10 q11 q12 q13 ⊢
  refine (HV.out _ b).mono ?_
  rintro e w3 (⟨hr0, ⟨g, rfl⟩, hb3⟩ | ⟨hr1, g, V, rfl, hVO, hrep⟩)
  · subst hr0
    have r3 := r.below hb3
    have b3 := b.trans (hb3.mono b.size)
    clear r b hb3 HV q0 q1 q2 q3 q4 q5 q6 q7 q8 q9 q10 q11 q12 q13
    have HZ : Hid (rstR X.rep = ⟨0, 0, 0, 0, 0, 0, ⟨0, 0, [], []⟩, [], [], [], []⟩) := by unfold Hid rstR; rw [if_neg (by rw [← HRR.out]; decide)]
    obtain ⟨x0, x1, x2, x3, x4, x5, x6, x7, x8, x9, x10, x11, x12, x13⟩ := r3.c14
    obtain ⟨y0, y1, y2, y3, y4, y5, y6, y7, y8, y9, y10, y11, y12, y13⟩ := r3.f14
    obtain ⟨k0, k1, k2, k3, k4, k5, k6, k7, k8, k9, k10, k11, k12, k13⟩ := (r3.put14 (.int .i64 0) (.int .i64 0) (.int .i64 0) (.int .i64 0) (.int .i64 0) (.int .i64 0) (.int .i64 0) (.int .i64 0) (.slice none 0 0) (.slice none 0 0) (.slice none 0 0) (.slice none 0 0) (.slice none 0 0) (.slice none 0 0)).c14
    have HF : Hid (ToRep w (rstR X.rep) (.returned (.agg #[.int .i64 0, .int .i64 0, .int .i64 0, .int .i64 0, .int .i64 0, .int .i64 0, .int .i64 0, .int .i64 0, .slice none 0 0, .slice none 0 0, .slice none 0 0, .slice none 0 0, .slice none 0 0, .slice none 0 0])) (put14 w3 (w.heap.size + 1) (.int .i64 0) (.int .i64 0) (.int .i64 0) (.int .i64 0) (.int .i64 0) (.int .i64 0) (.int .i64 0) (.int .i64 0) (.slice none 0 0) (.slice none 0 0) (.slice none 0 0) (.slice none 0 0) (.slice none 0 0) (.slice none 0 0))) := by
      unfold Hid
      rw [HZ.out]
      exact ⟨rexZ 0 0 0 0 0 0 0 0, rfl, rfl, ownRep_zero _ _ _ _ _ _ _ _ _ _, put14_below b3 (by omega)⟩
    unfold put14 at k0 k1 k2 k3 k4 k5 k6 k7 k8 k9 k10 k11 k12 k13 HF
    clear r3 b3 t HZ s
    go_wp2
    exact bodyPost_ret (v := .agg #[.int .i64 0, .int .i64 0, .int .i64 0, .int .i64 0, .int .i64 0, .int .i64 0, .int .i64 0, .int .i64 0, .slice none 0 0, .slice none 0 0, .slice none 0 0, .slice none 0 0, .slice none 0 0, .slice none 0 0]) (by simp [results, Tryz.results24, go_sem, k0, k1, k2, k3, k4, k5, k6, k7, k8, k9, k10, k11, k12, k13]) rfl HF.out
  · have hb3 : Below W2.heap.size W2 w3 := hVO.a.bel
    have r3 := r.below hb3
    have b3 := b.trans (hb3.mono b.size)
    have s3 : w.heap.size + 2 ≤ w3.heap.size := Nat.le_trans s hb3.size
    have hge : w.heap.size + 2 ≤ g := Nat.le_trans s hVO.a.ge
    have hbx := hVO.a.box
    have hO : OwnRep w3 (w.heap.size + 2) V.X := OwnRep.mono hVO.own s
    subst hr1
    clear t r b hb3 HV q0 q1 q2 q3 q4 q5 q6 q7 q8 q9 q10 q11 q12 q13 hVO
    obtain ⟨a1, c1, a2, c2, e1, e2⟩ := hO.hi.slices
    obtain ⟨a3, c3, e3⟩ := ownSlX hO.bl
    obtain ⟨a4, c4, e4⟩ := ownSlX hO.vo
    obtain ⟨a5, c5, e5⟩ := ownSlX hO.nw
    obtain ⟨a6, c6, e6⟩ := ownSlX hO.dn
    generalize V.vnm = vnm at hbx
    generalize V.mb = vmb at hbx
    generalize V.vst = vst at hbx
    generalize V.X = Y at hbx hO hrep e1 e2 e3 e4 e5 e6
    obtain ⟨yi, yn, yw, yo, yl, yr, ⟨yp, yps, ypt⟩, yb, ybs, yv, yvs, yx, yns, yd, ydn⟩ := Y
    simp only at e1 e2 e3 e4 e5 e6 hO hrep hbx ⊢
    generalize yp.sv.length = n1 at e1
    generalize yp.tg.length = n2 at e2
    generalize ybs.length = n3 at e3
    generalize yvs.length = n4 at e4
    generalize yns.length = n5 at e5
    generalize ydn.length = n6 at e6
    subst e1 e2 e3 e4 e5 e6
    have HO : Hid (OwnRep w3 (w.heap.size + 2) _) := hO
    have HYR : Hid (RepX.rep _ = X.rep) := hrep
    clear hO hrep
    have bB : Below w3.heap.size w3 ((w3.alloc (.cells #[] 36)).alloc (.cells #[] 128)) := (below1 w3 (.cells #[] 36)).alloc (by simp) _
    have sB : (w3.alloc (.cells #[] 36)).heap.size = w3.heap.size + 1 := by simp
    have aB := hbx.below bB
    have aC : Bx (World.setCell ((w3.alloc (.cells #[] 36)).alloc (.cells #[] 128)) ⟨g, 11, none⟩ (.slice (some ⟨w3.heap.size, 0, none⟩) 0 0)) g 123 #[.int .i64 yi, .int .i64 yn, .int .i64 yw, .int .i64 yo, .int .i64 yl, .int .i64 yr, .int .i64 yp.vw, .int .i64 yp.nm, .slice a1 n1 c1, .slice a2 n2 c2, .slice a3 n3 c3, .slice (some ⟨w3.heap.size, 0, none⟩) 0 0, .slice a5 n5 c5, .slice a6 n6 c6, vnm, .map (some vmb), vst] := aB.set 11 (.slice (some ⟨w3.heap.size, 0, none⟩) 0 0)
    have aD : Bx (World.setCell (World.setCell ((w3.alloc (.cells #[] 36)).alloc (.cells #[] 128)) ⟨g, 11, none⟩ (.slice (some ⟨w3.heap.size, 0, none⟩) 0 0)) ⟨g, 12, none⟩ (.slice (some ⟨w3.heap.size + 1, 0, none⟩) 0 0)) g 123 #[.int .i64 yi, .int .i64 yn, .int .i64 yw, .int .i64 yo, .int .i64 yl, .int .i64 yr, .int .i64 yp.vw, .int .i64 yp.nm, .slice a1 n1 c1, .slice a2 n2 c2, .slice a3 n3 c3, .slice (some ⟨w3.heap.size, 0, none⟩) 0 0, .slice (some ⟨w3.heap.size + 1, 0, none⟩) 0 0, .slice a6 n6 c6, vnm, .map (some vmb), vst] := aC.set 12 (.slice (some ⟨w3.heap.size + 1, 0, none⟩) 0 0)
    have T : Touch [g] ((w3.alloc (.cells #[] 36)).alloc (.cells #[] 128)) (World.setCell (World.setCell ((w3.alloc (.cells #[] 36)).alloc (.cells #[] 128)) ⟨g, 11, none⟩ (.slice (some ⟨w3.heap.size, 0, none⟩) 0 0)) ⟨g, 12, none⟩ (.slice (some ⟨w3.heap.size + 1, 0, none⟩) 0 0)) := (Touch.set (List.mem_singleton.2 rfl)).trans (Touch.set (List.mem_singleton.2 rfl))
    have vB : OwnVo ((w3.alloc (.cells #[] 36)).alloc (.cells #[] 128)) w3.heap.size (.slice (some ⟨w3.heap.size, 0, none⟩) 0 0) [] := own_below (ownVo_none w3) (below1 _ _)
    have nB : OwnNw ((w3.alloc (.cells #[] 36)).alloc (.cells #[] 128)) w3.heap.size (.slice (some ⟨w3.heap.size + 1, 0, none⟩) 0 0) [] := by
      have h := ownNw_none (w3.alloc (.cells #[] 36))
      rw [sB] at h
      exact OwnNw.mono h (Nat.le_succ _)
    have OB := HO.out.newRows bB s3 vB nB
    have OE := OwnRep.touch OB T (OwnRep.offBox OB aB)
    have rB := r3.below bB
    have hlt : w.heap.size + 1 ∉ [g] := fun e => by have := List.mem_singleton.1 e; omega
    have rE := rB.touch T hlt
    have bz : Below w.heap.size w (World.setCell (World.setCell ((w3.alloc (.cells #[] 36)).alloc (.cells #[] 128)) ⟨g, 11, none⟩ (.slice (some ⟨w3.heap.size, 0, none⟩) 0 0)) ⟨g, 12, none⟩ (.slice (some ⟨w3.heap.size + 1, 0, none⟩) 0 0)) := T.below (b3.trans (bB.mono b3.size)) (fun k hk => by rw [List.mem_singleton.1 hk]; omega)
    obtain ⟨k0, k1, k2, k3, k4, k5, k6, k7, k8, k9, k10, k11, k12, k13⟩ := (rE.put14 (.int .i64 yi) (.int .i64 yn) (.int .i64 yw) (.int .i64 yo) (.int .i64 yl) (.int .i64 yr) (.int .i64 yp.vw) (.int .i64 yp.nm) (.slice a1 n1 c1) (.slice a2 n2 c2) (.slice a3 n3 c3) (.slice (some ⟨w3.heap.size, 0, none⟩) 0 0) (.slice (some ⟨w3.heap.size + 1, 0, none⟩) 0 0) (.slice a6 n6 c6)).c14
    have HF : Hid (ToRep w (rstR X.rep) (.returned (.agg #[.int .i64 yi, .int .i64 yn, .int .i64 yw, .int .i64 yo, .int .i64 yl, .int .i64 yr, .int .i64 yp.vw, .int .i64 yp.nm, .slice a1 n1 c1, .slice a2 n2 c2, .slice a3 n3 c3, .slice (some ⟨w3.heap.size, 0, none⟩) 0 0, .slice (some ⟨w3.heap.size + 1, 0, none⟩) 0 0, .slice a6 n6 c6])) (put14 (World.setCell (World.setCell ((w3.alloc (.cells #[] 36)).alloc (.cells #[] 128)) ⟨g, 11, none⟩ (.slice (some ⟨w3.heap.size, 0, none⟩) 0 0)) ⟨g, 12, none⟩ (.slice (some ⟨w3.heap.size + 1, 0, none⟩) 0 0)) (w.heap.size + 1) (.int .i64 yi) (.int .i64 yn) (.int .i64 yw) (.int .i64 yo) (.int .i64 yl) (.int .i64 yr) (.int .i64 yp.vw) (.int .i64 yp.nm) (.slice a1 n1 c1) (.slice a2 n2 c2) (.slice a3 n3 c3) (.slice (some ⟨w3.heap.size, 0, none⟩) 0 0) (.slice (some ⟨w3.heap.size + 1, 0, none⟩) 0 0) (.slice a6 n6 c6))) := by
      refine ⟨_, rfl, ?_, (OwnRep.touch OE put14_touch (fun q hq e => by have h1 := (OwnRep.bound OE hq).1; have h2 := List.mem_singleton.1 e; omega)).mono (by omega), put14_below bz (by omega)⟩
      unfold rstR
      rw [if_pos HRR.out.symm, ← HYR.out]
      rfl
    unfold put14 at k0 k1 k2 k3 k4 k5 k6 k7 k8 k9 k10 k11 k12 k13 HF
    obtain ⟨m0, m1, m2, m3, m4, m5, m6, m7, m8, m9, m10, m11, m12, m13, m14, m15, m16⟩ := aD.c17
    have fB := aB.fz 11
    have fC := aC.fz 12
    obtain ⟨-, -, -, -, -, -, -, -, -, -, -, uB, -, -, -, -, -⟩ := aB.c17
    obtain ⟨-, -, -, -, -, -, -, -, -, -, -, -, uC, -, -, -, -⟩ := aC.c17
    obtain ⟨x0, x1, x2, x3, x4, x5, x6, x7, x8, x9, x10, x11, x12, x13⟩ := rE.c14
    obtain ⟨y0, y1, y2, y3, y4, y5, y6, y7, y8, y9, y10, y11, y12, y13⟩ := rE.f14
    have HRS : Hid (∀ W, W = w3 → Calls Tryz.prog 87 #[.pointer (some ⟨g, 0, none⟩)] W fun e w' => e = .returned (.tuple #[]) ∧ w' = (World.setCell (World.setCell ((w3.alloc (.cells #[] 36)).alloc (.cells #[] 128)) ⟨g, 11, none⟩ (.slice (some ⟨w3.heap.size, 0, none⟩) 0 0)) ⟨g, 12, none⟩ (.slice (some ⟨w3.heap.size + 1, 0, none⟩) 0 0))) := fun W e => by subst e; exact restartV_any g _ _ _ _ _ _ _ _ _ _ _ _ _ _ _ _ _ _ hbx
    clear aB aC aD T bB vB nB OB OE rB rE bz r3 b3 s3 HO HYR sB hbx hlt hge s uB uC fB fC
    go_wp2_with fail
    refine (HRS.out _ rfl).mono ?_
    rintro e w4 ⟨rfl, rfl⟩
    go_wp2
    exact bodyPost_ret (v := .agg #[.int .i64 yi, .int .i64 yn, .int .i64 yw, .int .i64 yo, .int .i64 yl, .int .i64 yr, .int .i64 yp.vw, .int .i64 yp.nm, .slice a1 n1 c1, .slice a2 n2 c2, .slice a3 n3 c3, .slice (some ⟨w3.heap.size, 0, none⟩) 0 0, .slice (some ⟨w3.heap.size + 1, 0, none⟩) 0 0, .slice a6 n6 c6]) (by simp [results, Tryz.results24, go_sem, k0, k1, k2, k3, k4, k5, k6, k7, k8, k9, k10, k11, k12, k13]) rfl HF.out
end Go.Proofs.YtilhaokiohbeeaaGreatDoor
