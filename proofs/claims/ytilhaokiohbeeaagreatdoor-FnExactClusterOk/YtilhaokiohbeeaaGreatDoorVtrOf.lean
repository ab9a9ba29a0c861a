/- The contract of the program's voterOf. -/
import Derived.Test.YtilhaokiohbeeaaGreatDoorG43
-- UNF Gen
namespace Go.Proofs.YtilhaokiohbeeaaGreatDoor
open Go.RowKit
theorem vo_news (w : World) (cs vc : Array Value) : Bx ((((w.alloc (.cells cs 31)).alloc (.map #[] 0)).alloc (.cells #[] 38)).alloc (.cells vc 123)) w.heap.size 31 cs ∧
    Bx ((((w.alloc (.cells cs 31)).alloc (.map #[] 0)).alloc (.cells #[] 38)).alloc (.cells vc 123)) (w.heap.size + 1 + 1 + 1) 123 vc ∧
    ((((w.alloc (.cells cs 31)).alloc (.map #[] 0)).alloc (.cells #[] 38)).alloc (.cells vc 123)).heap[w.heap.size + 1]? = some (.map #[] 0) ∧
    ((((w.alloc (.cells cs 31)).alloc (.map #[] 0)).alloc (.cells #[] 38)).alloc (.cells vc 123)).ownsRow w.heap.size 38 20 (.slice (some ⟨w.heap.size + 1 + 1, 0, none⟩) 0 0) 0 [] ∧
    Below w.heap.size w ((((w.alloc (.cells cs 31)).alloc (.map #[] 0)).alloc (.cells #[] 38)).alloc (.cells vc 123)) := by
  obtain ⟨A, hA⟩ : ∃ A, A = w.alloc (.cells cs 31) := ⟨_, rfl⟩
  have s1 : A.heap.size = w.heap.size + 1 := by rw [hA]; simp
  have h1 : Bx A w.heap.size 31 cs := by rw [hA]; exact bx_new _ _ _
  have bA : Below w.heap.size w A := by rw [hA]; exact below1 _ _
  rw [← hA]
  obtain ⟨B, hB⟩ : ∃ B, B = A.alloc (.map #[] 0) := ⟨_, rfl⟩
  have s2 : B.heap.size = w.heap.size + 1 + 1 := by rw [hB]; simp [s1]
  have h2 : B.heap[w.heap.size + 1]? = some (.map #[] 0) := by rw [hB, ← s1]; exact heap_alloc_new A _
  have bB : Below A.heap.size A B := by rw [hB]; exact below1 _ _
  rw [← hB]
  obtain ⟨C, hC⟩ : ∃ C, C = B.alloc (.cells #[] 38) := ⟨_, rfl⟩
  have s3 : C.heap.size = w.heap.size + 1 + 1 + 1 := by rw [hC]; simp [s2]
  have h3 : C.ownsRow (w.heap.size + 1 + 1) 38 20 (.slice (some ⟨w.heap.size + 1 + 1, 0, none⟩) 0 0) 0 [] := by rw [hC, ← s2]; exact World.ownsRow_lit B #[] 0 (Nat.le_refl _) (Nat.zero_le _) rfl
  have bC : Below B.heap.size B C := by rw [hC]; exact below1 _ _
  rw [← hC]
  have bD := below1 C (.cells vc 123)
  have h4 := bx_new C 123 vc
  rw [s3] at h4
  refine ⟨((h1.below bB).below bC).below bD, h4, ?_, ?_, ((bA.trans (bB.mono (by omega))).trans (bC.mono (by omega))).trans (bD.mono (by omega))⟩
  · exact (bD.block _ (by omega)).trans ((bC.block _ (by omega)).trans h2)
  · have h5 := own_below h3 bD
    refine ⟨h5.1, ?_⟩
    rcases h5.2 with h6 | ⟨x, cap, cur, hv, hx, hr⟩
    · exact .inl h6
    · exact .inr ⟨x, cap, cur, hv, by omega, hr⟩
theorem World.ownsRow.mono' {w : World} {B B' t s n : Nat} {v : Value} {xs : List Value} (h : w.ownsRow B t s v n xs) (hb : B' ≤ B) : w.ownsRow B' t s v n xs := by
  refine ⟨h.1, ?_⟩
  rcases h.2 with h2 | ⟨g, cap, cur, hv, hg, r⟩
  · exact .inl h2
  · exact .inr ⟨g, cap, cur, hv, Nat.le_trans hb hg, r⟩
set_option maxHeartbeats 16000000 in
set_option maxRecDepth 100000 in
theorem voterOf_any (X : RepX) (w : World) (hx : RdRep w X) (hf : FitRep X.rep) (hs : SmB X.bs) (hnil : ∀ M ∈ X.bs, NilOk M.vm) (hsum : X.hi.p.sv.length ≤ 1048576 ∧ X.hi.p.tg.length ≤ 1048576 ∧ X.dn.length ≤ 1048576) (ht : Tab w) :
    Calls Tryz.prog 67 #[.agg #[.int .i64 X.idn, .int .i64 X.n, .int .i64 X.vw, .int .i64 X.vo, .int .i64 X.lo, .int .i64 X.pr, .int .i64 X.hi.p.vw, .int .i64 X.hi.p.nm, X.hi.vs, X.hi.vt, X.vb, X.vv, X.vn, X.vd]] w fun e w' => VoP w X (irepR X.rep) e w' := by
  obtain ⟨d, n, v, o, l, r, ⟨hp, hvs, hvt⟩, vb, Xs, vv, vs, vn, ns, vd, dn⟩ := X
  obtain ⟨hx1, hx2, hx3, hx4, hx5, hx6⟩ := hx
  obtain ⟨-, hf2, -, -, -, -, hf7, hf8, hf9, hf10, hf11⟩ := hf
  obtain ⟨hsum1, hsum2, hsum3⟩ := hsum
  simp only [RepX.rep] at hx1 hx2 hx3 hx4 hx5 hx6 hf2 hf7 hf8 hf9 hf10 hf11 hs hnil hsum1 hsum2 hsum3 ⊢
  obtain ⟨ab, cb, hvb, hlb, hmb, -⟩ := id hx2
  obtain ⟨av, cv, hvv, hlv, hmv, -⟩ := id hx4
  obtain ⟨an, cn, hvn, hln, hmn, -⟩ := id hx5
  obtain ⟨ad, cd, hvd, hld, hmd, -⟩ := id hx6
  unfold maxLen at hmb
  obtain ⟨bn, hbn⟩ : ∃ k, k = Xs.length := ⟨_, rfl⟩
  obtain ⟨vl, hvl⟩ : ∃ k, k = vs.length := ⟨_, rfl⟩
  obtain ⟨nl, hnl⟩ : ∃ k, k = ns.length := ⟨_, rfl⟩
  obtain ⟨dl, hdl⟩ : ∃ k, k = dn.length := ⟨_, rfl⟩
  have HBN : Hid (bn = Xs.length) := hbn
  rw [← hbn] at hvb hlb
  rw [← hvl] at hvv
  rw [← hnl] at hvn
  rw [← hdl] at hvd
  subst hvb hvv hvn hvd
  clear hbn hlv hln hld hmv hmn hmd
  obtain ⟨nb, hnb⟩ : ∃ z, numB ⟨d, n, v, o, l, r, hp, bsOf Xs, vs, ns, dn⟩ = z := ⟨_, rfl⟩
  obtain ⟨he, hhe⟩ : ∃ z, heaB n vs ns = z := ⟨_, rfl⟩
  obtain ⟨pk, hpk⟩ : ∃ z, (prfR hp n && knoB (bsOf Xs) hp) = z := ⟨_, rfl⟩
  obtain ⟨dd, hdd⟩ : ∃ z, dnI (bsOf Xs) dn 0 = z := ⟨_, rfl⟩
  obtain ⟨R, hR⟩ : ∃ R, R = irepR ⟨d, n, v, o, l, r, hp, bsOf Xs, vs, ns, dn⟩ := ⟨_, rfl⟩
  have HR : Hid (R = (nb && (he && (ablB (bsOf Xs) n bn && (pk && dd))))) := by
    unfold Hid
    rw [hR]
    unfold irepR
    simp only
    rw [hnb, hhe, hpk, hdd, bsOf_len, ← HBN.out]
  have HG : Hid (irepR ⟨d, n, v, o, l, r, hp, List.map (fun x => x.b) Xs, vs, ns, dn⟩ = R) := hR.symm
  rw [HG.out]
  have HNB : Hid (∀ W, Calls Tryz.prog 145 #[.agg #[.int .i64 d, .int .i64 n, .int .i64 v, .int .i64 o, .int .i64 l, .int .i64 r, .int .i64 hp.vw, .int .i64 hp.nm, hvs, hvt, .slice ab bn cb, .slice av vl cv, .slice an nl cn, .slice ad dl cd]] W fun e w' => e = .returned (.bool nb) ∧ Below W.heap.size W w') := fun W => by
    rw [← hnb]
    exact numbersOk_any d n v o l r hp.vw hp.nm hvs hvt (.slice ab bn cb) (.slice av vl cv) (.slice an nl cn) (.slice ad dl cd) _ _ _ _ _ _ rfl rfl rfl rfl rfl rfl W
  have HHE : Hid (∀ W, Below w.heap.size w W → Calls Tryz.prog 146 #[.agg #[.int .i64 d, .int .i64 n, .int .i64 v, .int .i64 o, .int .i64 l, .int .i64 r, .int .i64 hp.vw, .int .i64 hp.nm, hvs, hvt, .slice ab bn cb, .slice av vl cv, .slice an nl cn, .slice ad dl cd]] W fun e w' => e = .returned (.bool he) ∧ Below W.heap.size W w') := fun W hb => by
    rw [← hhe]
    exact heardOk_any d n v o l r hp.vw hp.nm hvs hvt (.slice ab bn cb) (.slice av vl cv) (.slice an nl cn) (.slice ad dl cd) vs ns W (hx4.below hb) (hx5.below hb) hf9 (ht.on hb)
  have HHC : Hid (∀ W, RdPr W ⟨hp, hvs, hvt⟩ → Calls Tryz.prog 150 #[.agg #[.int .i64 hp.vw, .int .i64 hp.nm, hvs, hvt]] W fun e w' => ∃ Y : PrX, e = .returned (.agg #[.int .i64 Y.p.vw, .int .i64 Y.p.nm, Y.vs, Y.vt]) ∧ Y.p = hp ∧ OwnPr w' W.heap.size Y ∧ Below W.heap.size W w') := fun W h => proofCopied_any ⟨hp, hvs, hvt⟩ W h (by simp only; omega) (by simp only; omega)
  have HDC : Hid (∀ W, RdI W (.slice ad dl cd) dn → Calls Tryz.prog 151 #[.slice ad dl cd] W fun e w' => ∃ u, e = .returned u ∧ OwnI w' W.heap.size u dn ∧ Below W.heap.size W w') := fun W h => copyI_any _ _ W h (by omega)
  have HVC : Hid (he = true → ∀ W, RdVo W (.slice av vl cv) vs → Calls Tryz.prog 152 #[.slice av vl cv] W fun e w' => ∃ u, e = .returned u ∧ OwnVo w' W.heap.size u vs ∧ Below W.heap.size W w') := fun hh W h => copyV_any _ _ W h (by
    rw [← hhe] at hh
    unfold heaB at hh
    simp only [Bool.and_eq_true, decide_eq_true_eq] at hh
    omega)
  have HNC : Hid (he = true → ∀ W, RdNw W (.slice an nl cn) ns → Calls Tryz.prog 153 #[.slice an nl cn] W fun e w' => ∃ u, e = .returned u ∧ OwnNw w' W.heap.size u ns ∧ Below W.heap.size W w') := fun hh W h => copyN_any _ _ W h (by
    rw [← hhe] at hh
    unfold heaB at hh
    simp only [Bool.and_eq_true, decide_eq_true_eq] at hh
    omega)
  have hr1 := hx1
  have hr6 := hx6
  obtain ⟨t0, u0, m0, s0, b0⟩ := vo_news w #[.int .i64 d, .int .i64 n, .int .i64 v, .int .i64 o, .int .i64 l, .int .i64 r, .int .i64 hp.vw, .int .i64 hp.nm, hvs, hvt, .slice ab bn cb, .slice av vl cv, .slice an nl cn, .slice ad dl cd] #[.int .i64 d, .int .i64 n, .int .i64 v, .int .i64 o, .int .i64 l, .int .i64 r, .int .i64 hp.vw, .int .i64 hp.nm, hvs, hvt, .slice ab bn cb, .slice av vl cv, .slice an nl cn, .slice ad dl cd, .slice none 0 0, .map (some (w.heap.size + 1)), .slice (some ⟨w.heap.size + 1 + 1, 0, none⟩) 0 0]
  have HPK : Hid (∀ {W : World} {g : Nat} {V : Vt}, VtS w W g V ⟨d, n, v, o, l, r, ⟨hp, hvs, hvt⟩, .slice ab bn cb, Xs, .slice av vl cv, vs, .slice an nl cn, ns, .slice ad dl cd, dn⟩ bn → Calls Tryz.prog 148 #[.pointer (some ⟨g, 0, none⟩), .agg #[.int .i64 hp.vw, .int .i64 hp.nm, hvs, hvt]] W fun e w' => e = .returned (.bool pk) ∧ Below W.heap.size W w') := fun {W g V} h => by
    have e1 : V.X.n = n := by rw [h.eqX]
    have e2 : bsOf V.X.bs = bsOf Xs := by rw [h.eqb]; exact List.take_of_length_le (by rw [bsOf_len]; have := HBN.out; simp only; omega)
    have h2 := proofOkV_any ⟨hp, hvs, hvt⟩ h.a (hx1.below h.a.bel) hf7 (ht.on h.a.bel)
    rw [e1, e2, hpk] at h2
    exact h2
  have HDD : Hid (∀ {W : World} {g : Nat} {V : Vt}, VtS w W g V ⟨d, n, v, o, l, r, ⟨hp, hvs, hvt⟩, .slice ab bn cb, Xs, .slice av vl cv, vs, .slice an nl cn, ns, .slice ad dl cd, dn⟩ bn → Calls Tryz.prog 149 #[.pointer (some ⟨g, 0, none⟩)] W fun e w' => e = .returned (.bool dd) ∧ w' = W) := fun {W g V} h => by
    have e2 : bsOf V.X.bs = bsOf Xs := by rw [h.eqb]; exact List.take_of_length_le (by rw [bsOf_len]; have := HBN.out; simp only; omega)
    have e3 : V.X.dn = dn := by rw [h.eqX]
    have e4 : V.X.vd = .slice ad dl cd := by rw [h.eqX]
    have h2 := doneOkV_any h.a (by rw [e3, e4]; exact hx6.below h.a.bel)
    rw [e2, e3, hdd] at h2
    exact h2
  have HFM : Hid (∀ k, k < Xs.length → FitBl (nthBs Xs k).b ∧ SmallB (nthBs Xs k).b ∧ NilOk (nthBs Xs k).vm ∧ RdBl w (nthBs Xs k)) := fun k hk => ⟨hf8 _ (by rw [nthBs_eq hk]; exact List.mem_map.2 ⟨_, List.getElem_mem hk, rfl⟩), hs.nth hk, hnil _ (by rw [nthBs_eq hk]; exact List.getElem_mem hk), hx3.nth hk⟩
  have HT : Hid (Tab w) := ht
  have hr2 := hx2
  have HX4 : Hid (RdVo w (.slice av vl cv) vs) := hx4
  have HX5 : Hid (RdNw w (.slice an nl cn) ns) := hx5
  clear hnb hhe hpk hdd hR hx1 hx2 hx3 hx4 hx5 hx6 hf2 hf7 hf8 hf9 hf10 hf11 hs hnil ht HG hsum1 hsum2 hsum3 hvl hnl hdl
  have hmm := @run_makeMap Tryz.prog
  obtain ⟨q0, q1, q2, q3, q4, q5, q6, q7, q8, q9, q10, q11, q12, q13⟩ := t0.c14
  go_enter Tryz.func67, Tryz.ntmps67
  go_wp2_with fail
  generalize ((((w.alloc (.cells #[.int .i64 d, .int .i64 n, .int .i64 v, .int .i64 o, .int .i64 l, .int .i64 r, .int .i64 hp.vw, .int .i64 hp.nm, hvs, hvt, .slice ab bn cb, .slice av vl cv, .slice an nl cn, .slice ad dl cd] 31)).alloc (.map #[] 0)).alloc (.cells #[] 38)).alloc (.cells #[.int .i64 d, .int .i64 n, .int .i64 v, .int .i64 o, .int .i64 l, .int .i64 r, .int .i64 hp.vw, .int .i64 hp.nm, hvs, hvt, .slice ab bn cb, .slice av vl cv, .slice an nl cn, .slice ad dl cd, .slice none 0 0, .map (some (w.heap.size + 1)), .slice (some ⟨w.heap.size + 1 + 1, 0, none⟩) 0 0] 123)) = W1 at t0 u0 m0 s0 b0 ⊢
  clear q0 q1 q2 q3 q4 q5 q6 q7 q8 q9 q10 q11 q12 q13 hmm
  obtain ⟨g, hg⟩ : ∃ g, g = w.heap.size + 1 + 1 + 1 := ⟨_, rfl⟩
  rw [← hg] at u0 ⊢
  have HGE : Hid (w.heap.size + 1 + 1 + 1 = g) := hg.symm
  clear hg
  refine (HNB.out _).mono ?_
  rintro e w2 ⟨rfl, hb2⟩
  replace t0 := t0.below hb2
  replace u0 := u0.below hb2
  replace m0 := (hb2.block _ (Array.getElem?_eq_some_iff.1 m0).1).trans m0
  replace s0 := own_below s0 hb2
  replace b0 := b0.trans (hb2.mono b0.size)
  clear hb2
  cases nb with
  | false =>
    go_wp2
    refine bodyPost_ret (v := .tuple #[.pointer (some ⟨g, 0, none⟩), .bool false]) (by simp [results, Tryz.results67, go_sem]) rfl (.inl ⟨HR.out, ⟨_, rfl⟩, b0⟩)
  | true =>
  obtain ⟨q0, q1, q2, q3, q4, q5, q6, q7, q8, q9, q10, q11, q12, q13⟩ := t0.c14
  go_wp2_with fail
  refine (HHE.out _ b0).mono ?_
  rintro e w3 ⟨rfl, hb2⟩
  replace t0 := t0.below hb2
  replace u0 := u0.below hb2
  replace m0 := (hb2.block _ (Array.getElem?_eq_some_iff.1 m0).1).trans m0
  replace s0 := own_below s0 hb2
  replace b0 := b0.trans (hb2.mono b0.size)
  clear hb2 q0 q1 q2 q3 q4 q5 q6 q7 q8 q9 q10 q11 q12 q13
  cases he with
  | false =>
    go_wp2
    refine bodyPost_ret (v := .tuple #[.pointer (some ⟨g, 0, none⟩), .bool false]) (by simp [results, Tryz.results67, go_sem]) rfl (.inl ⟨HR.out, ⟨_, rfl⟩, b0⟩)
  | true =>
  have hA := below1 w3 (.cells #[] 34)
  have hgw : w.heap.size ≠ g := by have := HGE.out; omega
  have hmw : w.heap.size + 1 ≠ g := by have := HGE.out; omega
  have uA := u0.below hA
  have uf := uA.fz 10
  obtain ⟨uq0, uq1, uq2, uq3, uq4, uq5, uq6, uq7, uq8, uq9, uq10, uq11, uq12, uq13, uq14, uq15, uq16⟩ := uA.c17
  obtain ⟨z3, hz3⟩ : ∃ z, z = w3.heap.size := ⟨_, rfl⟩
  have hbl : (w3.alloc (.cells #[] 34)).ownsRow w3.heap.size 34 8 (.slice (some ⟨w3.heap.size, 0, none⟩) 0 0) 0 [] := ownBs_none w3
  have HZ3 : Hid (z3 = w3.heap.size) := hz3
  have W5e : ∀ {B t s n : Nat} {v : Value} {xs : List Value}, (w3.alloc (.cells #[] 34)).ownsRow B t s v n xs → 123 ≠ t → ((w3.alloc (.cells #[] 34)).setCell ⟨g, 10, none⟩ (.slice (some ⟨w3.heap.size, 0, none⟩) 0 0)).ownsRow B t s v n xs := fun hr ht => row_set hr (fun k hk e => uA.row hr (fun e => ht e.symm) k hk e)
  have S0 : VtS w ((w3.alloc (.cells #[] 34)).setCell ⟨g, 10, none⟩ (.slice (some ⟨w3.heap.size, 0, none⟩) 0 0)) g ⟨⟨d, n, v, o, l, r, ⟨hp, hvs, hvt⟩, .slice (some ⟨w3.heap.size, 0, none⟩) 0 0, [], .slice av vl cv, vs, .slice an nl cn, ns, .slice ad dl cd, dn⟩, .slice none 0 0, w.heap.size + 1, [], .slice (some ⟨w.heap.size + 1 + 1, 0, none⟩) 0 0⟩ ⟨d, n, v, o, l, r, ⟨hp, hvs, hvt⟩, .slice ab bn cb, Xs, .slice av vl cv, vs, .slice an nl cn, ns, .slice ad dl cd, dn⟩ 0 := by
    have b3 : Below w.heap.size w (w3.alloc (.cells #[] 34)) := b0.trans (hA.mono b0.size)
    refine ⟨⟨b3.setCell (p := ⟨g, 10, none⟩) (by show w.heap.size ≤ g; have := HGE.out; omega) _, by have := HGE.out; omega, by show w.heap.size ≤ w.heap.size + 1; omega, uA.set 10 _, ?_, (fun X hX => by cases hX), ownI_nil _ _, by simp [bblks, oneB, Value.ownBlock], ⟨#[], 0, ?_, rfl⟩, (fun X hX => by cases hX), rfl, by simp [vtN], (fun X hX => by cases hX), (fun X hX => by cases hX), by simp⟩, (t0.below hA).other hgw, rfl, by simp [bsOf], W5e (own_below s0 hA) (by decide)⟩
    · have h1 := W5e hbl (by decide)
      refine ⟨h1.1, ?_⟩
      rcases h1.2 with h6 | ⟨x, cap, cur, hv, hx, hr⟩
      · exact .inl h6
      · exact .inr ⟨x, cap, cur, hv, Nat.le_trans b0.size hx, hr⟩
    · exact (heap_setCell_other _ ⟨g, 10, none⟩ (w.heap.size + 1) _ hmw).trans ((hA.block _ (Array.getElem?_eq_some_iff.1 m0).1).trans m0)
  obtain ⟨q0, q1, q2, q3, q4, q5, q6, q7, q8, q9, q10, q11, q12, q13⟩ := S0.arg.c14
  clear W5e hbl hz3
  go_wp2
  clear q0 q1 q2 q3 q4 q5 q6 q7 q8 q9 q10 q11 q12 q13 uq0 uq1 uq2 uq3 uq4 uq5 uq6 uq7 uq8 uq9 uq10 uq11 uq12 uq13 uq14 uq15 uq16 uf
  generalize (w3.alloc (.cells #[] 34)).setCell ⟨g, 10, none⟩ (.slice (some ⟨w3.heap.size, 0, none⟩) 0 0) = W5 at S0 ⊢
  have HKA : Hid (ablB (bsOf Xs) n 0 = true) := rfl
  clear uA hA t0 u0 m0 s0 b0
  go_loopw [29] (fun iv wr => ∃ (k : Nat) (V : Vt), k ≤ bn ∧ iv = .int .i64 k ∧ VtS w wr g V ⟨d, n, v, o, l, r, ⟨hp, hvs, hvt⟩, .slice ab bn cb, Xs, .slice av vl cv, vs, .slice an nl cn, ns, .slice ad dl cd, dn⟩ k ∧ Hid (ablB (bsOf Xs) n k = true)) (fun iv _ => bn - (intOf iv).toNat)
  case atStart => exact ⟨0, _, Nat.zero_le _, rfl, S0, HKA⟩
  case round =>
    clear S0 HKA
    obtain ⟨k, V, hk, rfl, S5, HJ⟩ := hrel
    by_cases hlt : k < bn
    · have hkl : k < Xs.length := by rw [← HBN.out]; exact hlt
      obtain ⟨b, off, rfl, hc⟩ := (hr2.below S5.a.bel).atN k hkl
      have hkc : k < cb := by omega
      obtain ⟨z, hz⟩ : ∃ z, (decide (k < 60) && mayB ((bsOf Xs).take k) n (nthBs Xs k).b) = z := ⟨_, rfl⟩
      have hzz : ∀ {W : World}, VtS w W g V ⟨d, n, v, o, l, r, ⟨hp, hvs, hvt⟩, .slice (some ⟨b, off, none⟩) bn cb, Xs, .slice av vl cv, vs, .slice an nl cn, ns, .slice ad dl cd, dn⟩ k → (decide (V.X.bs.length < 60) && mayB (bsOf V.X.bs) V.X.n (nthBs Xs k).b) = z := fun {W} h => by
        have e1 : V.X.n = n := by rw [h.eqX]
        have e3 : V.X.bs.length = k := by
          have := congrArg List.length h.eqb
          rw [bsOf_len, List.length_take, bsOf_len] at this
          simp only at this
          omega
        rw [e1, e3, h.eqb]
        exact hz
      have HAF : Hid (z = false → ∀ W, VtS w W g V ⟨d, n, v, o, l, r, ⟨hp, hvs, hvt⟩, .slice (some ⟨b, off, none⟩) bn cb, Xs, .slice av vl cv, vs, .slice an nl cn, ns, .slice ad dl cd, dn⟩ k → Calls Tryz.prog 147 #[.pointer (some ⟨g, 0, none⟩), .agg #[.int .i64 (nthBs Xs k).b.vw, .int .i64 (nthBs Xs k).b.pa, .int .i64 (nthBs Xs k).b.p.vw, .int .i64 (nthBs Xs k).b.p.nm, (nthBs Xs k).vs, (nthBs Xs k).vt, (nthBs Xs k).vm, .int .i64 (nthBs Xs k).b.sv]] W fun e w' => e = .returned (.bool false) ∧ Below W.heap.size W w') := fun hh W h => by
        obtain ⟨f1, f2, f3, f4⟩ := HFM.out k hkl
        exact addV_no (nthBs Xs k) h.a (f4.below h.a.bel) f1 f2 (HT.out.on h.a.bel) ((hzz h).trans hh)
      have HAT : Hid (z = true → ∀ W, VtS w W g V ⟨d, n, v, o, l, r, ⟨hp, hvs, hvt⟩, .slice (some ⟨b, off, none⟩) bn cb, Xs, .slice av vl cv, vs, .slice an nl cn, ns, .slice ad dl cd, dn⟩ k → Calls Tryz.prog 147 #[.pointer (some ⟨g, 0, none⟩), .agg #[.int .i64 (nthBs Xs k).b.vw, .int .i64 (nthBs Xs k).b.pa, .int .i64 (nthBs Xs k).b.p.vw, .int .i64 (nthBs Xs k).b.p.nm, (nthBs Xs k).vs, (nthBs Xs k).vt, (nthBs Xs k).vm, .int .i64 (nthBs Xs k).b.sv]] W fun e w' => ∃ V', e = .returned (.bool true) ∧ VtS w w' g V' ⟨d, n, v, o, l, r, ⟨hp, hvs, hvt⟩, .slice (some ⟨b, off, none⟩) bn cb, Xs, .slice av vl cv, vs, .slice an nl cn, ns, .slice ad dl cd, dn⟩ (k + 1)) := fun hh W h => by
        obtain ⟨f1, f2, f3, f4⟩ := HFM.out k hkl
        refine (addV_yes (nthBs Xs k) h.a (f4.below h.a.bel) f1 f2 (HT.out.on h.a.bel) f4 f3 ((hzz h).trans hh)).mono ?_
        rintro e w' ⟨v', Y, u', he', hY, ha, htt⟩
        exact ⟨_, he', h.plus hkl hY ha htt⟩
      have HST : Hid (ablB (bsOf Xs) n (k + 1) = z) := by
        unfold Hid
        rw [ablB, HJ.out, bsOf_getD Xs k hkl, hz]
        rfl
      have HSK := (HFM.out k hkl).2.2.2.slices
      clear hzz hz hkl
      generalize nthBs Xs k = t at hc HAF HAT HSK
      obtain ⟨a1, m1, k1, a2, m2, k2, a3, m3, k3, e1, e2, e3⟩ := HSK
      obtain ⟨tb, tvs, tvt, tvm⟩ := t
      simp only at e1 e2 e3
      subst e1 e2 e3
      unfold BlkAt at hc
      simp only at hc HAF HAT
      obtain ⟨c0, c1, c2, c3, c4, c5, c6, c7⟩ := id hc
      have S6 := S5.next (below1 wr (.cells #[.int .i64 tb.vw, .int .i64 tb.pa, .int .i64 tb.p.vw, .int .i64 tb.p.nm, .slice a1 m1 k1, .slice a2 m2 k2, .slice a3 m3 k3, .int .i64 tb.sv] 34))
      have tb6 := bx_new wr 34 #[.int .i64 tb.vw, .int .i64 tb.pa, .int .i64 tb.p.vw, .int .i64 tb.p.nm, .slice a1 m1 k1, .slice a2 m2 k2, .slice a3 m3 k3, .int .i64 tb.sv]
      obtain ⟨g0, g1, g2, g3, g4, g5, g6, g7⟩ := tb6.c8
      go_wp2_with fail
      clear c0 c1 c2 c3 c4 c5 c6 c7 g0 g1 g2 g3 g4 g5 g6 g7 hc
      generalize wr.alloc (.cells #[.int .i64 tb.vw, .int .i64 tb.pa, .int .i64 tb.p.vw, .int .i64 tb.p.nm, .slice a1 m1 k1, .slice a2 m2 k2, .slice a3 m3 k3, .int .i64 tb.sv] 34) = W2 at S6 ⊢
      clear S5 tb6
      cases z with
      | false =>
        have HRF : Hid (R = false) := by
          unfold Hid
          rw [HR.out, abl_no (k := k + 1) HST.out (by omega)]
          simp
        have bb := S6.a.bel
        refine (HAF.out rfl _ S6).mono ?_
        rintro e w9 ⟨rfl, hb9⟩
        have bA := bb.trans (hb9.mono bb.size)
        clear S6 hb9 bb
        go_wp2
        refine bodyPost_ret (v := .tuple #[.pointer (some ⟨g, 0, none⟩), .bool false]) (by simp [results, Tryz.results67, go_sem]) rfl (.inl ⟨HRF.out, ⟨_, rfl⟩, bA⟩)
      | true =>
        refine (HAT.out rfl _ S6).mono ?_
        rintro e w9 ⟨V', rfl, S9⟩
        clear S6 HAF HAT
        go_wp2
        go_roundw
        case rel => exact ⟨k + 1, V', by omega, by go_num, S9, HST⟩
        case measure => simp [intOf]; omega
    · have hke : k = bn := by omega
      rw [hke] at S5 HJ
      have HR2 : Hid (R = (pk && dd)) := by unfold Hid; rw [HR.out, HJ.out]; rfl
      clear HR HJ HFM HNB HHE hke hk
      obtain ⟨q0, q1, q2, q3, q4, q5, q6, q7, q8, q9, q10, q11, q12, q13⟩ := S5.arg.c14
      go_wp2_with fail
      have b5 := S5.a.bel
      refine (HPK.out S5).mono ?_
      rintro e w4 ⟨rfl, hb4⟩
      replace S5 := S5.next hb4
      replace b5 := b5.trans (hb4.mono b5.size)
      clear hb4 q0 q1 q2 q3 q4 q5 q6 q7 q8 q9 q10 q11 q12 q13
      cases pk with
      | false =>
        go_wp2
        refine bodyPost_ret (v := .tuple #[.pointer (some ⟨g, 0, none⟩), .bool false]) (by simp [results, Tryz.results67, go_sem]) rfl (.inl ⟨HR2.out, ⟨_, rfl⟩, b5⟩)
      | true =>
      go_wp2_with fail
      refine (HDD.out S5).mono ?_
      rintro e w5 ⟨rfl, hw5⟩
      subst hw5
      cases dd with
      | false =>
        go_wp2
        refine bodyPost_ret (v := .tuple #[.pointer (some ⟨g, 0, none⟩), .bool false]) (by simp [results, Tryz.results67, go_sem]) rfl (.inl ⟨HR2.out, ⟨_, rfl⟩, b5⟩)
      | true =>
      clear b5 HPK HDD
      have hA := S5.a.next (Below.refl _ _).drew
      have g0 : Bx w5.drew w.heap.size 31 #[.int .i64 d, .int .i64 n, .int .i64 v, .int .i64 o, .int .i64 l, .int .i64 r, .int .i64 hp.vw, .int .i64 hp.nm, hvs, hvt, .slice ab bn cb, .slice av vl cv, .slice an nl cn, .slice ad dl cd] := S5.arg.below (Below.refl _ _).drew
      have hst := own_below S5.st (Below.refl _ _).drew
      have HQX : Hid (V.X = { (⟨d, n, v, o, l, r, ⟨hp, hvs, hvt⟩, .slice ab bn cb, Xs, .slice av vl cv, vs, .slice an nl cn, ns, .slice ad dl cd, dn⟩ : RepX) with vb := V.X.vb, bs := V.X.bs }) := S5.eqX
      have HQB : Hid (bsOf V.X.bs = bsOf Xs) := by unfold Hid; rw [S5.eqb]; exact List.take_of_length_le (by rw [bsOf_len]; have := HBN.out; simp only; omega)
      have hgn : w.heap.size ∉ [g] := fun e => hgw (List.mem_singleton.1 e)
      have hgs : ∀ k, V.vst.ownBlock = some k → k ≠ g := fun k hk e => by
        subst e
        exact S5.a.box.row S5.st (by decide) k hk rfl
      obtain ⟨N, hNe⟩ : ∃ N, N = w5.drew.heap.size := ⟨_, rfl⟩
      have hgN : g < N := by rw [hNe]; exact S5.a.lt
      have hwN : w.heap.size ≤ N := by rw [hNe]; exact hA.bel.size
      have HOLD : Hid (∀ k ∈ bblks V.X.bs ++ oneB V.vnm, k < N) := fun k hk => by
        rw [hNe]
        rcases List.mem_append.1 hk with hk | hk
        · exact (bblks_bound hA.ib hk).2
        · exact (World.ownsRow.lt hA.nm k (mem_oneB.1 hk)).2
      have HVC2 : Hid (∀ W, RdVo W (.slice av vl cv) vs → Calls Tryz.prog 152 #[.slice av vl cv] W fun e w' => ∃ u, e = .returned u ∧ OwnVo w' W.heap.size u vs ∧ Below W.heap.size W w') := HVC.out (by first | rfl | trivial)
      have HNC2 : Hid (∀ W, RdNw W (.slice an nl cn) ns → Calls Tryz.prog 153 #[.slice an nl cn] W fun e w' => ∃ u, e = .returned u ∧ OwnNw w' W.heap.size u ns ∧ Below W.heap.size W w') := HNC.out (by first | rfl | trivial)
      clear S5 HVC HNC
      go_wp2_with fail
      refine wp_region_noPanic ?_
      refine wp_region_held_drew (S := fun w' => w'.cell? ⟨w.heap.size, 0, none⟩ = some (.int .i64 d) ∧ w'.cell? ⟨w.heap.size, 1, none⟩ = some (.int .i64 n) ∧ w'.cell? ⟨w.heap.size, 2, none⟩ = some (.int .i64 v) ∧ w'.cell? ⟨w.heap.size, 3, none⟩ = some (.int .i64 o) ∧ w'.cell? ⟨w.heap.size, 4, none⟩ = some (.int .i64 l) ∧ w'.cell? ⟨w.heap.size, 5, none⟩ = some (.int .i64 r) ∧ w'.cell? ⟨w.heap.size, 6, none⟩ = some (.int .i64 hp.vw) ∧ w'.cell? ⟨w.heap.size, 7, none⟩ = some (.int .i64 hp.nm) ∧ w'.cell? ⟨w.heap.size, 8, none⟩ = some (hvs) ∧ w'.cell? ⟨w.heap.size, 9, none⟩ = some (hvt) ∧ w'.cell? ⟨w.heap.size, 10, none⟩ = some (.slice ab bn cb) ∧ w'.cell? ⟨w.heap.size, 11, none⟩ = some (.slice av vl cv) ∧ w'.cell? ⟨w.heap.size, 12, none⟩ = some (.slice an nl cn) ∧ w'.cell? ⟨w.heap.size, 13, none⟩ = some (.slice ad dl cd)) (by kernel_rfl) g0.c14 (fun h0 => ?_)
      refine tkG 0 50 h0 ?_
      try simp only [Act.put, List.setIfInBounds_toArray, List.set_cons_zero, List.set_cons_succ]
      refine tkG 1 51 h0 ?_
      try simp only [Act.put, List.setIfInBounds_toArray, List.set_cons_zero, List.set_cons_succ]
      refine tkG 2 52 h0 ?_
      try simp only [Act.put, List.setIfInBounds_toArray, List.set_cons_zero, List.set_cons_succ]
      refine tkG 3 53 h0 ?_
      try simp only [Act.put, List.setIfInBounds_toArray, List.set_cons_zero, List.set_cons_succ]
      refine tkG 5 55 h0 ?_
      try simp only [Act.put, List.setIfInBounds_toArray, List.set_cons_zero, List.set_cons_succ]
      refine tkG 6 56 h0 ?_
      try simp only [Act.put, List.setIfInBounds_toArray, List.set_cons_zero, List.set_cons_succ]
      refine wpAnyH_ready (rs := [4]) (by kernel_rfl) (by simp) ?_
      refine AllReadyH.cons rfl (fun K hK => ?_) AllReadyH.nil
      go_simp
      refine (HHC.out _ (hr1.below hA.bel)).mono ?_
      rintro e w6 ⟨Y, rfl, hY, hOH, hb6⟩
      replace hA := hA.next hb6
      replace g0 := g0.below hb6
      replace hst := own_below hst hb6
      obtain ⟨e1, e3, e4, e6, f1, f2⟩ := hOH.slices
      obtain ⟨⟨yv, yn, ys, yt⟩, yvs, yvt⟩ := Y
      simp only at f1 f2 hY hOH
      obtain ⟨e2, he2⟩ : ∃ k, k = ys.length := ⟨_, rfl⟩
      obtain ⟨e5, he5⟩ : ∃ k, k = yt.length := ⟨_, rfl⟩
      rw [← he2] at f1
      rw [← he5] at f2
      clear he2 he5
      subst f1 f2
      replace hOH : OwnPr w6 N _ := hOH.mono (Nat.le_of_eq hNe)
      refine hK.out _ _ (g0.c14) (fun h1 => ?_)
      clear hK K
      try simp only
      clear h0
      refine wpAnyH_ready (rs := [7]) (by kernel_rfl) (by simp) ?_
      refine AllReadyH.cons rfl (fun K hK => ?_) AllReadyH.nil
      go_simp
      refine (HDC.out _ (hr6.below hA.bel)).mono ?_
      rintro e w7 ⟨u, rfl, hOD, hb7⟩
      replace hA := hA.next hb7
      replace g0 := g0.below hb7
      replace hst := own_below hst hb7
      have hHD : Hid (∀ k ∈ prB ⟨⟨yv, yn, ys, yt⟩, .slice e1 e2 e3, .slice e4 e5 e6⟩, k ∉ oneB u) := fun k hk e => by have := (hOH.bound hk).2; have := (World.ownsRow.lt hOD k (mem_oneB.1 e)).1; omega
      replace hOH := hOH.below hb7
      have hN6 : N ≤ w6.heap.size := by rw [hNe]; exact hb6.size
      replace hOD : OwnI w7 N u dn := hOD.mono hN6
      have hfu : ∃ a n c, u = .slice a n c := by obtain ⟨a, c, h⟩ := ownSlX hOD; exact ⟨a, _, c, h⟩
      obtain ⟨u1, u2, u3, hfu⟩ := hfu
      subst hfu
      refine hK.out _ _ (g0.c14) (fun h2 => ?_)
      clear hK K
      try simp only [Act.put, List.setIfInBounds_toArray, List.set_cons_zero, List.set_cons_succ]
      clear h1
      refine tkG 8 58 h2 ?_
      try simp only [Act.put, List.setIfInBounds_toArray, List.set_cons_zero, List.set_cons_succ]
      refine tkG 9 59 h2 ?_
      try simp only [Act.put, List.setIfInBounds_toArray, List.set_cons_zero, List.set_cons_succ]
      refine tkG 10 60 h2 ?_
      try simp only [Act.put, List.setIfInBounds_toArray, List.set_cons_zero, List.set_cons_succ]
      refine wpAnyH_ready (rs := [11]) (by kernel_rfl) (by simp) ?_
      refine AllReadyH.cons rfl (fun K hK => ?_) AllReadyH.nil
      obtain ⟨r0, r1, r2, r3, r4, r5, r6, r7, r8, r9, r10, r11, r12, r13, r14, r15, r16⟩ := hA.box.c17
      have f6 := hA.box.fz 6
      have f7 := hA.box.fz 7
      have f8 := hA.box.fz 8
      have f9 := hA.box.fz 9
      go_simp
      clear r0 r1 r2 r3 r4 r5 r6 r7 r8 r9 r10 r11 r12 r13 r14 r15 r16 f6 f7 f8 f9
      have hTa : Touch [g] w7 (World.setCell (World.setCell (World.setCell (World.setCell w7 ⟨g, 6, none⟩ (.int .i64 yv)) ⟨g, 7, none⟩ (.int .i64 yn)) ⟨g, 8, none⟩ (.slice e1 e2 e3)) ⟨g, 9, none⟩ (.slice e4 e5 e6)) := ((((Touch.set (List.mem_singleton.2 rfl)).trans (Touch.set (List.mem_singleton.2 rfl))).trans (Touch.set (List.mem_singleton.2 rfl))).trans (Touch.set (List.mem_singleton.2 rfl)))
      have xa0 : Bx _ g 123 #[.int .i64 V.X.idn, .int .i64 V.X.n, .int .i64 V.X.vw, .int .i64 V.X.vo, .int .i64 V.X.lo, .int .i64 V.X.pr, .int .i64 yv, .int .i64 V.X.hi.p.nm, V.X.hi.vs, V.X.hi.vt, V.X.vb, V.X.vv, V.X.vn, V.X.vd, V.vnm, .map (some V.mb), V.vst] := hA.box.set 6 (.int .i64 yv)
      have xa1 : Bx _ g 123 #[.int .i64 V.X.idn, .int .i64 V.X.n, .int .i64 V.X.vw, .int .i64 V.X.vo, .int .i64 V.X.lo, .int .i64 V.X.pr, .int .i64 yv, .int .i64 yn, V.X.hi.vs, V.X.hi.vt, V.X.vb, V.X.vv, V.X.vn, V.X.vd, V.vnm, .map (some V.mb), V.vst] := xa0.set 7 (.int .i64 yn)
      have xa2 : Bx _ g 123 #[.int .i64 V.X.idn, .int .i64 V.X.n, .int .i64 V.X.vw, .int .i64 V.X.vo, .int .i64 V.X.lo, .int .i64 V.X.pr, .int .i64 yv, .int .i64 yn, .slice e1 e2 e3, V.X.hi.vt, V.X.vb, V.X.vv, V.X.vn, V.X.vd, V.vnm, .map (some V.mb), V.vst] := xa1.set 8 (.slice e1 e2 e3)
      have xa3 : Bx _ g 123 #[.int .i64 V.X.idn, .int .i64 V.X.n, .int .i64 V.X.vw, .int .i64 V.X.vo, .int .i64 V.X.lo, .int .i64 V.X.pr, .int .i64 yv, .int .i64 yn, .slice e1 e2 e3, .slice e4 e5 e6, V.X.vb, V.X.vv, V.X.vn, V.X.vd, V.vnm, .map (some V.mb), V.vst] := xa2.set 9 (.slice e4 e5 e6)
      have hAa := hA.chg (X' := { V.X with hi := ⟨⟨yv, yn, ys, yt⟩, .slice e1 e2 e3, .slice e4 e5 e6⟩ }) hTa rfl rfl xa3
      replace g0 := g0.of_block (hTa.block _ g0.lt hgn)
      replace hOH := hOH.touch hTa (fun k hk e => by have := (hOH.bound hk).1; have := List.mem_singleton.1 e; omega)
      replace hOD := hTa.row hOD (fun k hk e => by have := (World.ownsRow.lt hOD k hk).1; have := List.mem_singleton.1 e; omega)
      replace hst := hTa.row hst (fun k hk e => hgs k hk (List.mem_singleton.1 e))
      clear xa0 xa1 xa2
      refine hK.out _ _ (g0.c14) (fun h3 => ?_)
      clear hK K
      try simp only [Act.put, List.setIfInBounds_toArray, List.set_cons_zero, List.set_cons_succ]
      clear h2
      refine tkG 12 61 h3 ?_
      try simp only [Act.put, List.setIfInBounds_toArray, List.set_cons_zero, List.set_cons_succ]
      refine tkG 13 62 h3 ?_
      try simp only [Act.put, List.setIfInBounds_toArray, List.set_cons_zero, List.set_cons_succ]
      refine tkG 14 63 h3 ?_
      try simp only [Act.put, List.setIfInBounds_toArray, List.set_cons_zero, List.set_cons_succ]
      refine wpAnyH_ready (rs := [15]) (by kernel_rfl) (by simp) ?_
      refine AllReadyH.cons rfl (fun K hK => ?_) AllReadyH.nil
      obtain ⟨r0, r1, r2, r3, r4, r5, r6, r7, r8, r9, r10, r11, r12, r13, r14, r15, r16⟩ := hAa.box.c17
      have f13 := hAa.box.fz 13
      go_simp
      clear r0 r1 r2 r3 r4 r5 r6 r7 r8 r9 r10 r11 r12 r13 r14 r15 r16 f13
      have hTb : Touch [g] (World.setCell (World.setCell (World.setCell (World.setCell w7 ⟨g, 6, none⟩ (.int .i64 yv)) ⟨g, 7, none⟩ (.int .i64 yn)) ⟨g, 8, none⟩ (.slice e1 e2 e3)) ⟨g, 9, none⟩ (.slice e4 e5 e6)) (World.setCell (World.setCell (World.setCell (World.setCell (World.setCell w7 ⟨g, 6, none⟩ (.int .i64 yv)) ⟨g, 7, none⟩ (.int .i64 yn)) ⟨g, 8, none⟩ (.slice e1 e2 e3)) ⟨g, 9, none⟩ (.slice e4 e5 e6)) ⟨g, 13, none⟩ (.slice u1 u2 u3)) := (Touch.set (List.mem_singleton.2 rfl))
      have xb0 : Bx _ g 123 #[.int .i64 V.X.idn, .int .i64 V.X.n, .int .i64 V.X.vw, .int .i64 V.X.vo, .int .i64 V.X.lo, .int .i64 V.X.pr, .int .i64 yv, .int .i64 yn, .slice e1 e2 e3, .slice e4 e5 e6, V.X.vb, V.X.vv, V.X.vn, .slice u1 u2 u3, V.vnm, .map (some V.mb), V.vst] := hAa.box.set 13 (.slice u1 u2 u3)
      have hAb := hAa.chg (X' := { V.X with hi := ⟨⟨yv, yn, ys, yt⟩, .slice e1 e2 e3, .slice e4 e5 e6⟩, vd := .slice u1 u2 u3 }) hTb rfl rfl xb0
      replace g0 := g0.of_block (hTb.block _ g0.lt hgn)
      replace hOH := hOH.touch hTb (fun k hk e => by have := (hOH.bound hk).1; have := List.mem_singleton.1 e; omega)
      replace hOD := hTb.row hOD (fun k hk e => by have := (World.ownsRow.lt hOD k hk).1; have := List.mem_singleton.1 e; omega)
      replace hst := hTb.row hst (fun k hk e => hgs k hk (List.mem_singleton.1 e))
      refine hK.out _ _ (g0.c14) (fun h4 => ?_)
      clear hK K
      try simp only [Act.put, List.setIfInBounds_toArray, List.set_cons_zero, List.set_cons_succ]
      clear h3
      refine wpAnyH_done (by kernel_rfl) ?_ _
      refine NoPanic.normal ?_
      have hN8' : N ≤ ((World.setCell (World.setCell (World.setCell (World.setCell (World.setCell w7 ⟨g, 6, none⟩ (.int .i64 yv)) ⟨g, 7, none⟩ (.int .i64 yn)) ⟨g, 8, none⟩ (.slice e1 e2 e3)) ⟨g, 9, none⟩ (.slice e4 e5 e6)) ⟨g, 13, none⟩ (.slice u1 u2 u3))).heap.size := by rw [hNe]; exact Nat.le_trans (Nat.le_trans hb6.size hb7.size) (hTa.trans hTb).size
      clear hTa hTb hb6 hb7 hN6 hA hAa
      go_wp2_with fail
      generalize (World.setCell (World.setCell (World.setCell (World.setCell (World.setCell w7 ⟨g, 6, none⟩ (.int .i64 yv)) ⟨g, 7, none⟩ (.int .i64 yn)) ⟨g, 8, none⟩ (.slice e1 e2 e3)) ⟨g, 9, none⟩ (.slice e4 e5 e6)) ⟨g, 13, none⟩ (.slice u1 u2 u3)) = W8 at hAb g0 hOH hOD hst hN8' ⊢
      replace hAb := hAb.next (Below.refl _ _).drew
      replace g0 : Bx W8.drew w.heap.size 31 #[.int .i64 d, .int .i64 n, .int .i64 v, .int .i64 o, .int .i64 l, .int .i64 r, .int .i64 hp.vw, .int .i64 hp.nm, hvs, hvt, .slice ab bn cb, .slice av vl cv, .slice an nl cn, .slice ad dl cd] := g0.below (Below.refl _ _).drew
      replace hst := own_below hst (Below.refl _ _).drew
      replace hOH := hOH.below (Below.refl _ _).drew
      replace hOD := own_below hOD (Below.refl _ _).drew
      refine wp_region_noPanic ?_
      refine wp_region_held_drew (S := fun w' => w'.cell? ⟨w.heap.size, 0, none⟩ = some (.int .i64 d) ∧ w'.cell? ⟨w.heap.size, 1, none⟩ = some (.int .i64 n) ∧ w'.cell? ⟨w.heap.size, 2, none⟩ = some (.int .i64 v) ∧ w'.cell? ⟨w.heap.size, 3, none⟩ = some (.int .i64 o) ∧ w'.cell? ⟨w.heap.size, 4, none⟩ = some (.int .i64 l) ∧ w'.cell? ⟨w.heap.size, 5, none⟩ = some (.int .i64 r) ∧ w'.cell? ⟨w.heap.size, 6, none⟩ = some (.int .i64 hp.vw) ∧ w'.cell? ⟨w.heap.size, 7, none⟩ = some (.int .i64 hp.nm) ∧ w'.cell? ⟨w.heap.size, 8, none⟩ = some (hvs) ∧ w'.cell? ⟨w.heap.size, 9, none⟩ = some (hvt) ∧ w'.cell? ⟨w.heap.size, 10, none⟩ = some (.slice ab bn cb) ∧ w'.cell? ⟨w.heap.size, 11, none⟩ = some (.slice av vl cv) ∧ w'.cell? ⟨w.heap.size, 12, none⟩ = some (.slice an nl cn) ∧ w'.cell? ⟨w.heap.size, 13, none⟩ = some (.slice ad dl cd)) (by kernel_rfl) g0.c14 (fun h0 => ?_)
      refine tkG 0 64 h0 ?_
      try simp only [Act.put, List.setIfInBounds_toArray, List.set_cons_zero, List.set_cons_succ]
      refine tkG 1 65 h0 ?_
      try simp only [Act.put, List.setIfInBounds_toArray, List.set_cons_zero, List.set_cons_succ]
      refine tkG 2 66 h0 ?_
      try simp only [Act.put, List.setIfInBounds_toArray, List.set_cons_zero, List.set_cons_succ]
      refine tkG 3 67 h0 ?_
      try simp only [Act.put, List.setIfInBounds_toArray, List.set_cons_zero, List.set_cons_succ]
      refine tkG 5 69 h0 ?_
      try simp only [Act.put, List.setIfInBounds_toArray, List.set_cons_zero, List.set_cons_succ]
      refine tkG 6 70 h0 ?_
      try simp only [Act.put, List.setIfInBounds_toArray, List.set_cons_zero, List.set_cons_succ]
      refine wpAnyH_ready (rs := [4]) (by kernel_rfl) (by simp) ?_
      refine AllReadyH.cons rfl (fun K hK => ?_) AllReadyH.nil
      go_simp
      refine (HVC2.out _ (HX4.out.below hAb.bel)).mono ?_
      rintro e w8 ⟨u, rfl, hOV, hb8⟩
      have hN8 : N ≤ W8.drew.heap.size := hN8'
      replace hAb := hAb.next hb8
      replace g0 := g0.below hb8
      replace hst := own_below hst hb8
      replace hOH := hOH.below hb8
      replace hOD := own_below hOD hb8
      replace hOV : OwnVo w8 N u vs := hOV.mono hN8
      have hN9 := Nat.le_trans hN8 hb8.size
      have hfu : ∃ a n c, u = .slice a n c := by obtain ⟨a, c, h⟩ := ownSlX hOV; exact ⟨a, _, c, h⟩
      obtain ⟨y1, y2, y3, hfu⟩ := hfu
      subst hfu
      refine hK.out _ _ (g0.c14) (fun h1 => ?_)
      clear hK K
      try simp only [Act.put, List.setIfInBounds_toArray, List.set_cons_zero, List.set_cons_succ]
      clear h0
      refine wpAnyH_ready (rs := [7]) (by kernel_rfl) (by simp) ?_
      refine AllReadyH.cons rfl (fun K hK => ?_) AllReadyH.nil
      go_simp
      refine (HNC2.out _ (HX5.out.below hAb.bel)).mono ?_
      rintro e w9 ⟨u, rfl, hON, hb9⟩
      replace hAb := hAb.next hb9
      replace g0 := g0.below hb9
      replace hst := own_below hst hb9
      replace hOH := hOH.below hb9
      replace hOD := own_below hOD hb9
      replace hOV := hOV.below hb9
      replace hON : OwnNw w9 N u ns := hON.mono hN9
      have hfu : ∃ a n c, u = .slice a n c := by obtain ⟨a, c, h⟩ := ownSlX hON; exact ⟨a, _, c, h⟩
      obtain ⟨z1, z2, z3, hfu⟩ := hfu
      subst hfu
      refine hK.out _ _ (g0.c14) (fun h2 => ?_)
      clear hK K
      try simp only [Act.put, List.setIfInBounds_toArray, List.set_cons_zero, List.set_cons_succ]
      clear h1
      refine tkG 8 72 h2 ?_
      try simp only [Act.put, List.setIfInBounds_toArray, List.set_cons_zero, List.set_cons_succ]
      refine tkG 9 73 h2 ?_
      try simp only [Act.put, List.setIfInBounds_toArray, List.set_cons_zero, List.set_cons_succ]
      refine tkG 10 74 h2 ?_
      try simp only [Act.put, List.setIfInBounds_toArray, List.set_cons_zero, List.set_cons_succ]
      refine wpAnyH_ready (rs := [11]) (by kernel_rfl) (by simp) ?_
      refine AllReadyH.cons rfl (fun K hK => ?_) AllReadyH.nil
      obtain ⟨r0, r1, r2, r3, r4, r5, r6, r7, r8, r9, r10, r11, r12, r13, r14, r15, r16⟩ := hAb.box.c17
      have f11 := hAb.box.fz 11
      go_simp
      clear r0 r1 r2 r3 r4 r5 r6 r7 r8 r9 r10 r11 r12 r13 r14 r15 r16 f11
      have hTc : Touch [g] w9 (World.setCell w9 ⟨g, 11, none⟩ (.slice y1 y2 y3)) := (Touch.set (List.mem_singleton.2 rfl))
      have xc0 : Bx _ g 123 #[.int .i64 V.X.idn, .int .i64 V.X.n, .int .i64 V.X.vw, .int .i64 V.X.vo, .int .i64 V.X.lo, .int .i64 V.X.pr, .int .i64 yv, .int .i64 yn, .slice e1 e2 e3, .slice e4 e5 e6, V.X.vb, .slice y1 y2 y3, V.X.vn, .slice u1 u2 u3, V.vnm, .map (some V.mb), V.vst] := hAb.box.set 11 (.slice y1 y2 y3)
      have hAc := hAb.chg (X' := { V.X with hi := ⟨⟨yv, yn, ys, yt⟩, .slice e1 e2 e3, .slice e4 e5 e6⟩, vd := .slice u1 u2 u3, vv := .slice y1 y2 y3 }) hTc rfl rfl xc0
      replace g0 := g0.of_block (hTc.block _ g0.lt hgn)
      replace hOH := hOH.touch hTc (fun k hk e => by have := (hOH.bound hk).1; have := List.mem_singleton.1 e; omega)
      replace hOD := hTc.row hOD (fun k hk e => by have := (World.ownsRow.lt hOD k hk).1; have := List.mem_singleton.1 e; omega)
      replace hst := hTc.row hst (fun k hk e => hgs k hk (List.mem_singleton.1 e))
      replace hOV := hTc.row hOV (fun k hk e => by have := (World.ownsRow.lt hOV k hk).1; have := List.mem_singleton.1 e; omega)
      replace hON := hTc.row hON (fun k hk e => by have := (World.ownsRow.lt hON k hk).1; have := List.mem_singleton.1 e; omega)
      refine hK.out _ _ (g0.c14) (fun h3 => ?_)
      clear hK K
      try simp only [Act.put, List.setIfInBounds_toArray, List.set_cons_zero, List.set_cons_succ]
      clear h2
      refine tkG 12 75 h3 ?_
      try simp only [Act.put, List.setIfInBounds_toArray, List.set_cons_zero, List.set_cons_succ]
      refine tkG 13 76 h3 ?_
      try simp only [Act.put, List.setIfInBounds_toArray, List.set_cons_zero, List.set_cons_succ]
      refine tkG 14 77 h3 ?_
      try simp only [Act.put, List.setIfInBounds_toArray, List.set_cons_zero, List.set_cons_succ]
      refine wpAnyH_ready (rs := [15]) (by kernel_rfl) (by simp) ?_
      refine AllReadyH.cons rfl (fun K hK => ?_) AllReadyH.nil
      obtain ⟨r0, r1, r2, r3, r4, r5, r6, r7, r8, r9, r10, r11, r12, r13, r14, r15, r16⟩ := hAc.box.c17
      have f12 := hAc.box.fz 12
      go_simp
      clear r0 r1 r2 r3 r4 r5 r6 r7 r8 r9 r10 r11 r12 r13 r14 r15 r16 f12
      have hTd : Touch [g] (World.setCell w9 ⟨g, 11, none⟩ (.slice y1 y2 y3)) (World.setCell (World.setCell w9 ⟨g, 11, none⟩ (.slice y1 y2 y3)) ⟨g, 12, none⟩ (.slice z1 z2 z3)) := (Touch.set (List.mem_singleton.2 rfl))
      have xd0 : Bx _ g 123 #[.int .i64 V.X.idn, .int .i64 V.X.n, .int .i64 V.X.vw, .int .i64 V.X.vo, .int .i64 V.X.lo, .int .i64 V.X.pr, .int .i64 yv, .int .i64 yn, .slice e1 e2 e3, .slice e4 e5 e6, V.X.vb, .slice y1 y2 y3, .slice z1 z2 z3, .slice u1 u2 u3, V.vnm, .map (some V.mb), V.vst] := hAc.box.set 12 (.slice z1 z2 z3)
      have hAd := hAc.chg (X' := { V.X with hi := ⟨⟨yv, yn, ys, yt⟩, .slice e1 e2 e3, .slice e4 e5 e6⟩, vd := .slice u1 u2 u3, vv := .slice y1 y2 y3, vn := .slice z1 z2 z3 }) hTd rfl rfl xd0
      replace g0 := g0.of_block (hTd.block _ g0.lt hgn)
      replace hOH := hOH.touch hTd (fun k hk e => by have := (hOH.bound hk).1; have := List.mem_singleton.1 e; omega)
      replace hOD := hTd.row hOD (fun k hk e => by have := (World.ownsRow.lt hOD k hk).1; have := List.mem_singleton.1 e; omega)
      replace hst := hTd.row hst (fun k hk e => hgs k hk (List.mem_singleton.1 e))
      replace hOV := hTd.row hOV (fun k hk e => by have := (World.ownsRow.lt hOV k hk).1; have := List.mem_singleton.1 e; omega)
      replace hON := hTd.row hON (fun k hk e => by have := (World.ownsRow.lt hON k hk).1; have := List.mem_singleton.1 e; omega)
      refine hK.out _ _ (g0.c14) (fun h4 => ?_)
      clear hK K
      try simp only [Act.put, List.setIfInBounds_toArray, List.set_cons_zero, List.set_cons_succ]
      clear h3
      refine wpAnyH_done (by kernel_rfl) ?_ _
      refine NoPanic.normal ?_
      have eD : V.X.dn = dn := by rw [HQX.out]
      have eV : V.X.vs = vs := by rw [HQX.out]
      have eN : V.X.ns = ns := by rw [HQX.out]
      rw [← eD] at hOD
      rw [← eV] at hOV
      rw [← eN] at hON
      have HEND : Hid (VoP w ⟨d, n, v, o, l, r, ⟨hp, hvs, hvt⟩, .slice ab bn cb, Xs, .slice av vl cv, vs, .slice an nl cn, ns, .slice ad dl cd, dn⟩ R (.returned (.tuple #[.pointer (some ⟨g, 0, none⟩), .bool true])) ((World.setCell (World.setCell w9 ⟨g, 11, none⟩ (.slice y1 y2 y3)) ⟨g, 12, none⟩ (.slice z1 z2 z3)))) := by
        refine .inr ⟨HR2.out, g, _, rfl, ⟨hAd, ⟨hOH.mono hwN, hAd.bl, hAd.ib, World.ownsRow.mono' hOV hwN, World.ownsRow.mono' hON hwN, World.ownsRow.mono' hOD hwN, nod_all hOH hAd.bl hAd.ib (World.ownsRow.mono' hOV hwN) (World.ownsRow.mono' hON hwN) hOD (fun k hk => HOLD.out k (List.mem_append_left _ hk)) (List.nodup_append.1 hAd.nod).1 hHD.out⟩, ?_, hst⟩, ?_⟩
        · rw [List.nodup_append]
          refine ⟨nod_all hOH hAd.bl hAd.ib (World.ownsRow.mono' hOV hwN) (World.ownsRow.mono' hON hwN) hOD (fun k hk => HOLD.out k (List.mem_append_left _ hk)) (List.nodup_append.1 hAd.nod).1 hHD.out, oneBN _, fun a ha b hb e => ?_⟩
          subst e
          have hlt := HOLD.out a (List.mem_append_right _ hb)
          rcases List.mem_append.1 ha with ha | ha
          · have := (hOH.bound ha).1; omega
          rcases List.mem_append.1 ha with ha | ha
          · rcases List.mem_append.1 ha with ha | ha
            · exact rows_apart hAd.bl hAd.nm (by decide) a (mem_oneB.1 ha) (mem_oneB.1 hb)
            · exact (List.nodup_append.1 hAd.nod).2.2 a ha a hb rfl
          rcases List.mem_append.1 ha with ha | ha
          · have := (World.ownsRow.lt hOV a (mem_oneB.1 ha)).1; omega
          rcases List.mem_append.1 ha with ha | ha
          · have := (World.ownsRow.lt hON a (mem_oneB.1 ha)).1; omega
          · have := (World.ownsRow.lt hOD a (mem_oneB.1 ha)).1; omega
        · have e1 := HQX.out
          have e2 := HQB.out
          unfold bsOf at e2
          simp only [RepX.rep]
          rw [e2, hY]
          rw [e1]
      clear hTc hTd hAb hAc hAd g0 hOH hOD hOV hON hst eD eV eN
      go_wp2
      exact bodyPost_ret (v := .tuple #[.pointer (some ⟨g, 0, none⟩), .bool true]) (by simp [results, Tryz.results67, go_sem]) rfl HEND.out
end Go.Proofs.YtilhaokiohbeeaaGreatDoor
