/- A voter in memory: its box, its own Blocks, their names, the map that finds them. The contracts of the library's look for a vote in a list, of its comparison of numbers, and of the program's votes of a proof. What Gathered leaves; plain facts on votes. -/
import Derived.Test.YtilhaokiohbeeaaGreatDoorG32
import Derived.Test.YtilhaokiohbeeaaGreatDoorRepSpk
import Derived.Test.YtilhaokiohbeeaaGreatDoorG25
import Derived.Deep.RegionHeld3
import Derived.Test.YtilhaokiohbeeaaGreatDoorPrfVot
-- UNF Gen
namespace Go.Proofs.YtilhaokiohbeeaaGreatDoor
open Go.RowKit
theorem Bx.c17 {w : World} {b t : Nat} {u0 u1 u2 u3 u4 u5 u6 u7 u8 u9 u10 u11 u12 u13 u14 u15 u16 : Value} (h : Bx w b t #[u0, u1, u2, u3, u4, u5, u6, u7, u8, u9, u10, u11, u12, u13, u14, u15, u16]) : w.cell? ⟨b, 0, none⟩ = some u0 ∧ w.cell? ⟨b, 1, none⟩ = some u1 ∧ w.cell? ⟨b, 2, none⟩ = some u2 ∧ w.cell? ⟨b, 3, none⟩ = some u3 ∧ w.cell? ⟨b, 4, none⟩ = some u4 ∧ w.cell? ⟨b, 5, none⟩ = some u5 ∧ w.cell? ⟨b, 6, none⟩ = some u6 ∧ w.cell? ⟨b, 7, none⟩ = some u7 ∧ w.cell? ⟨b, 8, none⟩ = some u8 ∧ w.cell? ⟨b, 9, none⟩ = some u9 ∧ w.cell? ⟨b, 10, none⟩ = some u10 ∧ w.cell? ⟨b, 11, none⟩ = some u11 ∧ w.cell? ⟨b, 12, none⟩ = some u12 ∧ w.cell? ⟨b, 13, none⟩ = some u13 ∧ w.cell? ⟨b, 14, none⟩ = some u14 ∧ w.cell? ⟨b, 15, none⟩ = some u15 ∧ w.cell? ⟨b, 16, none⟩ = some u16 := ⟨h.cell 0 rfl, h.cell 1 rfl, h.cell 2 rfl, h.cell 3 rfl, h.cell 4 rfl, h.cell 5 rfl, h.cell 6 rfl, h.cell 7 rfl, h.cell 8 rfl, h.cell 9 rfl, h.cell 10 rfl, h.cell 11 rfl, h.cell 12 rfl, h.cell 13 rfl, h.cell 14 rfl, h.cell 15 rfl, h.cell 16 rfl⟩
/-- A voter: its Replica, the names' row, the map's block and what it holds, what it sends. -/
structure Vt where
  X : RepX
  vnm : Value
  mb : Nat
  Ms : List BlX
  vst : Value
def vtN (V : Vt) : List Int := V.X.bs.map (fun x => namN x.b)
structure VtA (w0 W : World) (g : Nat) (V : Vt) : Prop where
  bel : Below w0.heap.size w0 W
  ge : w0.heap.size ≤ g
  mge : w0.heap.size ≤ V.mb
  box : Bx W g 123 #[.int .i64 V.X.idn, .int .i64 V.X.n, .int .i64 V.X.vw, .int .i64 V.X.vo, .int .i64 V.X.lo, .int .i64 V.X.pr, .int .i64 V.X.hi.p.vw, .int .i64 V.X.hi.p.nm, V.X.hi.vs, V.X.hi.vt, V.X.vb, V.X.vv, V.X.vn, V.X.vd, V.vnm, .map (some V.mb), V.vst]
  bl : OwnBs W w0.heap.size V.X.vb V.X.bs
  ib : InOB W w0.heap.size V.X.bs
  nm : OwnI W w0.heap.size V.vnm (vtN V)
  nod : (bblks V.X.bs ++ oneB V.vnm).Nodup
  mp : ∃ es c, W.heap[V.mb]? = some (.map es c) ∧ MapR es V.Ms
  im : InBs w0 V.Ms
  eqb : V.Ms.map (·.b) = V.X.bs.map (·.b)
  uni : (vtN V).Nodup
  fit : ∀ X ∈ V.X.bs, FitBl X.b
  sm : SmB V.X.bs
  len : V.X.bs.length ≤ 60
theorem VtA.next {w0 W W' : World} {g : Nat} {V : Vt} (h : VtA w0 W g V) (hb : Below W.heap.size W W') : VtA w0 W' g V := by
  obtain ⟨es, c, hm, hr⟩ := h.mp
  exact ⟨h.bel.trans (hb.mono h.bel.size), h.ge, h.mge, h.box.below hb, h.bl.below hb, h.ib.below hb, h.nm.below hb, h.nod, ⟨es, c, (hb.block _ (Array.getElem?_eq_some_iff.1 hm).1).trans hm, hr⟩, h.im, h.eqb, h.uni, h.fit, h.sm, h.len⟩
theorem VtA.fitM {w0 W : World} {g : Nat} {V : Vt} (h : VtA w0 W g V) : FitMs V.Ms := fun M hM => by
  have : M.b ∈ V.X.bs.map (·.b) := by rw [← h.eqb]; exact List.mem_map.2 ⟨M, hM, rfl⟩
  obtain ⟨X, hX, hb⟩ := List.mem_map.1 this
  rw [← hb]
  exact (h.fit X hX).vw
theorem VtA.uniM {w0 W : World} {g : Nat} {V : Vt} (h : VtA w0 W g V) : ∀ M ∈ V.Ms, ∀ M' ∈ V.Ms, namN M.b = namN M'.b → M = M' := by
  have hn : (V.Ms.map (fun x => namN x.b)).Nodup := by
    have e1 : V.Ms.map (fun x => namN x.b) = (V.Ms.map (·.b)).map namN := by simp
    have e2 : vtN V = (V.X.bs.map (·.b)).map namN := by simp [vtN]
    rw [e1, h.eqb, ← e2]
    exact h.uni
  intro M hM M' hM' e
  obtain ⟨i, hi, rfl⟩ := List.getElem_of_mem hM
  obtain ⟨j, hj, rfl⟩ := List.getElem_of_mem hM'
  have hp := List.pairwise_iff_getElem.1 hn
  rcases Nat.lt_trichotomy i j with hij | hij | hij
  · exact absurd (by rw [List.getElem_map, List.getElem_map]; exact e) (hp i j (by simpa using hi) (by simpa using hj) hij)
  · subst hij; rfl
  · exact absurd (by rw [List.getElem_map, List.getElem_map]; exact e.symm) (hp j i (by simpa using hj) (by simpa using hi) hij)
theorem fnd_any (bs : List Blk) (nm vw : Int) : (fndB bs nm vw).isSome = bs.any (isB nm vw) := by
  unfold fndB
  exact List.findIdx?_isSome
theorem VtA.fnd {w0 W : World} {g : Nat} {V : Vt} (h : VtA w0 W g V) (nm vw : Int) : (fndB (bsOf V.X.bs) nm vw).isSome = V.Ms.any (fun M => isB nm vw M.b) := by
  have e : bsOf V.X.bs = V.Ms.map (·.b) := h.eqb.symm
  rw [fnd_any, e, List.any_map]
  rfl
theorem VtA.lt {w0 W : World} {g : Nat} {V : Vt} (h : VtA w0 W g V) : g < W.heap.size := h.box.lt
theorem RdPr.sls {w : World} {X : PrX} (h : RdPr w X) : ∃ a1 k1 a2 k2, X.vs = .slice a1 X.p.sv.length k1 ∧ X.vt = .slice a2 X.p.tg.length k2 ∧ X.p.sv.length ≤ k1 ∧ k1 ≤ maxLen ∧ X.p.tg.length ≤ k2 ∧ k2 ≤ maxLen := by
  obtain ⟨a1, k1, h1, l1, m1, -⟩ := h.sv
  obtain ⟨a2, k2, h2, l2, m2, -⟩ := h.tg
  exact ⟨a1, k1, a2, k2, h1, h2, l1, m1, l2, m2⟩
theorem knowsV_any {w0 W : World} {g : Nat} {V : Vt} (P : PrX) (h : VtA w0 W g V) (hp : RdPr W P) (hf : FitPr P.p) :
    Calls Tryz.prog 195 #[.pointer (some ⟨g, 0, none⟩), .agg #[.int .i64 P.p.vw, .int .i64 P.p.nm, P.vs, P.vt]] W fun e w' => e = .returned (.bool (knoB (bsOf V.X.bs) P.p)) ∧ Below W.heap.size W w' := by
  obtain ⟨a1, k1, a2, k2, e1, e2, -, -, -, -⟩ := hp.sls
  obtain ⟨es, c, hm, hr⟩ := h.mp
  have hc : W.cell? ⟨g, 15, none⟩ = some (.map (some V.mb)) := h.box.c17.2.2.2.2.2.2.2.2.2.2.2.2.2.2.2.1
  have hkeep : ∀ W', Below W.heap.size W W' → W'.heap[V.mb]? = some (.map es c) := fun W' hb => (hb.block _ (Array.getElem?_eq_some_iff.1 hm).1).trans hm
  rw [e1, e2]
  rcases look_any hr h.fitM h.uniM P.p.vw P.p.nm hf.vw hf.nm with ⟨M, hM, hb, hL⟩ | ⟨hno, hL⟩
  · obtain ⟨x1, y1, z1, x2, y2, z2, x3, y3, z3, f1, f2, f3⟩ := (h.im M hM).slices
    have hk := knows_at g V.mb P.p.vw P.p.nm a1 a2 P.p.sv.length k1 P.p.tg.length k2 M.b.vw M.b.pa M.b.p.vw M.b.p.nm M.b.sv x1 x2 x3 y1 z1 y2 z2 y3 z3 true (frsB P.p) W h.lt hc (fun W' hbw => by have := hL W' V.mb c (hkeep W' hbw); unfold BsA at this; rw [f1, f2, f3] at this; exact this) rfl
    refine hk.mono fun e w' ⟨he, hbw⟩ => ⟨?_, hbw⟩
    have : (fndB (bsOf V.X.bs) P.p.nm P.p.vw).isSome = true := by
      rw [h.fnd, List.any_eq_true]
      exact ⟨M, hM, hb⟩
    rw [he]; unfold knoB; rw [this]; simp
  · have hk := knows_at g V.mb P.p.vw P.p.nm a1 a2 P.p.sv.length k1 P.p.tg.length k2 0 0 0 0 0 none none none 0 0 0 0 0 0 false (frsB P.p) W h.lt hc (fun W' hbw => hL W' V.mb c (hkeep W' hbw)) rfl
    refine hk.mono fun e w' ⟨he, hbw⟩ => ⟨?_, hbw⟩
    have : (fndB (bsOf V.X.bs) P.p.nm P.p.vw).isSome = false := by
      rw [h.fnd, List.any_eq_false]
      intro M hM
      simp [hno M hM]
    rw [he]; unfold knoB; rw [this]; simp
end Go.Proofs.YtilhaokiohbeeaaGreatDoor
-- UNF Gen
namespace Go.Proofs.YtilhaokiohbeeaaGreatDoor
open Go.RowKit
set_option maxHeartbeats 4000000 in
set_option maxRecDepth 100000 in
theorem voIndex_any (v : Value) (es : List Vot) (x : Vot) (w : World) (hr : RdVo w v es) :
    Calls Tryz.prog 246 #[v, .agg #[.int .i64 x.vw, .int .i64 x.nm, .int .i64 x.sv, .int .i64 x.tg]] w fun e w' => Below w.heap.size w w' ∧ ∃ z : Int, e = .returned (.int .i64 z) ∧ decide (0 ≤ z) = decide (x ∈ es) := by
  obtain ⟨a, cap, hv, hl, hm, _⟩ := id hr
  unfold maxLen at hm
  subst hv
  obtain ⟨n, hn⟩ : ∃ n, n = es.length := ⟨_, rfl⟩
  have HN : Hid (n = es.length) := hn
  have hr1 : RdVo w (.slice a n cap) es := by rw [hn]; exact hr
  have HR : Hid (RdVo w (.slice a n cap) es) := hr1
  rw [← hn] at hl ⊢
  clear hr hn hr1
  have HX : Hid (BoxV (w.alloc (.cells (VC x) 36)) w.heap.size x) := boxV_new w x
  have HB0 : Hid (Below w.heap.size w (w.alloc (.cells (VC x) 36))) := below1 w _
  unfold VC at HX HB0
  obtain ⟨w1, hw1⟩ : ∃ w1, w1 = w.alloc (.cells #[.int .i64 x.vw, .int .i64 x.nm, .int .i64 x.sv, .int .i64 x.tg] 36) := ⟨_, rfl⟩
  rw [← hw1] at HX HB0
  go_enter Tryz.func246, Tryz.ntmps246
  go_wp2
  rw [← hw1]
  clear hw1
  go_loopw [8] (fun i wr => ∃ k : Nat, k ≤ n ∧ i = .int .i64 k ∧ Hid (∀ j, j < k → nthVo es j ≠ x) ∧ Hid (Below w1.heap.size w1 wr)) (fun i _ => n - (intOf i).toNat)
  case atStart => exact ⟨0, Nat.zero_le _, rfl, (fun j hj => by omega), Below.refl _ _⟩
  case round =>
    obtain ⟨k, hk, rfl, HO, HW⟩ := hrel
    by_cases hlt : k < n
    · have hke : k < es.length := by rw [← HN.out]; exact hlt
      obtain ⟨b, off, rfl, hc⟩ := (HR.out.below (HB0.out.trans (HW.out.mono HB0.out.size))).at HN.out k hke
      obtain ⟨y, hy⟩ : ∃ y, y = nthVo es k := ⟨_, rfl⟩
      rw [← hy] at hc
      have HY : Hid (y = nthVo es k) := hy
      have HC : Hid (VotAt wr b (off + k * 4) y) := hc
      have hk1 : (k : Int) < (n : Int) := by omega
      clear hy hc
      by_cases hx : y = x
      · have RES : Hid (x ∈ es) := by unfold Hid; rw [← hx, HY.out, nthVo_eq hke]; exact List.getElem_mem hke
        subst hx
        clear HY
        go_wp2_with fail
        refine wp_region_noPanic ?_
        refine wp_region_held_drew (S := fun w' => (w'.cell? ⟨w.heap.size, 0, none⟩ = some (.int .i64 y.vw) ∧ w'.cell? ⟨w.heap.size, 1, none⟩ = some (.int .i64 y.nm) ∧ w'.cell? ⟨w.heap.size, 2, none⟩ = some (.int .i64 y.sv) ∧ w'.cell? ⟨w.heap.size, 3, none⟩ = some (.int .i64 y.tg)) ∧ (w'.cell? ⟨b, off + k * 4, none⟩ = some (.int .i64 y.vw) ∧ w'.cell? ⟨b, off + k * 4 + 1, none⟩ = some (.int .i64 y.nm) ∧ w'.cell? ⟨b, off + k * 4 + 2, none⟩ = some (.int .i64 y.sv) ∧ w'.cell? ⟨b, off + k * 4 + 3, none⟩ = some (.int .i64 y.tg))) (by kernel_rfl) ⟨BoxV.facts (BoxV.below HX.out HW.out.drew), VotAt.below (w := wr) HC.out (Below.refl _ _).drew⟩ (fun h0 => ?_)
        refine tkG 0 11 h0 ?_
        try simp only [Act.put, List.setIfInBounds_toArray, List.set_cons_zero, List.set_cons_succ]
        refine tkG 1 12 h0 ?_
        try simp only [Act.put, List.setIfInBounds_toArray, List.set_cons_zero, List.set_cons_succ]
        refine tkG 2 13 h0 ?_
        try simp only [Act.put, List.setIfInBounds_toArray, List.set_cons_zero, List.set_cons_succ]
        refine tkG 3 14 h0 ?_
        try simp only [Act.put, List.setIfInBounds_toArray, List.set_cons_zero, List.set_cons_succ]
        refine tkG 4 15 h0 ?_
        try simp only [Act.put, List.setIfInBounds_toArray, List.set_cons_zero, List.set_cons_succ]
        refine tkG 5 16 h0 ?_ (v := .bool true) (hy := by intro w hS; (try dsimp only [Nat.zero_add] at hS); go_simp; skip)
        try simp only [Act.put, List.setIfInBounds_toArray, List.set_cons_zero, List.set_cons_succ]
        refine wpAnyH_done (by kernel_rfl) ?_ _
        refine NoPanic.normal ?_
        go_wp2
        go_ret
        exact ⟨HB0.out.trans (HW.out.drew.mono HB0.out.size), _, rfl, by rw [decide_eq_true (RES.out : _ ∈ es)]; exact decide_eq_true (by omega)⟩
      · have hne4 : ¬ (x.vw = y.vw ∧ x.nm = y.nm ∧ x.sv = y.sv ∧ x.tg = y.tg) := fun h => hx (by cases x; cases y; simp only at h; obtain ⟨a, b, c, d⟩ := h; subst a b c d; rfl)
        have HO2 : Hid (∀ j, j < k + 1 → nthVo es j ≠ x) := by
          intro j hj
          by_cases hjk : j = k
          · rw [hjk, ← HY.out]; exact hx
          · exact HO.out j (by omega)
        clear hx HY
        go_wp2_with fail
        refine wp_region_noPanic ?_
        refine wp_region_held_drew (S := fun w' => (w'.cell? ⟨w.heap.size, 0, none⟩ = some (.int .i64 x.vw) ∧ w'.cell? ⟨w.heap.size, 1, none⟩ = some (.int .i64 x.nm) ∧ w'.cell? ⟨w.heap.size, 2, none⟩ = some (.int .i64 x.sv) ∧ w'.cell? ⟨w.heap.size, 3, none⟩ = some (.int .i64 x.tg)) ∧ (w'.cell? ⟨b, off + k * 4, none⟩ = some (.int .i64 y.vw) ∧ w'.cell? ⟨b, off + k * 4 + 1, none⟩ = some (.int .i64 y.nm) ∧ w'.cell? ⟨b, off + k * 4 + 2, none⟩ = some (.int .i64 y.sv) ∧ w'.cell? ⟨b, off + k * 4 + 3, none⟩ = some (.int .i64 y.tg))) (by kernel_rfl) ⟨BoxV.facts (BoxV.below HX.out HW.out.drew), VotAt.below (w := wr) HC.out (Below.refl _ _).drew⟩ (fun h0 => ?_)
        refine tkG 0 11 h0 ?_
        try simp only [Act.put, List.setIfInBounds_toArray, List.set_cons_zero, List.set_cons_succ]
        refine tkG 1 12 h0 ?_
        try simp only [Act.put, List.setIfInBounds_toArray, List.set_cons_zero, List.set_cons_succ]
        refine tkG 2 13 h0 ?_
        try simp only [Act.put, List.setIfInBounds_toArray, List.set_cons_zero, List.set_cons_succ]
        refine tkG 3 14 h0 ?_
        try simp only [Act.put, List.setIfInBounds_toArray, List.set_cons_zero, List.set_cons_succ]
        refine tkG 4 15 h0 ?_
        try simp only [Act.put, List.setIfInBounds_toArray, List.set_cons_zero, List.set_cons_succ]
        refine tkG 5 16 h0 ?_ (v := .bool false) (hy := by intro w hS; (try dsimp only [Nat.zero_add] at hS); go_simp; by_cases a : x.vw = y.vw <;> by_cases b : x.nm = y.nm <;> by_cases c : x.sv = y.sv <;> by_cases d : x.tg = y.tg <;> (simp [a, b, c, d]; try exact hne4 ⟨a, b, c, d⟩))
        try simp only [Act.put, List.setIfInBounds_toArray, List.set_cons_zero, List.set_cons_succ]
        refine wpAnyH_done (by kernel_rfl) ?_ _
        refine NoPanic.normal ?_
        go_wp2
        go_roundw
        case rel => exact ⟨k + 1, by omega, by go_num, HO2, HW.out.drew⟩
        case measure => simp [intOf]; omega
    · have hke : k = n := by omega
      subst hke
      have RES : Hid (x ∉ es) := by
        unfold Hid
        intro hx
        obtain ⟨j, hj, he⟩ := List.getElem_of_mem hx
        exact HO.out j (by rw [HN.out]; exact hj) (by rw [nthVo_eq hj]; exact he)
      go_wp2
      go_ret
      exact ⟨HB0.out.trans (HW.out.mono HB0.out.size), _, rfl, by rw [decide_eq_false RES.out]; rfl⟩
set_option maxHeartbeats 1000000 in
set_option maxRecDepth 100000 in
theorem voContains_any (b : Bool) (v : Value) (es : List Vot) (x : Vot) (hb : decide (x ∈ es) = b) (w : World) (hr : RdVo w v es) :
    Calls Tryz.prog 228 #[v, .agg #[.int .i64 x.vw, .int .i64 x.nm, .int .i64 x.sv, .int .i64 x.tg]] w fun e w' => e = .returned (.bool b) ∧ Below w.heap.size w w' := by
  have HI : Hid (∀ W, RdVo W v es → Calls Tryz.prog 246 #[v, .agg #[.int .i64 x.vw, .int .i64 x.nm, .int .i64 x.sv, .int .i64 x.tg]] W fun e w' => Below W.heap.size W w' ∧ ∃ z : Int, e = .returned (.int .i64 z) ∧ decide (0 ≤ z) = b) := fun W h => by rw [← hb]; exact voIndex_any v es x W h
  have b0 := below1 w (.cells #[.int .i64 x.vw, .int .i64 x.nm, .int .i64 x.sv, .int .i64 x.tg] 36)
  have HR := hr.below b0
  obtain ⟨a, cap, hv, _⟩ := id hr
  subst hv
  clear hb hr
  go_enter Tryz.func228, Tryz.ntmps228
  go_wp2_with fail
  refine (HI.out _ HR).mono ?_
  rintro e w1 ⟨hb1, z, rfl, hz⟩
  have b1 := b0.trans (hb1.mono b0.size)
  have HZ : Hid (decide (0 ≤ z) = b) := hz
  clear b0 hb1 HR hz
  go_wp2
  go_ret
  exact ⟨ret_bool HZ.out, b1⟩
set_option maxHeartbeats 1000000 in
set_option maxRecDepth 100000 in
theorem equalI_any (b : Bool) (va vb : Value) (xs ys : List Int) (hb : decide (xs = ys) = b) (w : World) (ha : RdI w va xs) (hb2 : RdI w vb ys) :
    Calls Tryz.prog 226 #[va, vb] w fun e w' => e = .returned (.bool b) ∧ Below w.heap.size w w' := by
  have HBB : Hid (decide (xs = ys) = b) := hb
  obtain ⟨aa, ca, hva, hla, hma, _⟩ := id ha
  obtain ⟨ab, cb, hvb, hlb, hmb, _⟩ := id hb2
  unfold maxLen at hma hmb
  obtain ⟨n, hn⟩ : ∃ n, n = xs.length := ⟨_, rfl⟩
  obtain ⟨m, hm⟩ : ∃ m, m = ys.length := ⟨_, rfl⟩
  have HN : Hid (n = xs.length) := hn
  have HM : Hid (m = ys.length) := hm
  rw [← hn] at hva hla
  rw [← hm] at hvb hlb
  subst hva hvb
  have HA : Hid (RdI w (.slice aa n ca) xs) := ha
  have HC : Hid (RdI w (.slice ab m cb) ys) := hb2
  clear ha hb2 hn hm hb
  by_cases hnm : n = m
  · subst hnm
    have hne : ((n : Int) != (n : Int)) = false := by simp
    go_enter Tryz.func226, Tryz.ntmps226
    go_wp2
    go_loopw [13] (fun i wr => ∃ k : Nat, k ≤ n ∧ i = .int .i64 k ∧ Hid (∀ j, j < k → nI xs j = nI ys j) ∧ Hid (Drew w wr)) (fun i _ => n - (intOf i).toNat)
    case atStart => exact ⟨0, Nat.zero_le _, rfl, (fun j hj => by omega), drew_refl w⟩
    case round =>
      obtain ⟨k, hk, rfl, HO, HW⟩ := hrel
      by_cases hlt : k < n
      · obtain ⟨b1, o1, rfl, c1⟩ := HA.out.at k (by rw [← HN.out]; exact hlt)
        obtain ⟨b2, o2, rfl, c2⟩ := HC.out.at k (by rw [← HM.out]; exact hlt)
        rw [← nI_eq] at c1 c2
        rw [← HW.out.cell] at c1 c2
        have hk1 : (k : Int) < (n : Int) := by omega
        by_cases he : nI xs k = nI ys k
        · have HO2 : Hid (∀ j, j < k + 1 → nI xs j = nI ys j) := by
            intro j hj
            by_cases hjk : j = k
            · rw [hjk]; exact he
            · exact HO.out j (by omega)
          rw [he] at c1
          generalize nI ys k = y at c1 c2
          have hd : (y != y) = false := by simp
          clear he
          go_wp2
          go_quiet (fail)
          go_wp2
          go_roundw
          case rel => exact ⟨k + 1, by omega, by go_num, HO2, HW.out.on _⟩
          case measure => simp [intOf]; omega
        · have RES : Hid (b = false) := by unfold Hid; rw [← HBB.out]; exact decide_eq_false (fun e => he (by rw [e]))
          have hd : (nI xs k != nI ys k) = true := by simp [he]
          generalize nI xs k = x at c1 hd
          generalize nI ys k = y at c2 hd
          clear he
          go_wp2
          go_quiet (fail)
          go_wp2
          go_ret
          exact ⟨ret_bool RES.out.symm, (HW.out.on _).below⟩
      · have hke : k = n := by omega
        subst hke
        have RES : Hid (b = true) := by
          unfold Hid
          rw [← HBB.out]
          refine decide_eq_true (List.ext_getElem (by rw [← HN.out, ← HM.out]) fun j h1 h2 => ?_)
          have := HO.out j (by rw [HN.out]; exact h1)
          rwa [nI_eq h1, nI_eq h2] at this
        go_wp2
        go_ret
        exact ⟨ret_bool RES.out.symm, HW.out.below⟩
  · have hne : ((n : Int) != (m : Int)) = true := by simp; omega
    have RES : Hid (b = false) := by unfold Hid; rw [← HBB.out]; exact decide_eq_false (fun e => hnm (by rw [HN.out, HM.out, e]))
    clear hnm
    go_enter Tryz.func226, Tryz.ntmps226
    go_wp2
    go_ret
    exact ⟨ret_bool RES.out.symm, Below.refl _ _⟩
end Go.Proofs.YtilhaokiohbeeaaGreatDoor
-- UNF Gen
namespace Go.Proofs.YtilhaokiohbeeaaGreatDoor
open Go.RowKit
/-- What Gathered leaves: a proof in memory of its own, and whether there is one. -/
def GatP (w : World) (R : Option Prf) (e : Ending) (w' : World) : Prop :=
  ∃ X : PrX, e = .returned (.tuple #[.agg #[.int .i64 X.p.vw, .int .i64 X.p.nm, X.vs, X.vt], .bool R.isSome]) ∧ X.p = R.getD prfZ ∧ OwnPr w' w.heap.size X ∧ Below w.heap.size w w'
theorem tagD_lt (s : Int) (t : ByteArray) : tagD s t < 2147483647 := by
  rw [tagD_eq]
  exact dig_lt _ _ (dig_lt _ _ (dig_lt _ _ (dig_lt _ _ (by omega))))
theorem fit_votR (s v n : Int) : FitVo (votR s v n) := by
  unfold votR
  split
  · rename_i h
    simp only [Bool.and_eq_true, decide_eq_true_eq] at h
    obtain ⟨⟨h1, h2⟩, h3⟩ := h
    unfold inV at h2
    unfold inN at h3
    simp only [decide_eq_true_eq] at h2 h3
    have ht := tagD_lt s (balS v n)
    refine ⟨?_, ?_, ?_, ?_⟩ <;> (unfold vtd; simp only; omega)
  · exact ⟨by decide, by decide, by decide, by decide⟩
theorem vok_votR {s v n : Int} {m : Int} (h : vokR (votR s v n) m = true) : votR s v n = vtd s v n ∧ inV v = true ∧ inN n = true := by
  unfold votR at h ⊢
  by_cases hc : (decide (0 ≤ s ∧ s ≤ 6) && inV v && inN n) = true
  · rw [if_pos hc]
    simp only [Bool.and_eq_true] at hc
    exact ⟨rfl, hc.1.2, hc.2⟩
  · rw [if_neg hc] at h
    exfalso
    unfold vokR votZ at h
    simp only [Bool.and_eq_true] at h
    have := h.1.1.2
    revert this
    decide
/-- A server has voted so just where its vote is right and among those. -/
theorem sel_votR (l : List Vot) (vw nm : Int) {n : Int} {k : Nat} (hs : srvB n = true) (hk : (k : Int) < n) : (vokR (votR k vw nm) n && decide (votR k vw nm ∈ l)) = selB l vw nm k := by
  have hq := quoR_yes hs
  unfold selB
  cases hv : inV vw with
  | false =>
    cases h : vokR (votR k vw nm) n with
    | false => rfl
    | true => have := (vok_votR h).2.1; rw [hv] at this; cases this
  | true =>
    cases hm : inN nm with
    | false =>
      cases h : vokR (votR k vw nm) n with
      | false => rfl
      | true => have := (vok_votR h).2.2; rw [hm] at this; cases this
    | true =>
      have e : votR k vw nm = vtd k vw nm := by
        unfold votR
        rw [hv, hm, decide_eq_true (show (0 : Int) ≤ (k : Int) ∧ (k : Int) ≤ 6 by omega)]
        rfl
      rw [e, vtd_vok hs (by omega) (by omega) hv hm]
      rfl
theorem ownI_lenX {w : World} {B : Nat} {a : Option Addr} {n c : Nat} {ns : List Int} (h : OwnI w B (.slice a n c) ns) : n = ns.length := by
  obtain ⟨_, _, hx, _⟩ := h.rd
  simp only [Value.slice.injEq] at hx
  exact hx.2.1
theorem GatP.no {w w' : World} {R : Option Prf} (h : R = none) (hb : Below w.heap.size w w') : GatP w R (.returned (.tuple #[.agg #[.int .i64 0, .int .i64 0, .slice none 0 0, .slice none 0 0], .bool false])) w' := by
  subst h
  exact ⟨prxZ, rfl, rfl, ownPr_zero _ _ 0 0, hb⟩
end Go.Proofs.YtilhaokiohbeeaaGreatDoor
