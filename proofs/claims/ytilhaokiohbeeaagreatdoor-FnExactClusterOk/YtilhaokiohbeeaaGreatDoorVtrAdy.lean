/- The contract of the program's voter.add, where the Block comes. -/
import Derived.Test.YtilhaokiohbeeaaGreatDoorVtrAdd
-- UNF Gen
namespace Go.Proofs.YtilhaokiohbeeaaGreatDoor
open Go.RowKit
theorem row_no_map {w : World} {B t s n b : Nat} {v : Value} {xs : List Value} {es : Array MapEntry} {c : Nat} (h : w.ownsRow B t s v n xs) (hb : v.ownBlock = some b) (hm : w.heap[b]? = some (.map es c)) : False := by
  rcases h.2 with ⟨rfl, h0⟩ | ⟨g, cap, cur, rfl, hb0, hg, hn, hc, hs, ht⟩
  · simp [Value.ownBlock] at hb
  · simp [Value.ownBlock] at hb
    subst hb
    rw [hg] at hm
    cases hm
theorem rdBs_one (w : World) (X : BlX) (t : TypeId) : RdBs (w.alloc (.cells #[.int .i64 X.b.vw, .int .i64 X.b.pa, .int .i64 X.b.p.vw, .int .i64 X.b.p.nm, X.vs, X.vt, X.vm, .int .i64 X.b.sv] t)) (.slice (some ⟨w.heap.size, 0, none⟩) 1 1) [X] := by
  refine ⟨_, 1, rfl, Nat.le_refl _, by unfold maxLen; omega, (fun h => by cases h), .inr ⟨_, 0, rfl, fun i hi => ?_⟩⟩
  have : i = 0 := by simpa using hi
  subst this
  have h := (bx_new w t #[.int .i64 X.b.vw, .int .i64 X.b.pa, .int .i64 X.b.p.vw, .int .i64 X.b.p.nm, X.vs, X.vt, X.vm, .int .i64 X.b.sv]).c8
  exact h
/-- A voter that a Block has come to. -/
def Vt.plus (V : Vt) (v : Value) (Y : BlX) (u : Value) (M : BlX) : Vt := { V with X := { V.X with vb := v, bs := V.X.bs ++ [Y] }, vnm := u, Ms := V.Ms ++ [M] }
set_option maxHeartbeats 8000000 in
set_option maxRecDepth 100000 in
theorem addV_yes {w0 W : World} {g : Nat} {V : Vt} (M : BlX) (h : VtA w0 W g V) (hM : RdBl W M) (hfM : FitBl M.b) (hsm : SmallB M.b) (ht : Tab W) (hM0 : RdBl w0 M) (hnil : NilOk M.vm) (HNO : (decide (V.X.bs.length < 60) && mayB (bsOf V.X.bs) V.X.n M.b) = true) :
    Calls Tryz.prog 147 #[.pointer (some ⟨g, 0, none⟩), .agg #[.int .i64 M.b.vw, .int .i64 M.b.pa, .int .i64 M.b.p.vw, .int .i64 M.b.p.nm, M.vs, M.vt, M.vm, .int .i64 M.b.sv]] W fun e w' => ∃ v Y u, e = .returned (.bool true) ∧ Y.b = M.b ∧ VtA w0 w' g (V.plus v Y u M) ∧ Touch (g :: V.mb :: (oneB V.X.vb ++ oneB V.vnm)) W w' := by
  have hg := h.lt
  have hc1 : W.cell? ⟨g, 1, none⟩ = some (.int .i64 V.X.n) := h.box.c17.2.1
  have hc10 : W.cell? ⟨g, 10, none⟩ = some V.X.vb := h.box.c17.2.2.2.2.2.2.2.2.2.2.1
  have hc14 : W.cell? ⟨g, 14, none⟩ = some V.vnm := h.box.c17.2.2.2.2.2.2.2.2.2.2.2.2.2.2.1
  have hlen := h.len
  obtain ⟨ab, cb, hvb, hlb, hmb, -⟩ := id h.bl.rd
  unfold maxLen at hmb
  obtain ⟨a1, m1, k1, a2, m2, k2, a3, m3, k3, e1, e2, e3⟩ := hM.slices
  obtain ⟨n, hne⟩ : ∃ n, n = V.X.n := ⟨_, rfl⟩
  obtain ⟨bn, hbn⟩ : ∃ k, k = V.X.bs.length := ⟨_, rfl⟩
  have HBN : Hid (bn = V.X.bs.length) := hbn
  have HNE : Hid (n = V.X.n) := hne
  rw [← hbn] at hvb hlb hlen HNO
  rw [hvb] at hc10
  rw [← hne] at hc1 HNO
  obtain ⟨⟨vw, pa, ⟨pv, pn, ps, pt⟩, mo, sv⟩, mvs, mvt, mvm⟩ := M
  simp only at e1 e2 e3 hsm HNO ⊢
  subst e1 e2 e3
  obtain ⟨bo, hbo⟩ : ∃ z, blkR ⟨vw, pa, ⟨pv, pn, ps, pt⟩, mo, sv⟩ n = z := ⟨_, rfl⟩
  obtain ⟨kb, hkb⟩ : ∃ z, knoB (bsOf V.X.bs) ⟨pv, pn, ps, pt⟩ = z := ⟨_, rfl⟩
  have HBO : Hid (∀ W', Below W.heap.size W W' → Calls Tryz.prog 171 #[.agg #[.int .i64 vw, .int .i64 pa, .int .i64 pv, .int .i64 pn, .slice a1 m1 k1, .slice a2 m2 k2, .slice a3 m3 k3, .int .i64 sv], .int .i64 n] W' fun e w' => e = .returned (.bool bo) ∧ Below W'.heap.size W' w') := fun W' hb => by rw [← hbo]; exact implBlockOk_any ⟨⟨vw, pa, ⟨pv, pn, ps, pt⟩, mo, sv⟩, .slice a1 m1 k1, .slice a2 m2 k2, .slice a3 m3 k3⟩ n W' (hM.below hb) hfM (ht.on hb)
  have HKN : Hid (∀ W', Below W.heap.size W W' → Calls Tryz.prog 195 #[.pointer (some ⟨g, 0, none⟩), .agg #[.int .i64 pv, .int .i64 pn, .slice a1 m1 k1, .slice a2 m2 k2]] W' fun e w' => e = .returned (.bool kb) ∧ Below W'.heap.size W' w') := fun W' hb => by rw [← hkb]; exact knowsV_any ⟨⟨pv, pn, ps, pt⟩, .slice a1 m1 k1, .slice a2 m2 k2⟩ (h.next hb) (hM.pr.below hb) hfM.pr
  have HNM : Hid (∀ W', Below W.heap.size W W' → bo = true → Calls Tryz.prog 196 #[.agg #[.int .i64 vw, .int .i64 pa, .int .i64 pv, .int .i64 pn, .slice a1 m1 k1, .slice a2 m2 k2, .slice a3 m3 k3, .int .i64 sv]] W' fun e w' => e = .returned (.int .i64 (namN ⟨vw, pa, ⟨pv, pn, ps, pt⟩, mo, sv⟩)) ∧ Below W'.heap.size W' w') := fun W' hb hy => by rw [← nam_right (hbo.trans hy)]; exact implName_any ⟨⟨vw, pa, ⟨pv, pn, ps, pt⟩, mo, sv⟩, .slice a1 m1 k1, .slice a2 m2 k2, .slice a3 m3 k3⟩ W' (hM.below hb) hsm
  obtain ⟨nm, hnm⟩ : ∃ z, z = namN ⟨vw, pa, ⟨pv, pn, ps, pt⟩, mo, sv⟩ := ⟨_, rfl⟩
  rw [← hnm] at HNM
  obtain ⟨is, his⟩ : ∃ z, decide (nm ∈ vtN V) = z := ⟨_, rfl⟩
  have HCO : Hid (∀ W', Below W.heap.size W W' → Calls Tryz.prog 197 #[V.vnm, .int .i64 nm] W' fun e w' => e = .returned (.bool is) ∧ w' = W') := fun W' hb => by rw [← his]; exact conN_any V.vnm (vtN V) nm W' (h.nm.rd.below hb)
  have hall : (bsOf V.X.bs).all (fun c => decide (namN c ≠ namN ⟨vw, pa, ⟨pv, pn, ps, pt⟩, mo, sv⟩)) = !is := by
    rw [← his, ← hnm, Bool.eq_iff_iff]
    simp only [List.all_eq_true, bsOf, vtN, List.mem_map, decide_eq_true_eq, Bool.not_eq_true', decide_eq_false_iff_not]
    constructor
    · rintro hh ⟨X, hX, e⟩
      exact hh X.b ⟨X, hX, rfl⟩ e
    · rintro hh b ⟨X, hX, rfl⟩ e
      exact hh ⟨X, hX, e⟩
  have HQ : Hid (bn < 60 ∧ bo = true ∧ kb = true ∧ is = false) := by
    unfold Hid
    have h1 := HNO
    unfold mayB at h1
    simp only at h1
    rw [hbo, hkb, hall] at h1
    simpa using h1
  obtain ⟨hb60, rfl, rfl, rfl⟩ := HQ.out
  have HCP : Hid (∀ W', Below W.heap.size W W' → Calls Tryz.prog 173 #[.agg #[.int .i64 vw, .int .i64 pa, .int .i64 pv, .int .i64 pn, .slice a1 m1 k1, .slice a2 m2 k2, .slice a3 m3 k3, .int .i64 sv]] W' fun e w' => ToBl W' ⟨vw, pa, ⟨pv, pn, ps, pt⟩, mo, sv⟩ e w') := fun W' hb => by
    have hf := blk_few hbo
    simp only at hf
    exact blockCopied_any ⟨⟨vw, pa, ⟨pv, pn, ps, pt⟩, mo, sv⟩, .slice a1 m1 k1, .slice a2 m2 k2, .slice a3 m3 k3⟩ W' (hM.below hb) hnil (by simp only; omega) (by simp only; omega) (by simp only; omega)
  unfold ToBl at HCP
  have HNI : Hid (nm ∉ vtN V) := of_decide_eq_false his
  have HNA : Hid (nm = namN ⟨vw, pa, ⟨pv, pn, ps, pt⟩, mo, sv⟩) := hnm
  have HVB : Hid (V.X.vb = .slice ab bn cb) := hvb
  have HH : Hid (VtA w0 W g V) := h
  have HGE : Hid (w0.heap.size ≤ g) := h.ge
  have HM0 : Hid (RdBl w0 ⟨⟨vw, pa, ⟨pv, pn, ps, pt⟩, mo, sv⟩, .slice a1 m1 k1, .slice a2 m2 k2, .slice a3 m3 k3⟩) := hM0
  have HFM : Hid (FitBl ⟨vw, pa, ⟨pv, pn, ps, pt⟩, mo, sv⟩ ∧ SmallB ⟨vw, pa, ⟨pv, pn, ps, pt⟩, mo, sv⟩) := ⟨hfM, hsm⟩
  have HGW : Hid (g ≠ W.heap.size) := by unfold Hid; omega
  have HXN : Hid (W.heap.size ∉ oneB (.slice ab bn cb)) := fun e => by
    have h1 := h.bl
    rw [hvb] at h1
    have := (World.ownsRow.lt h1 _ (mem_oneB.1 e)).2
    omega
  obtain ⟨es, c, hmp0, hmr⟩ := h.mp
  have HMR : Hid (MapR es V.Ms) := hmr
  clear hall his hbo hkb hM hfM hsm ht hnm hne hbn HNO h HQ hvb hM0 hnil hmr
  have t2 := bx_new W 34 #[.int .i64 vw, .int .i64 pa, .int .i64 pv, .int .i64 pn, .slice a1 m1 k1, .slice a2 m2 k2, .slice a3 m3 k3, .int .i64 sv]
  have b2 := below1 W (.cells #[.int .i64 vw, .int .i64 pa, .int .i64 pv, .int .i64 pn, .slice a1 m1 k1, .slice a2 m2 k2, .slice a3 m3 k3, .int .i64 sv] 34)
  go_enter Tryz.func147, Tryz.ntmps147
  have hfb : ((bn : Int) == 60) = false := by simp; omega
  go_wp2_with fail
  generalize W.alloc (.cells #[.int .i64 vw, .int .i64 pa, .int .i64 pv, .int .i64 pn, .slice a1 m1 k1, .slice a2 m2 k2, .slice a3 m3 k3, .int .i64 sv] 34) = W2 at t2 b2 ⊢
  refine wp_region_noPanic ?_
  refine wp_region_held_drew (S := fun w' => (w'.cell? ⟨W.heap.size, 0, none⟩ = some (.int .i64 vw) ∧ w'.cell? ⟨W.heap.size, 1, none⟩ = some (.int .i64 pa) ∧ w'.cell? ⟨W.heap.size, 2, none⟩ = some (.int .i64 pv) ∧ w'.cell? ⟨W.heap.size, 3, none⟩ = some (.int .i64 pn) ∧ w'.cell? ⟨W.heap.size, 4, none⟩ = some (.slice a1 m1 k1) ∧ w'.cell? ⟨W.heap.size, 5, none⟩ = some (.slice a2 m2 k2) ∧ w'.cell? ⟨W.heap.size, 6, none⟩ = some (.slice a3 m3 k3) ∧ w'.cell? ⟨W.heap.size, 7, none⟩ = some (.int .i64 sv)) ∧ w'.cell? ⟨g, 10, none⟩ = some (.slice ab bn cb) ∧ w'.cell? ⟨g, 1, none⟩ = some (.int .i64 n)) (by kernel_rfl) ⟨(t2.below (Below.refl _ _).drew).c8, (b2.drew.cell (p := ⟨g, 10, none⟩) hg).trans hc10, (b2.drew.cell (p := ⟨g, 1, none⟩) hg).trans hc1⟩ (fun h0 => ?_)
  refine tkG 0 6 h0 ?_
  try simp only [Act.put, List.setIfInBounds_toArray, List.set_cons_zero, List.set_cons_succ]
  refine tkG 1 7 h0 ?_
  try simp only [Act.put, List.setIfInBounds_toArray, List.set_cons_zero, List.set_cons_succ]
  refine tkG 2 8 h0 ?_
  try simp only [Act.put, List.setIfInBounds_toArray, List.set_cons_zero, List.set_cons_succ]
  refine tkG 3 9 h0 ?_
  try simp only [Act.put, List.setIfInBounds_toArray, List.set_cons_zero, List.set_cons_succ]
  refine tkG 4 10 h0 ?_
  try simp only [Act.put, List.setIfInBounds_toArray, List.set_cons_zero, List.set_cons_succ]
  refine tkG 5 11 h0 ?_
  try simp only [Act.put, List.setIfInBounds_toArray, List.set_cons_zero, List.set_cons_succ]
  refine tkG 6 12 h0 ?_
  try simp only [Act.put, List.setIfInBounds_toArray, List.set_cons_zero, List.set_cons_succ]
  refine tkG 7 13 h0 ?_
  try simp only [Act.put, List.setIfInBounds_toArray, List.set_cons_zero, List.set_cons_succ]
  refine tkG 8 14 h0 ?_
  try simp only [Act.put, List.setIfInBounds_toArray, List.set_cons_zero, List.set_cons_succ]
  refine tkG 9 15 h0 ?_
  try simp only [Act.put, List.setIfInBounds_toArray, List.set_cons_zero, List.set_cons_succ]
  refine tkG 10 16 h0 ?_
  try simp only [Act.put, List.setIfInBounds_toArray, List.set_cons_zero, List.set_cons_succ]
  refine tkG 11 17 h0 ?_
  try simp only [Act.put, List.setIfInBounds_toArray, List.set_cons_zero, List.set_cons_succ]
  refine tkG 12 18 h0 ?_
  try simp only [Act.put, List.setIfInBounds_toArray, List.set_cons_zero, List.set_cons_succ]
  refine tkG 13 19 h0 ?_
  try simp only [Act.put, List.setIfInBounds_toArray, List.set_cons_zero, List.set_cons_succ]
  refine wpAnyH_ready (rs := [14]) (by kernel_rfl) (by simp) ?_
  refine AllReadyH.cons rfl (fun K hK => ?_) AllReadyH.nil
  go_simp
  refine (HBO.out _ b2.drew).mono ?_
  rintro e w5 ⟨rfl, hb5⟩
  have b5 := b2.drew.trans (hb5.mono b2.drew.size)
  have t5 := (t2.below (Below.refl _ _).drew).below hb5
  refine hK.out _ _ (⟨t5.c8, (b5.cell (p := ⟨g, 10, none⟩) hg).trans hc10, (b5.cell (p := ⟨g, 1, none⟩) hg).trans hc1⟩) (fun h1 => ?_)
  clear hK K
  try simp only [Act.put, List.setIfInBounds_toArray, List.set_cons_zero, List.set_cons_succ]
  clear h0
  refine tkG 15 21 h1 ?_
  try simp only [Act.put, List.setIfInBounds_toArray, List.set_cons_zero, List.set_cons_succ]
  refine tkG 16 22 h1 ?_
  try simp only [Act.put, List.setIfInBounds_toArray, List.set_cons_zero, List.set_cons_succ]
  refine tkG 17 23 h1 ?_
  try simp only [Act.put, List.setIfInBounds_toArray, List.set_cons_zero, List.set_cons_succ]
  refine tkG 18 24 h1 ?_
  try simp only [Act.put, List.setIfInBounds_toArray, List.set_cons_zero, List.set_cons_succ]
  refine tkG 19 25 h1 ?_
  try simp only [Act.put, List.setIfInBounds_toArray, List.set_cons_zero, List.set_cons_succ]
  refine tkG 20 26 h1 ?_
  try simp only [Act.put, List.setIfInBounds_toArray, List.set_cons_zero, List.set_cons_succ]
  refine wpAnyH_ready (rs := [21]) (by kernel_rfl) (by simp) ?_
  refine AllReadyH.cons rfl (fun K hK => ?_) AllReadyH.nil
  go_simp
  refine (HKN.out _ b5).mono ?_
  rintro e w6 ⟨rfl, hb6⟩
  have b6 := b5.trans (hb6.mono b5.size)
  have t6 := t5.below hb6
  refine hK.out _ _ (⟨t6.c8, (b6.cell (p := ⟨g, 10, none⟩) hg).trans hc10, (b6.cell (p := ⟨g, 1, none⟩) hg).trans hc1⟩) (fun h2 => ?_)
  clear hK K
  try simp only [Act.put, List.setIfInBounds_toArray, List.set_cons_zero, List.set_cons_succ]
  clear h1
  refine tkG 22 28 h2 ?_
  try simp only [Act.put, List.setIfInBounds_toArray, List.set_cons_zero, List.set_cons_succ]
  refine tkG 23 29 h2 ?_
  try simp only [Act.put, List.setIfInBounds_toArray, List.set_cons_zero, List.set_cons_succ]
  refine wpAnyH_done (by kernel_rfl) ?_ _
  refine NoPanic.normal ?_
  obtain ⟨q0, q1, q2, q3, q4, q5, q6, q7⟩ := t6.c8
  clear b2 t2 b5 t5 hb5 hb6
  go_wp2_with fail
  refine (HNM.out _ b6 (by first | rfl | trivial)).mono ?_
  rintro e w7 ⟨rfl, hb7⟩
  have b7 := b6.trans (hb7.mono b6.size)
  have t7 := t6.below hb7
  have d14 := (b7.cell (p := ⟨g, 14, none⟩) hg).trans hc14
  clear q0 q1 q2 q3 q4 q5 q6 q7 b6 t6 hb7
  go_wp2_with fail
  refine (HCO.out _ b7).mono ?_
  rintro e w8 ⟨rfl, hw8⟩
  subst hw8
  have hmp := (b7.block _ (Array.getElem?_eq_some_iff.1 hmp0).1).trans hmp0
  have hA := HH.out.next b7
  have hbl0 := b7
  clear d14 hmp0 HCO HNM HKN HBO hc1 hc10 hc14
  go_wp2_with fail
  refine wp_region_noPanic ?_
  refine wp_region_held_drew (S := fun _ : World => True) (by kernel_rfl) trivial (fun hS => ?_)
  generalize w8 = W7 at t7 hmp hA hbl0 ⊢
  have hx := t7.below (Below.refl _ _).drew
  replace hmp : W7.drew.heap[V.mb]? = some (.map es c) := hmp
  replace hA := hA.next (Below.refl _ _).drew
  have hbl : Below W7.heap.size W7 W7.drew := (Below.refl _ _).drew
  have HCP2 : Hid (∀ W', Below W7.heap.size W7 W' → Calls Tryz.prog 173 #[.agg #[.int .i64 vw, .int .i64 pa, .int .i64 pv, .int .i64 pn, .slice a1 m1 k1, .slice a2 m2 k2, .slice a3 m3 k3, .int .i64 sv]] W' fun e w' => ∃ Y : BlX, e = .returned (.agg #[.int .i64 Y.b.vw, .int .i64 Y.b.pa, .int .i64 Y.b.p.vw, .int .i64 Y.b.p.nm, Y.vs, Y.vt, Y.vm, .int .i64 Y.b.sv]) ∧ Y.b = ⟨vw, pa, ⟨pv, pn, ps, pt⟩, mo, sv⟩ ∧ OwnBl w' W'.heap.size Y ∧ Below W'.heap.size W' w') := fun W' hb => HCP.out W' (hbl0.trans (hb.mono hbl0.size))
  clear HCP t7
  refine tkG 0 38 hS ?_
  try simp only [Act.put, List.setIfInBounds_toArray, List.set_cons_zero, List.set_cons_succ]
  refine tkG 1 39 hS ?_
  try simp only [Act.put, List.setIfInBounds_toArray, List.set_cons_zero, List.set_cons_succ]
  refine tkG 2 40 hS ?_
  try simp only [Act.put, List.setIfInBounds_toArray, List.set_cons_zero, List.set_cons_succ]
  refine tkG 3 41 hS ?_
  try simp only [Act.put, List.setIfInBounds_toArray, List.set_cons_zero, List.set_cons_succ]
  refine tkG 4 42 hS ?_
  try simp only [Act.put, List.setIfInBounds_toArray, List.set_cons_zero, List.set_cons_succ]
  revert hS
  revert hbl
  revert hA
  revert hmp
  revert hx
  generalize W7.drew = Vz
  intro hx hmp hA hbl hS
  refine wpAnyH_ready (rs := [5, 6]) (by kernel_rfl) (by simp) ?_
  refine AllReadyH.cons rfl (fun K hK => ?_) ?_
  have c10 : Vz.cell? ⟨g, 10, none⟩ = some (.slice ab bn cb) := by have c := (hA.box.c17).2.2.2.2.2.2.2.2.2.2.1; rw [HVB.out] at c; exact c
  go_simp
  clear c10 hS
  refine hK.out _ _ trivial (fun hS => ?_)
  clear hK K
  try simp only [List.setIfInBounds_toArray, List.set_cons_zero, List.set_cons_succ]
  clear hS
  refine listed_asV (l' := #[true, true, true, true, true, true, false, false, false, false, false, false, false, false]) (by kernel_rfl) ?_
  revert hbl
  revert hA
  revert hx
  revert hmp
  revert Vz
  refine ?ad5
  rotate_left 1
  refine AllReadyH.cons rfl (fun K hK => ?_) AllReadyH.nil
  obtain ⟨g0, g1, g2, g3, g4, g5, g6, g7⟩ := hx.c8
  go_simp
  clear g0 g1 g2 g3 g4 g5 g6 g7 hS
  refine hK.out _ _ trivial (fun hS => ?_)
  clear hK K
  try simp only [List.setIfInBounds_toArray, List.set_cons_zero, List.set_cons_succ]
  clear hS
  refine listed_asV (l' := #[true, true, true, true, true, false, true, false, false, false, false, false, false, false]) (by kernel_rfl) ?_
  revert hbl
  revert hA
  revert hx
  revert hmp
  revert Vz
  refine ?ad6
  rotate_left 1
  intro V0 hmp hx hA hbl
  have hS : (fun _ : World => True) V0 := trivial
  refine wpAnyH_ready (rs := [6]) (by kernel_rfl) (by simp) ?_
  refine AllReadyH.cons rfl (fun K hK => ?_) AllReadyH.nil
  obtain ⟨g0, g1, g2, g3, g4, g5, g6, g7⟩ := hx.c8
  go_simp
  clear g0 g1 g2 g3 g4 g5 g6 g7 hS
  refine hK.out _ _ trivial (fun hS => ?_)
  clear hK K
  try simp only [List.setIfInBounds_toArray, List.set_cons_zero, List.set_cons_succ]
  clear hS
  refine listed_asV (l' := #[true, true, true, true, true, true, true, false, false, false, false, false, false, false]) (by kernel_rfl) ?_
  revert hbl
  revert hA
  revert hx
  revert hmp
  revert V0
  refine ?ad56
  rotate_left 1
  intro V0 hmp hx hA hbl
  have hS : (fun _ : World => True) V0 := trivial
  refine wpAnyH_ready (rs := [5, 7]) (by kernel_rfl) (by simp) ?_
  refine AllReadyH.cons rfl (fun K hK => ?_) ?_
  have c10 : V0.cell? ⟨g, 10, none⟩ = some (.slice ab bn cb) := by have c := (hA.box.c17).2.2.2.2.2.2.2.2.2.2.1; rw [HVB.out] at c; exact c
  go_simp
  clear c10 hS
  refine hK.out _ _ trivial (fun hS => ?_)
  clear hK K
  try simp only [List.setIfInBounds_toArray, List.set_cons_zero, List.set_cons_succ]
  clear hS
  refine listed_asV (l' := #[true, true, true, true, true, true, true, false, false, false, false, false, false, false]) (by kernel_rfl) ?_
  revert hbl
  revert hA
  revert hx
  revert hmp
  revert V0
  exact ?ad56
  refine AllReadyH.cons rfl (fun K hK => ?_) AllReadyH.nil
  go_simp
  refine (HCP2.out _ hbl).mono ?_
  rintro e V1 ⟨Y, rfl, hyb, hY, hb⟩
  have hNl : Hid (g < V0.heap.size ∧ V.mb < V0.heap.size ∧ W.heap.size < V0.heap.size ∧ ∀ k ∈ bblks V.X.bs ++ oneB V.vnm, k < V0.heap.size) := ⟨hA.lt, (Array.getElem?_eq_some_iff.1 hmp).1, hx.lt, fun k hk => by
    rcases List.mem_append.1 hk with hk | hk
    · exact (bblks_bound hA.ib hk).2
    · exact (World.ownsRow.lt hA.nm k (mem_oneB.1 hk)).2⟩
  have hN := hb.size
  have hNb : w0.heap.size ≤ V0.heap.size := hA.bel.size
  replace hA := hA.next hb
  replace hmp := (hb.block _ hNl.out.2.1).trans hmp
  replace hx := hx.below hb
  replace hbl := hbl.trans (hb.mono hbl.size)
  clear hb hS
  obtain ⟨N, hNe⟩ : ∃ N, N = V0.heap.size := ⟨_, rfl⟩
  rw [← hNe] at hY hNl hN hNb
  clear hNe
  obtain ⟨b1, p1, d1, b2, p2, d2, b3, p3, d3, f1, f2, f3⟩ := hY.rd.slices
  obtain ⟨yb, yvs, yvt, yvm⟩ := Y
  simp only at f1 f2 f3 hyb hY ⊢
  subst f1 f2 f3 hyb
  refine hK.out _ _ trivial (fun hS => ?_)
  clear hK K
  try simp only [List.setIfInBounds_toArray, List.set_cons_zero, List.set_cons_succ]
  clear hS
  refine listed_asV (l' := #[true, true, true, true, true, false, true, true, false, false, false, false, false, false]) (by kernel_rfl) ?_
  revert hNb
  revert hNl
  revert hN
  revert hY
  revert hbl
  revert hA
  revert hx
  revert hmp
  revert d3
  revert p3
  revert b3
  revert d2
  revert p2
  revert b2
  revert d1
  revert p1
  revert b1
  revert N
  revert V1
  clear V0
  refine ?ad67
  rotate_left 1
  intro V0 hmp hx hA hbl
  have hS : (fun _ : World => True) V0 := trivial
  refine wpAnyH_ready (rs := [7]) (by kernel_rfl) (by simp) ?_
  refine AllReadyH.cons rfl (fun K hK => ?_) AllReadyH.nil
  go_simp
  refine (HCP2.out _ hbl).mono ?_
  rintro e V1 ⟨Y, rfl, hyb, hY, hb⟩
  have hNl : Hid (g < V0.heap.size ∧ V.mb < V0.heap.size ∧ W.heap.size < V0.heap.size ∧ ∀ k ∈ bblks V.X.bs ++ oneB V.vnm, k < V0.heap.size) := ⟨hA.lt, (Array.getElem?_eq_some_iff.1 hmp).1, hx.lt, fun k hk => by
    rcases List.mem_append.1 hk with hk | hk
    · exact (bblks_bound hA.ib hk).2
    · exact (World.ownsRow.lt hA.nm k (mem_oneB.1 hk)).2⟩
  have hN := hb.size
  have hNb : w0.heap.size ≤ V0.heap.size := hA.bel.size
  replace hA := hA.next hb
  replace hmp := (hb.block _ hNl.out.2.1).trans hmp
  replace hx := hx.below hb
  replace hbl := hbl.trans (hb.mono hbl.size)
  clear hb hS
  obtain ⟨N, hNe⟩ : ∃ N, N = V0.heap.size := ⟨_, rfl⟩
  rw [← hNe] at hY hNl hN hNb
  clear hNe
  obtain ⟨b1, p1, d1, b2, p2, d2, b3, p3, d3, f1, f2, f3⟩ := hY.rd.slices
  obtain ⟨yb, yvs, yvt, yvm⟩ := Y
  simp only at f1 f2 f3 hyb hY ⊢
  subst f1 f2 f3 hyb
  refine hK.out _ _ trivial (fun hS => ?_)
  clear hK K
  try simp only [List.setIfInBounds_toArray, List.set_cons_zero, List.set_cons_succ]
  clear hS
  refine listed_asV (l' := #[true, true, true, true, true, true, true, true, false, false, false, false, false, false]) (by kernel_rfl) ?_
  revert hNb
  revert hNl
  revert hN
  revert hY
  revert hbl
  revert hA
  revert hx
  revert hmp
  revert d3
  revert p3
  revert b3
  revert d2
  revert p2
  revert b2
  revert d1
  revert p1
  revert b1
  revert N
  revert V1
  clear V0
  refine ?ad567
  rotate_left 1
  intro V0 N b1 p1 d1 b2 p2 d2 b3 p3 d3 hmp hx hA hbl hY hN hNl hNb
  have hS : (fun _ : World => True) V0 := trivial
  refine wpAnyH_ready (rs := [5, 8]) (by kernel_rfl) (by simp) ?_
  refine AllReadyH.cons rfl (fun K hK => ?_) ?_
  have c10 : V0.cell? ⟨g, 10, none⟩ = some (.slice ab bn cb) := by have c := (hA.box.c17).2.2.2.2.2.2.2.2.2.2.1; rw [HVB.out] at c; exact c
  go_simp
  clear c10 hS
  refine hK.out _ _ trivial (fun hS => ?_)
  clear hK K
  try simp only [List.setIfInBounds_toArray, List.set_cons_zero, List.set_cons_succ]
  clear hS
  refine listed_asV (l' := #[true, true, true, true, true, true, true, true, false, false, false, false, false, false]) (by kernel_rfl) ?_
  revert hNb
  revert hNl
  revert hN
  revert hY
  revert hbl
  revert hA
  revert hx
  revert hmp
  revert d3
  revert p3
  revert b3
  revert d2
  revert p2
  revert b2
  revert d1
  revert p1
  revert b1
  revert N
  revert V0
  exact ?ad567
  refine AllReadyH.cons rfl (fun K hK => ?_) AllReadyH.nil
  refine step_objX rfl 46 rfl (.cells #[.int .i64 vw, .int .i64 pa, .int .i64 pv, .int .i64 pn, .slice b1 p1 d1, .slice b2 p2 d2, .slice b3 p3 d3, .int .i64 sv] 34) (.slice (some ⟨V0.heap.size, 0, none⟩) 1 1) (by go_simp; (try rfl)) ?_
  have hb := below1 V0 (.cells #[.int .i64 vw, .int .i64 pa, .int .i64 pv, .int .i64 pn, .slice b1 p1 d1, .slice b2 p2 d2, .slice b3 p3 d3, .int .i64 sv] 34)
  have hR : RdBs (V0.alloc (.cells #[.int .i64 vw, .int .i64 pa, .int .i64 pv, .int .i64 pn, .slice b1 p1 d1, .slice b2 p2 d2, .slice b3 p3 d3, .int .i64 sv] 34)) (.slice (some ⟨V0.heap.size, 0, none⟩) 1 1) [⟨⟨vw, pa, ⟨pv, pn, ps, pt⟩, mo, sv⟩, .slice b1 p1 d1, .slice b2 p2 d2, .slice b3 p3 d3⟩] := rdBs_one _ _ _
  replace hA := hA.next hb
  replace hmp := (hb.block _ (Array.getElem?_eq_some_iff.1 hmp).1).trans hmp
  replace hx := hx.below hb
  replace hY := hY.below hb
  replace hN := Nat.le_trans hN hb.size
  replace hbl := hbl.trans (hb.mono hbl.size)
  clear hb hS
  refine hK.out _ _ trivial (fun hS => ?_)
  clear hK K
  try simp only [List.setIfInBounds_toArray, List.set_cons_zero, List.set_cons_succ]
  revert hS
  revert hR
  revert hbl
  revert hN
  revert hY
  revert hx
  revert hmp
  revert hA
  generalize V0.alloc (.cells #[.int .i64 vw, .int .i64 pa, .int .i64 pv, .int .i64 pn, .slice b1 p1 d1, .slice b2 p2 d2, .slice b3 p3 d3, .int .i64 sv] 34) = V1
  generalize V0.heap.size = q
  intro hA hmp hx hY hN hbl hR hS
  clear hS
  refine listed_asV (l' := #[true, true, true, true, true, false, true, true, true, false, false, false, false, false]) (by kernel_rfl) ?_
  revert hR
  revert hNb
  revert hNl
  revert hN
  revert hY
  revert hbl
  revert hA
  revert hx
  revert hmp
  revert q
  revert d3
  revert p3
  revert b3
  revert d2
  revert p2
  revert b2
  revert d1
  revert p1
  revert b1
  revert N
  revert V1
  clear V0
  refine ?ad678
  rotate_left 1
  intro V0 N b1 p1 d1 b2 p2 d2 b3 p3 d3 hmp hx hA hbl hY hN hNl hNb
  have hS : (fun _ : World => True) V0 := trivial
  refine wpAnyH_ready (rs := [8]) (by kernel_rfl) (by simp) ?_
  refine AllReadyH.cons rfl (fun K hK => ?_) AllReadyH.nil
  refine step_objX rfl 46 rfl (.cells #[.int .i64 vw, .int .i64 pa, .int .i64 pv, .int .i64 pn, .slice b1 p1 d1, .slice b2 p2 d2, .slice b3 p3 d3, .int .i64 sv] 34) (.slice (some ⟨V0.heap.size, 0, none⟩) 1 1) (by go_simp; (try rfl)) ?_
  have hb := below1 V0 (.cells #[.int .i64 vw, .int .i64 pa, .int .i64 pv, .int .i64 pn, .slice b1 p1 d1, .slice b2 p2 d2, .slice b3 p3 d3, .int .i64 sv] 34)
  have hR : RdBs (V0.alloc (.cells #[.int .i64 vw, .int .i64 pa, .int .i64 pv, .int .i64 pn, .slice b1 p1 d1, .slice b2 p2 d2, .slice b3 p3 d3, .int .i64 sv] 34)) (.slice (some ⟨V0.heap.size, 0, none⟩) 1 1) [⟨⟨vw, pa, ⟨pv, pn, ps, pt⟩, mo, sv⟩, .slice b1 p1 d1, .slice b2 p2 d2, .slice b3 p3 d3⟩] := rdBs_one _ _ _
  replace hA := hA.next hb
  replace hmp := (hb.block _ (Array.getElem?_eq_some_iff.1 hmp).1).trans hmp
  replace hx := hx.below hb
  replace hY := hY.below hb
  replace hN := Nat.le_trans hN hb.size
  replace hbl := hbl.trans (hb.mono hbl.size)
  clear hb hS
  refine hK.out _ _ trivial (fun hS => ?_)
  clear hK K
  try simp only [List.setIfInBounds_toArray, List.set_cons_zero, List.set_cons_succ]
  revert hS
  revert hR
  revert hbl
  revert hN
  revert hY
  revert hx
  revert hmp
  revert hA
  generalize V0.alloc (.cells #[.int .i64 vw, .int .i64 pa, .int .i64 pv, .int .i64 pn, .slice b1 p1 d1, .slice b2 p2 d2, .slice b3 p3 d3, .int .i64 sv] 34) = V1
  generalize V0.heap.size = q
  intro hA hmp hx hY hN hbl hR hS
  clear hS
  refine listed_asV (l' := #[true, true, true, true, true, true, true, true, true, false, false, false, false, false]) (by kernel_rfl) ?_
  revert hR
  revert hNb
  revert hNl
  revert hN
  revert hY
  revert hbl
  revert hA
  revert hx
  revert hmp
  revert q
  revert d3
  revert p3
  revert b3
  revert d2
  revert p2
  revert b2
  revert d1
  revert p1
  revert b1
  revert N
  revert V1
  clear V0
  refine ?ad5678
  rotate_left 1
  intro V0 N b1 p1 d1 b2 p2 d2 b3 p3 d3 q hmp hx hA hbl hY hN hNl hNb hR
  have hS : (fun _ : World => True) V0 := trivial
  refine wpAnyH_ready (rs := [5]) (by kernel_rfl) (by simp) ?_
  refine AllReadyH.cons rfl (fun K hK => ?_) AllReadyH.nil
  have c10 : V0.cell? ⟨g, 10, none⟩ = some (.slice ab bn cb) := by have c := (hA.box.c17).2.2.2.2.2.2.2.2.2.2.1; rw [HVB.out] at c; exact c
  go_simp
  clear c10 hS
  refine hK.out _ _ trivial (fun hS => ?_)
  clear hK K
  try simp only [List.setIfInBounds_toArray, List.set_cons_zero, List.set_cons_succ]
  clear hS
  refine listed_asV (l' := #[true, true, true, true, true, true, true, true, true, false, false, false, false, false]) (by kernel_rfl) ?_
  revert hR
  revert hNb
  revert hNl
  revert hN
  revert hY
  revert hbl
  revert hA
  revert hx
  revert hmp
  revert q
  revert d3
  revert p3
  revert b3
  revert d2
  revert p2
  revert b2
  revert d1
  revert p1
  revert b1
  revert N
  revert V0
  exact ?ad5678
  intro V0 N b1 p1 d1 b2 p2 d2 b3 p3 d3 q hmp hx hA hbl hY hN hNl hNb hR
  have hS : (fun _ : World => True) V0 := trivial
  refine wpAnyH_ready (rs := [9]) (by kernel_rfl) (by simp) ?_
  refine AllReadyH.cons rfl (fun K hK => ?_) AllReadyH.nil
  have HBR : Hid (OwnBs V0 w0.heap.size (.slice ab bn cb) V.X.bs) := by have h := hA.bl; rw [HVB.out] at h; exact h
  refine step_append_blocks rfl 47 rfl _ _ rfl w0.heap.size (.slice ab bn cb) (.slice (some ⟨q, 0, none⟩) 1 1) V.X.bs [⟨⟨vw, pa, ⟨pv, pn, ps, pt⟩, mo, sv⟩, .slice b1 p1 d1, .slice b2 p2 d2, .slice b3 p3 d3⟩] rfl rfl HBR.out hR (fun X hX => by rw [List.mem_singleton.1 hX]; exact ⟨rfl, rfl, rfl⟩) (by have := hA.len; simp; omega) hA.bel.size ?_
  intro v' V1 hB3 hgr
  have HT : Touch (oneB (.slice ab bn cb)) V0 V1 := Touch.of_grown hgr (fun k hk => mem_oneB.2 hk)
  have hoff : ∀ {B t s n : Nat} {u : Value} {xs : List Value}, V0.ownsRow B t s u n xs → 34 ≠ t → ∀ k, u.ownBlock = some k → k ∉ oneB (.slice ab bn cb) := fun hr ht k hk e => rows_apart HBR.out hr ht k (mem_oneB.1 e) hk
  have hI3 : InOB V1 w0.heap.size V.X.bs := fun X hX => (hA.ib X hX).touch HT (fun k hk => by
    have hx9 := hA.ib X hX
    rcases List.mem_append.1 hk with hk | hk
    · rcases List.mem_append.1 hk with hk | hk
      · exact hoff hx9.pr.sv (by decide) k (mem_oneB.1 hk)
      · exact hoff hx9.pr.tg (by decide) k (mem_oneB.1 hk)
    · exact hoff hx9.mo (by decide) k (mem_oneB.1 hk))
  have hM3 := HT.row hA.nm (hoff hA.nm (by decide))
  have hgn : ∀ k ∈ oneB (.slice ab bn cb), g ≠ k := fun k hk => hA.box.row HBR.out (by decide) k (mem_oneB.1 hk)
  have hwn : ∀ k ∈ oneB (.slice ab bn cb), w0.heap.size ≤ k := fun k hk => (World.ownsRow.lt HBR.out k (mem_oneB.1 hk)).1
  have hbx := hA.box.of_block (HT.block _ hA.lt (fun e => hgn _ e rfl))
  have hmn : V.mb ∉ oneB (.slice ab bn cb) := fun e => row_no_map HBR.out (mem_oneB.1 e) hmp
  replace hmp := (HT.block _ (Array.getElem?_eq_some_iff.1 hmp).1 hmn).trans hmp
  replace hY := hY.touch HT (fun k hk => by
    rcases List.mem_append.1 hk with hk | hk
    · rcases List.mem_append.1 hk with hk | hk
      · exact hoff hY.pr.sv (by decide) k (mem_oneB.1 hk)
      · exact hoff hY.pr.tg (by decide) k (mem_oneB.1 hk)
    · exact hoff hY.mo (by decide) k (mem_oneB.1 hk))
  have hxn : W.heap.size ∉ oneB (.slice ab bn cb) := HXN.out
  replace hx := hx.of_block (HT.block _ hx.lt hxn)
  replace hN := Nat.le_trans hN HT.size
  have hbw := HT.below hA.bel hwn
  have hTT : Touch (oneB (.slice ab bn cb)) W7 V1 := (Touch.of_below hbl).trans HT
  have e9 : ∃ a c, v' = .slice a (bn + 1) c := by obtain ⟨a, c, h⟩ := ownSlX hB3; rw [List.length_append, ← HBN.out] at h; exact ⟨a, c, h⟩
  obtain ⟨x1, z1, e9⟩ := e9
  subst e9
  clear hA hR hbl HBR HT hoff hgr hgn hwn hmn hxn hS
  refine hK.out _ _ trivial (fun hS => ?_)
  clear hK K
  try simp only [List.setIfInBounds_toArray, List.set_cons_zero, List.set_cons_succ]
  refine tkG 10 48 hS ?_
  try simp only [Act.put, List.setIfInBounds_toArray, List.set_cons_zero, List.set_cons_succ]
  refine tkG 11 49 hS ?_
  try simp only [Act.put, List.setIfInBounds_toArray, List.set_cons_zero, List.set_cons_succ]
  refine tkG 12 50 hS ?_
  try simp only [Act.put, List.setIfInBounds_toArray, List.set_cons_zero, List.set_cons_succ]
  clear hS
  refine listed_asV (l' := #[true, true, true, true, true, true, true, true, true, true, true, true, true, false]) (by kernel_rfl) ?_
  revert hTT
  revert hbw
  revert hbx
  revert hM3
  revert hI3
  revert hB3
  revert hNb
  revert hNl
  revert hN
  revert hY
  revert hx
  revert hmp
  revert z1
  revert x1
  revert d3
  revert p3
  revert b3
  revert d2
  revert p2
  revert b2
  revert d1
  revert p1
  revert b1
  revert N
  revert V1
  clear V0
  refine ?ad56789
  rotate_left 1
  intro V0 N b1 p1 d1 b2 p2 d2 b3 p3 d3 x1 z1 hmp hx hY hN hNl hNb hB3 hI3 hM3 hbx hbw hTT
  have hS : (fun _ : World => True) V0 := trivial
  refine wpAnyH_ready (rs := [13]) (by kernel_rfl) (by simp) ?_
  refine AllReadyH.cons rfl (fun K hK => ?_) AllReadyH.nil
  obtain ⟨r0, r1, r2, r3, r4, r5, r6, r7, r8, r9, r10, r11, r12, r13, r14, r15, r16⟩ := hbx.c17
  have rf := hbx.fz 10
  go_simp
  clear r0 r1 r2 r3 r4 r5 r6 r7 r8 r9 r10 r11 r12 r13 r14 r15 r16 rf hS
  have HT : Touch [g] V0 (V0.setCell ⟨g, 10, none⟩ (.slice x1 (bn + 1) z1)) := Touch.set (List.mem_singleton.2 rfl)
  have hgt : ∀ {B t s n : Nat} {u : Value} {xs : List Value}, V0.ownsRow B t s u n xs → 123 ≠ t → ∀ k, u.ownBlock = some k → k ∉ [g] := fun hr ht k hk e => by
    rw [List.mem_singleton.1 e] at hk
    exact hbx.row hr (fun e => ht e.symm) g hk rfl
  have hblk : ∀ {B : Nat} {X : BlX}, OwnBl V0 B X → ∀ k ∈ blB X, k ∉ [g] := fun hX k hk => by
    rcases List.mem_append.1 hk with hk | hk
    · rcases List.mem_append.1 hk with hk | hk
      · exact hgt hX.pr.sv (by decide) k (mem_oneB.1 hk)
      · exact hgt hX.pr.tg (by decide) k (mem_oneB.1 hk)
    · exact hgt hX.mo (by decide) k (mem_oneB.1 hk)
  replace hB3 := HT.row hB3 (hgt hB3 (by decide))
  replace hI3 : InOB (V0.setCell ⟨g, 10, none⟩ (.slice x1 (bn + 1) z1)) w0.heap.size V.X.bs := fun X hX => (hI3 X hX).touch HT (hblk (hI3 X hX))
  replace hM3 := HT.row hM3 (hgt hM3 (by decide))
  replace hmp := (HT.block _ (Array.getElem?_eq_some_iff.1 hmp).1 (fun e => by rw [List.mem_singleton.1 e] at hmp; unfold Bx at hbx; rw [hbx] at hmp; cases hmp)).trans hmp
  replace hY := hY.touch HT (hblk hY)
  replace hx := hx.of_block (HT.block _ hx.lt (fun e => HGW.out (List.mem_singleton.1 e).symm))
  replace hN := Nat.le_trans hN HT.size
  replace hbw := HT.below hbw (fun k hk => by rw [List.mem_singleton.1 hk]; exact HGE.out)
  replace hTT : Touch (g :: oneB (.slice ab bn cb)) W7 (V0.setCell ⟨g, 10, none⟩ (.slice x1 (bn + 1) z1)) := (hTT.more (fun k hk => List.mem_cons_of_mem _ hk)).trans (HT.more (fun k hk => by rw [List.mem_singleton.1 hk]; exact List.mem_cons_self))
  replace hbx : Bx (V0.setCell ⟨g, 10, none⟩ (.slice x1 (bn + 1) z1)) g 123 #[.int .i64 V.X.idn, .int .i64 V.X.n, .int .i64 V.X.vw, .int .i64 V.X.vo, .int .i64 V.X.lo, .int .i64 V.X.pr, .int .i64 V.X.hi.p.vw, .int .i64 V.X.hi.p.nm, V.X.hi.vs, V.X.hi.vt, .slice x1 (bn + 1) z1, V.X.vv, V.X.vn, V.X.vd, V.vnm, .map (some V.mb), V.vst] := hbx.set 10 (.slice x1 (bn + 1) z1)
  clear HT hgt hblk
  refine hK.out _ _ trivial (fun hS => ?_)
  clear hK K
  try simp only [List.setIfInBounds_toArray, List.set_cons_zero, List.set_cons_succ]
  revert hS
  revert hTT
  revert hbw
  revert hN
  revert hx
  revert hY
  revert hmp
  revert hM3
  revert hI3
  revert hB3
  revert hbx
  generalize V0.setCell ⟨g, 10, none⟩ (.slice x1 (bn + 1) z1) = V1
  intro hbx hB3 hI3 hM3 hmp hY hx hN hbw hTT hS
  clear hS
  refine listed_asV (l' := #[true, true, true, true, true, true, true, true, true, true, true, true, true, true]) (by kernel_rfl) ?_
  revert hTT
  revert hbw
  revert hbx
  revert hM3
  revert hI3
  revert hB3
  revert hNb
  revert hNl
  revert hN
  revert hY
  revert hx
  revert hmp
  revert z1
  revert x1
  revert d3
  revert p3
  revert b3
  revert d2
  revert p2
  revert b2
  revert d1
  revert p1
  revert b1
  revert N
  revert V1
  clear V0
  refine ?ad5678913
  rotate_left 1
  intro V0 N b1 p1 d1 b2 p2 d2 b3 p3 d3 x1 z1 hmp hx hY hN hNl hNb hB3 hI3 hM3 hbx hbw hTT
  have hS : (fun _ : World => True) V0 := trivial
  refine wpAnyH_done (by kernel_rfl) ?_ _
  refine NoPanic.normal ?_
  clear hS
  obtain ⟨av, cv, hvn⟩ : ∃ a c, V.vnm = .slice a (vtN V).length c := ownSlX hM3
  obtain ⟨kl, hkl⟩ : ∃ k, k = (vtN V).length := ⟨_, rfl⟩
  have HLN : Hid ((vtN V).length ≤ 60) := by have := HH.out.len; unfold Hid vtN; simp; exact this
  have HVN : Hid (V.vnm = .slice av kl cv) := by unfold Hid; rw [hkl]; exact hvn
  have HKL : Hid (kl = (vtN V).length) := hkl
  rw [HVN.out] at hM3 hbx
  clear hvn hkl
  have hbA := below1 V0 (.cells #[.int .i64 nm] 2)
  have hOn : OwnI _ w0.heap.size (.slice av kl cv) (vtN V) := own_below hM3 hbA
  have hsA : (V0.alloc (.cells #[.int .i64 nm] 2)).heap.size = V0.heap.size + 1 := by simp
  obtain ⟨-, -, -, -, -, -, -, -, -, -, -, -, -, -, r14, -, -⟩ := (hbx.below hbA).c17
  obtain ⟨-, -, -, -, -, -, -, -, -, -, -, -, -, -, r14', -, -⟩ := hbx.c17
  go_wp2_with (at_builtin; (refine wpList_intsX rfl _ _ rfl w0.heap.size (.slice av kl cv) (.slice (some ⟨V0.heap.size, 0, none⟩) 1 1) (vtN V) [nm] rfl rfl hOn (rdI_one V0 nm) (by have := HLN.out; simp; omega) (Nat.le_trans hbw.size hbA.size) ?_))
  intro u V2 hM5 hgr hat
  have HT5 : Touch (oneB (.slice av kl cv)) V0 V2 := (Touch.of_below hbA).trans (Touch.of_grown hgr (fun k hk => mem_oneB.2 hk))
  have e9 : ∃ a c, u = .slice a (kl + 1) c := by obtain ⟨a, c, h⟩ := ownSlX hM5; rw [List.length_append, ← HKL.out] at h; exact ⟨a, c, h⟩
  obtain ⟨au, cu, e9⟩ := e9
  subst e9
  have hoffI : ∀ k ∈ bblks V.X.bs, k ∉ oneB (.slice av kl cv) := fun k hk e => by
    have hn := HH.out.nod
    rw [HVN.out, List.nodup_append] at hn
    exact hn.2.2 k hk k e rfl
  have hoffY : ∀ k ∈ blB ⟨⟨vw, pa, ⟨pv, pn, ps, pt⟩, mo, sv⟩, .slice b1 p1 d1, .slice b2 p2 d2, .slice b3 p3 d3⟩, k ∉ oneB (.slice av kl cv) := fun k hk e => by
    have h1 := (hY.bound hk).1
    have h2 := hNl.out.2.2.2 k (List.mem_append_right _ (by rw [HVN.out]; exact e))
    omega
  have hoffT : ∀ {B t s n : Nat} {u : Value} {xs : List Value}, V0.ownsRow B t s u n xs → 2 ≠ t → ∀ k, u.ownBlock = some k → k ∉ oneB (.slice av kl cv) := fun hr ht k hk e => rows_apart hM3 hr ht k (mem_oneB.1 e) hk
  have hgn : g ∉ oneB (.slice av kl cv) := fun e => hbx.row hM3 (by decide) g (mem_oneB.1 e) rfl
  have hxn : W.heap.size ∉ oneB (.slice av kl cv) := fun e => hx.row hM3 (by decide) _ (mem_oneB.1 e) rfl
  have hmn : V.mb ∉ oneB (.slice av kl cv) := fun e => row_no_map hM3 (mem_oneB.1 e) hmp
  have hwn : ∀ k ∈ oneB (.slice av kl cv), w0.heap.size ≤ k := fun k hk => (World.ownsRow.lt hM3 k (mem_oneB.1 hk)).1
  have hNOD : Hid ((bblks (V.X.bs ++ [⟨⟨vw, pa, ⟨pv, pn, ps, pt⟩, mo, sv⟩, .slice b1 p1 d1, .slice b2 p2 d2, .slice b3 p3 d3⟩]) ++ oneB (.slice au (kl + 1) cu)).Nodup) := by
    have hn := HH.out.nod
    rw [HVN.out, List.nodup_append] at hn
    unfold Hid
    rw [bblks_push, List.append_assoc, List.nodup_append, List.nodup_append]
    have hub : ∀ k ∈ oneB (.slice au (kl + 1) cu), k ∈ oneB (.slice av kl cv) ∨ k = V0.heap.size + 1 := fun k hk => by
      rcases hat with h1 | h1
      · left; exact mem_oneB.2 (h1 ▸ mem_oneB.1 hk)
      · right; have h2 := mem_oneB.1 hk; rw [h1] at h2; have := Option.some.inj h2; omega
    refine ⟨hn.1, ⟨hY.nod, oneBN _, fun a ha b hb e => ?_⟩, fun a ha b hb e => ?_⟩
    · subst e
      rcases hub a hb with h1 | h1
      · exact hoffY a ha h1
      · have := (hY.bound ha).2; omega
    · subst e
      have h1 := hNl.out.2.2.2 a (List.mem_append_left _ ha)
      rcases List.mem_append.1 hb with hb | hb
      · have := (hY.bound hb).1; omega
      · rcases hub a hb with h2 | h2
        · exact hoffI a ha h2
        · omega
  replace hB3 := HT5.row hB3 (hoffT hB3 (by decide))
  replace hI3 := hI3.touch HT5 hoffI
  replace hY := hY.touch HT5 hoffY
  replace hbx := hbx.of_block (HT5.block _ hbx.lt hgn)
  replace hmp := (HT5.block _ (Array.getElem?_eq_some_iff.1 hmp).1 hmn).trans hmp
  replace hx := hx.of_block (HT5.block _ hx.lt hxn)
  replace hbw := HT5.below hbw hwn
  replace hTT : Touch (g :: V.mb :: (oneB (.slice ab bn cb) ++ oneB (.slice av kl cv))) W7 V2 := (hTT.more (fun k hk => by
    rcases List.mem_cons.1 hk with rfl | hk
    · exact List.mem_cons_self
    · exact List.mem_cons_of_mem _ (List.mem_cons_of_mem _ (List.mem_append_left _ hk)))).trans (HT5.more (fun k hk => List.mem_cons_of_mem _ (List.mem_cons_of_mem _ (List.mem_append_right _ hk))))
  clear HT5 hoffI hoffY hoffT hgn hxn hmn hwn hgr hat hM3 hOn hbA hsA r14 r14'
  obtain ⟨s0, s1, s2, s3, s4, s5, s6, s7, s8, s9, s10, s11, s12, s13, s14, s15, s16⟩ := hbx.c17
  have sf := hbx.fz 14
  have HT : Touch [g] V2 (V2.setCell ⟨g, 14, none⟩ (.slice au (kl + 1) cu)) := Touch.set (List.mem_singleton.2 rfl)
  have hgt : ∀ {B t s n : Nat} {u : Value} {xs : List Value}, V2.ownsRow B t s u n xs → 123 ≠ t → ∀ k, u.ownBlock = some k → k ∉ [g] := fun hr ht k hk e => by
    rw [List.mem_singleton.1 e] at hk
    exact hbx.row hr (fun e => ht e.symm) g hk rfl
  have hblk : ∀ {B : Nat} {X : BlX}, OwnBl V2 B X → ∀ k ∈ blB X, k ∉ [g] := fun hX k hk => by
    rcases List.mem_append.1 hk with hk | hk
    · rcases List.mem_append.1 hk with hk | hk
      · exact hgt hX.pr.sv (by decide) k (mem_oneB.1 hk)
      · exact hgt hX.pr.tg (by decide) k (mem_oneB.1 hk)
    · exact hgt hX.mo (by decide) k (mem_oneB.1 hk)
  replace hB3 := HT.row hB3 (hgt hB3 (by decide))
  replace hI3 : InOB (V2.setCell ⟨g, 14, none⟩ (.slice au (kl + 1) cu)) w0.heap.size V.X.bs := fun X hX => (hI3 X hX).touch HT (hblk (hI3 X hX))
  replace hM5 := HT.row hM5 (hgt hM5 (by decide))
  replace hmp := (HT.block _ (Array.getElem?_eq_some_iff.1 hmp).1 (fun e => by rw [List.mem_singleton.1 e] at hmp; unfold Bx at hbx; rw [hbx] at hmp; cases hmp)).trans hmp
  replace hY := hY.touch HT (hblk hY)
  replace hx := hx.of_block (HT.block _ hx.lt (fun e => HGW.out (List.mem_singleton.1 e).symm))
  replace hbw := HT.below hbw (fun k hk => by rw [List.mem_singleton.1 hk]; exact HGE.out)
  replace hTT := hTT.trans (HT.more (fun k hk => by rw [List.mem_singleton.1 hk]; exact List.mem_cons_self))
  replace hbx : Bx (V2.setCell ⟨g, 14, none⟩ (.slice au (kl + 1) cu)) g 123 #[.int .i64 V.X.idn, .int .i64 V.X.n, .int .i64 V.X.vw, .int .i64 V.X.vo, .int .i64 V.X.lo, .int .i64 V.X.pr, .int .i64 V.X.hi.p.vw, .int .i64 V.X.hi.p.nm, V.X.hi.vs, V.X.hi.vt, .slice x1 (bn + 1) z1, V.X.vv, V.X.vn, V.X.vd, .slice au (kl + 1) cu, .map (some V.mb), V.vst] := hbx.set 14 (.slice au (kl + 1) cu)
  have v15 : (V2.setCell ⟨g, 14, none⟩ (.slice au (kl + 1) cu)).drew.cell? ⟨g, 15, none⟩ = some (.map (some V.mb)) := hbx.c17.2.2.2.2.2.2.2.2.2.2.2.2.2.2.2.1
  clear HT hgt hblk
  go_wp2_with fail
  clear s0 s1 s2 s3 s4 s5 s6 s7 s8 s9 s10 s11 s12 s13 s14 s15 s16 sf
  obtain ⟨es', V4, hrun, hmp4, hmr4, HT4⟩ := put_any HMR.out HH.out.fitM ⟨⟨vw, pa, ⟨pv, pn, ps, pt⟩, mo, sv⟩, .slice a1 m1 k1, .slice a2 m2 k2, .slice a3 m3 k3⟩ HFM.out.1.vw (fun M' hM' e => by
    have h1 : M'.b ∈ V.X.bs.map (·.b) := by rw [← HH.out.eqb]; exact List.mem_map.2 ⟨M', hM', rfl⟩
    obtain ⟨X, hX, hXb⟩ := List.mem_map.1 h1
    exact HNI.out (by rw [HNA.out]; exact List.mem_map.2 ⟨X, hX, by rw [hXb]; exact e⟩)) (V2.setCell ⟨g, 14, none⟩ (.slice au (kl + 1) cu)).drew V.mb c hmp
  have HRUN : Hid ((Instr.mapUpdate 121 (.map (some V.mb)) (.agg #[.int .i64 vw, .int .i64 nm]) (.agg #[.int .i64 vw, .int .i64 pa, .int .i64 pv, .int .i64 pn, .slice a1 m1 k1, .slice a2 m2 k2, .slice a3 m3 k3, .int .i64 sv])).run Tryz.prog (V2.setCell ⟨g, 14, none⟩ (.slice au (kl + 1) cu)).drew = .ok () V4) := by unfold Hid; rw [HNA.out]; exact hrun
  clear hrun
  generalize hV3 : V2.setCell ⟨g, 14, none⟩ (.slice au (kl + 1) cu) = V3 at *
  clear hV3
  have hgm : g ∉ [V.mb] := fun e => by rw [← List.mem_singleton.1 e] at hmp; unfold Bx at hbx; rw [hbx] at hmp; cases hmp
  have hxm : W.heap.size ∉ [V.mb] := fun e => by rw [← List.mem_singleton.1 e] at hmp; unfold Bx at hx; rw [hx] at hmp; cases hmp
  have hrm : ∀ {B t s n : Nat} {u : Value} {xs : List Value}, V3.ownsRow B t s u n xs → ∀ k, u.ownBlock = some k → k ∉ [V.mb] := fun hr k hk e => by
    rw [List.mem_singleton.1 e] at hk
    exact row_no_map hr hk hmp
  have hbm : ∀ {B : Nat} {X : BlX}, OwnBl V3 B X → ∀ k ∈ blB X, k ∉ [V.mb] := fun hX k hk => by
    rcases List.mem_append.1 hk with hk | hk
    · rcases List.mem_append.1 hk with hk | hk
      · exact hrm hX.pr.sv k (mem_oneB.1 hk)
      · exact hrm hX.pr.tg k (mem_oneB.1 hk)
    · exact hrm hX.mo k (mem_oneB.1 hk)
  have hd : Below V3.heap.size V3 V3.drew := (Below.refl _ _).drew
  have x4 := (hx.below hd).of_block (HT4.block _ (hx.below hd).lt hxm)
  have bx4 := (hbx.below hd).of_block (HT4.block _ (hbx.below hd).lt hgm)
  have HS8 : Hid ((V4.cell? ⟨W.heap.size, 0, none⟩ = some (.int .i64 vw) ∧ V4.cell? ⟨W.heap.size, 1, none⟩ = some (.int .i64 pa) ∧ V4.cell? ⟨W.heap.size, 2, none⟩ = some (.int .i64 pv) ∧ V4.cell? ⟨W.heap.size, 3, none⟩ = some (.int .i64 pn) ∧ V4.cell? ⟨W.heap.size, 4, none⟩ = some (.slice a1 m1 k1) ∧ V4.cell? ⟨W.heap.size, 5, none⟩ = some (.slice a2 m2 k2) ∧ V4.cell? ⟨W.heap.size, 6, none⟩ = some (.slice a3 m3 k3) ∧ V4.cell? ⟨W.heap.size, 7, none⟩ = some (.int .i64 sv)) ∧ V4.cell? ⟨g, 15, none⟩ = some (.map (some V.mb))) := ⟨x4.c8, bx4.c17.2.2.2.2.2.2.2.2.2.2.2.2.2.2.2.1⟩
  have HEND : Hid (∃ v Y u, Y.b = ⟨vw, pa, ⟨pv, pn, ps, pt⟩, mo, sv⟩ ∧ VtA w0 V4 g (V.plus v Y u ⟨⟨vw, pa, ⟨pv, pn, ps, pt⟩, mo, sv⟩, .slice a1 m1 k1, .slice a2 m2 k2, .slice a3 m3 k3⟩) ∧ Touch (g :: V.mb :: (oneB V.X.vb ++ oneB V.vnm)) W V4) := by
    have hW7 : Below W.heap.size W W7 := hbl0
    have hi4 : InOB V4 w0.heap.size V.X.bs := fun X hX => ((hI3 X hX).below hd).touch HT4 (hbm (hI3 X hX))
    have hy4 : OwnBl V4 w0.heap.size ⟨⟨vw, pa, ⟨pv, pn, ps, pt⟩, mo, sv⟩, .slice b1 p1 d1, .slice b2 p2 d2, .slice b3 p3 d3⟩ := ((hY.below hd).touch HT4 (hbm hY)).mono hNb
    refine ⟨.slice x1 (bn + 1) z1, ⟨⟨vw, pa, ⟨pv, pn, ps, pt⟩, mo, sv⟩, .slice b1 p1 d1, .slice b2 p2 d2, .slice b3 p3 d3⟩, .slice au (kl + 1) cu, rfl, ?_, ?_⟩
    · refine ⟨HT4.below (hbw.drew) (fun k hk => by rw [List.mem_singleton.1 hk]; exact HH.out.mge), HGE.out, HH.out.mge, bx4, HT4.row (own_below hB3 hd) (hrm hB3), fun X hX => ?_, ?_, hNOD.out, ⟨es', c + 1, hmp4, hmr4⟩, fun X hX => ?_, ?_, ?_, fun X hX => ?_, fun X hX => ?_, ?_⟩
      · rcases List.mem_append.1 hX with hX | hX
        · exact hi4 X hX
        · rw [List.mem_singleton.1 hX]; exact hy4
      · have h1 := HT4.row (own_below hM5 hd) (hrm hM5)
        have e1 : vtN (V.plus (.slice x1 (bn + 1) z1) ⟨⟨vw, pa, ⟨pv, pn, ps, pt⟩, mo, sv⟩, .slice b1 p1 d1, .slice b2 p2 d2, .slice b3 p3 d3⟩ (.slice au (kl + 1) cu) ⟨⟨vw, pa, ⟨pv, pn, ps, pt⟩, mo, sv⟩, .slice a1 m1 k1, .slice a2 m2 k2, .slice a3 m3 k3⟩) = vtN V ++ [nm] := by
          rw [HNA.out]; simp [vtN, Vt.plus]
        rw [e1]
        exact h1
      · rcases List.mem_append.1 hX with hX | hX
        · exact HH.out.im X hX
        · rw [List.mem_singleton.1 hX]; exact HM0.out
      · simp [Vt.plus, HH.out.eqb]
      · have e1 : vtN (V.plus (.slice x1 (bn + 1) z1) ⟨⟨vw, pa, ⟨pv, pn, ps, pt⟩, mo, sv⟩, .slice b1 p1 d1, .slice b2 p2 d2, .slice b3 p3 d3⟩ (.slice au (kl + 1) cu) ⟨⟨vw, pa, ⟨pv, pn, ps, pt⟩, mo, sv⟩, .slice a1 m1 k1, .slice a2 m2 k2, .slice a3 m3 k3⟩) = vtN V ++ [nm] := by
          rw [HNA.out]; simp [vtN, Vt.plus]
        rw [e1, List.nodup_append]
        exact ⟨HH.out.uni, by simp, fun a ha b hb e => by rw [List.mem_singleton.1 hb] at e; subst e; exact HNI.out ha⟩
      · rcases List.mem_append.1 hX with hX | hX
        · exact HH.out.fit X hX
        · rw [List.mem_singleton.1 hX]; exact HFM.out.1
      · rcases List.mem_append.1 hX with hX | hX
        · exact HH.out.sm X hX
        · rw [List.mem_singleton.1 hX]; exact HFM.out.2
      · have := HBN.out
        simp only [Vt.plus, List.length_append, List.length_singleton]
        omega
    · rw [HVB.out, HVN.out]
      exact ((Touch.of_below hW7).trans hTT).trans ((Touch.of_below hd).trans (HT4.more (fun k hk => by rw [List.mem_singleton.1 hk]; exact List.mem_cons_of_mem _ List.mem_cons_self)))
  clear hgm hxm hrm hbm hd x4 bx4 hmp4 hmr4 HT4 hB3 hI3 hM5 hY hbw hTT hNOD hmp hN hNl hNb hbl0
  refine wp_region_noPanic ?_
  refine wp_region_held_drew (S := fun w' => (w'.cell? ⟨W.heap.size, 0, none⟩ = some (.int .i64 vw) ∧ w'.cell? ⟨W.heap.size, 1, none⟩ = some (.int .i64 pa) ∧ w'.cell? ⟨W.heap.size, 2, none⟩ = some (.int .i64 pv) ∧ w'.cell? ⟨W.heap.size, 3, none⟩ = some (.int .i64 pn) ∧ w'.cell? ⟨W.heap.size, 4, none⟩ = some (.slice a1 m1 k1) ∧ w'.cell? ⟨W.heap.size, 5, none⟩ = some (.slice a2 m2 k2) ∧ w'.cell? ⟨W.heap.size, 6, none⟩ = some (.slice a3 m3 k3) ∧ w'.cell? ⟨W.heap.size, 7, none⟩ = some (.int .i64 sv)) ∧ w'.cell? ⟨g, 15, none⟩ = some (.map (some V.mb))) (by kernel_rfl) ⟨(hx.below (Below.refl _ _).drew).c8, v15⟩ (fun h0 => ?_)
  refine tkG 0 61 h0 ?_
  try simp only [Act.put, List.setIfInBounds_toArray, List.set_cons_zero, List.set_cons_succ]
  refine tkG 1 62 h0 ?_
  try simp only [Act.put, List.setIfInBounds_toArray, List.set_cons_zero, List.set_cons_succ]
  refine tkG 2 63 h0 ?_
  try simp only [Act.put, List.setIfInBounds_toArray, List.set_cons_zero, List.set_cons_succ]
  refine tkG 3 64 h0 ?_
  try simp only [Act.put, List.setIfInBounds_toArray, List.set_cons_zero, List.set_cons_succ]
  refine tkG 4 65 h0 ?_
  try simp only [Act.put, List.setIfInBounds_toArray, List.set_cons_zero, List.set_cons_succ]
  refine tkG 5 66 h0 ?_
  try simp only [Act.put, List.setIfInBounds_toArray, List.set_cons_zero, List.set_cons_succ]
  refine tkG 6 67 h0 ?_
  try simp only [Act.put, List.setIfInBounds_toArray, List.set_cons_zero, List.set_cons_succ]
  refine tkG 7 68 h0 ?_
  try simp only [Act.put, List.setIfInBounds_toArray, List.set_cons_zero, List.set_cons_succ]
  refine tkG 8 69 h0 ?_
  try simp only [Act.put, List.setIfInBounds_toArray, List.set_cons_zero, List.set_cons_succ]
  refine wpAnyH_ready (rs := [9]) (by kernel_rfl) (by simp) ?_
  refine AllReadyH.cons rfl (fun K hK => ?_) AllReadyH.nil
  have hrun := HRUN.out
  go_simp
  refine hK.out _ _ (⟨HS8.out.1, HS8.out.2⟩) (fun h1 => ?_)
  clear hK K
  try simp only [Act.put, List.setIfInBounds_toArray, List.set_cons_zero, List.set_cons_succ]
  clear h0
  refine wpAnyH_done (by kernel_rfl) ?_ _
  refine NoPanic.normal ?_
  go_wp2
  go_ret
  obtain ⟨v, Y, u, h1, h2, h3⟩ := HEND.out
  exact ⟨v, Y, u, rfl, h1, h2, h3⟩
end Go.Proofs.YtilhaokiohbeeaaGreatDoor
