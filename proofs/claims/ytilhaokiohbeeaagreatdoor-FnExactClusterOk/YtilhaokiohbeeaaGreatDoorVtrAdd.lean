/- The contract of the program's voter.add, where the Block may not come. -/
import Derived.Test.YtilhaokiohbeeaaGreatDoorG39
import Derived.Test.YtilhaokiohbeeaaGreatDoorG19
import Derived.Test.YtilhaokiohbeeaaGreatDoorG40
-- UNF Gen
namespace Go.Proofs.YtilhaokiohbeeaaGreatDoor
open Go.RowKit
theorem blk_few {b : Blk} {n : Int} (h : blkR b n = true) : b.p.sv.length ≤ 7 ∧ b.p.tg.length ≤ 7 ∧ b.mo.length ≤ 10 := by
  unfold blkR at h
  simp only [Bool.and_eq_true, decide_eq_true_eq] at h
  obtain ⟨-, -, -, hp, -, -, hmo⟩ := h
  have h1 := (shw_prf hp).1
  unfold prB7 at h1
  unfold movesR at hmo
  simp only [Bool.and_eq_true, decide_eq_true_eq] at h1 hmo
  omega
set_option maxHeartbeats 8000000 in
set_option maxRecDepth 100000 in
theorem addV_no {w0 W : World} {g : Nat} {V : Vt} (M : BlX) (h : VtA w0 W g V) (hM : RdBl W M) (hfM : FitBl M.b) (hsm : SmallB M.b) (ht : Tab W) (HNO : (decide (V.X.bs.length < 60) && mayB (bsOf V.X.bs) V.X.n M.b) = false) :
    Calls Tryz.prog 147 #[.pointer (some ⟨g, 0, none⟩), .agg #[.int .i64 M.b.vw, .int .i64 M.b.pa, .int .i64 M.b.p.vw, .int .i64 M.b.p.nm, M.vs, M.vt, M.vm, .int .i64 M.b.sv]] W fun e w' => e = .returned (.bool false) ∧ Below W.heap.size W w' := by
  have hg := h.lt
  have hc1 : W.cell? ⟨g, 1, none⟩ = some (.int .i64 V.X.n) := h.box.c17.2.1
  have hc10 : W.cell? ⟨g, 10, none⟩ = some V.X.vb := h.box.c17.2.2.2.2.2.2.2.2.2.2.1
  have hc14 : W.cell? ⟨g, 14, none⟩ = some V.vnm := h.box.c17.2.2.2.2.2.2.2.2.2.2.2.2.2.2.1
  have hlen := h.len
  obtain ⟨ab, cb, hvb, hlb, hmb, -⟩ := id h.bl.rd
  unfold maxLen at hmb
  obtain ⟨a1, m1, k1, a2, m2, k2, a3, m3, k3, e1, e2, e3⟩ := hM.slices
  obtain ⟨n, hne⟩ : ∃ n, n = V.X.n := ⟨_, rfl⟩
  obtain ⟨bn, hbn⟩ : ∃ k, k = V.X.bs.length := ⟨_, rfl⟩
  have HBN : Hid (bn = V.X.bs.length) := hbn
  have HNE : Hid (n = V.X.n) := hne
  rw [← hbn] at hvb hlb hlen HNO
  rw [hvb] at hc10
  rw [← hne] at hc1 HNO
  obtain ⟨⟨vw, pa, ⟨pv, pn, ps, pt⟩, mo, sv⟩, mvs, mvt, mvm⟩ := M
  simp only at e1 e2 e3 hsm HNO ⊢
  subst e1 e2 e3
  obtain ⟨bo, hbo⟩ : ∃ z, blkR ⟨vw, pa, ⟨pv, pn, ps, pt⟩, mo, sv⟩ n = z := ⟨_, rfl⟩
  obtain ⟨kb, hkb⟩ : ∃ z, knoB (bsOf V.X.bs) ⟨pv, pn, ps, pt⟩ = z := ⟨_, rfl⟩
  have HBO : Hid (∀ W', Below W.heap.size W W' → Calls Tryz.prog 171 #[.agg #[.int .i64 vw, .int .i64 pa, .int .i64 pv, .int .i64 pn, .slice a1 m1 k1, .slice a2 m2 k2, .slice a3 m3 k3, .int .i64 sv], .int .i64 n] W' fun e w' => e = .returned (.bool bo) ∧ Below W'.heap.size W' w') := fun W' hb => by rw [← hbo]; exact implBlockOk_any ⟨⟨vw, pa, ⟨pv, pn, ps, pt⟩, mo, sv⟩, .slice a1 m1 k1, .slice a2 m2 k2, .slice a3 m3 k3⟩ n W' (hM.below hb) hfM (ht.on hb)
  have HKN : Hid (∀ W', Below W.heap.size W W' → Calls Tryz.prog 195 #[.pointer (some ⟨g, 0, none⟩), .agg #[.int .i64 pv, .int .i64 pn, .slice a1 m1 k1, .slice a2 m2 k2]] W' fun e w' => e = .returned (.bool kb) ∧ Below W'.heap.size W' w') := fun W' hb => by rw [← hkb]; exact knowsV_any ⟨⟨pv, pn, ps, pt⟩, .slice a1 m1 k1, .slice a2 m2 k2⟩ (h.next hb) (hM.pr.below hb) hfM.pr
  have HNM : Hid (∀ W', Below W.heap.size W W' → bo = true → Calls Tryz.prog 196 #[.agg #[.int .i64 vw, .int .i64 pa, .int .i64 pv, .int .i64 pn, .slice a1 m1 k1, .slice a2 m2 k2, .slice a3 m3 k3, .int .i64 sv]] W' fun e w' => e = .returned (.int .i64 (namN ⟨vw, pa, ⟨pv, pn, ps, pt⟩, mo, sv⟩)) ∧ Below W'.heap.size W' w') := fun W' hb hy => by rw [← nam_right (hbo.trans hy)]; exact implName_any ⟨⟨vw, pa, ⟨pv, pn, ps, pt⟩, mo, sv⟩, .slice a1 m1 k1, .slice a2 m2 k2, .slice a3 m3 k3⟩ W' (hM.below hb) hsm
  obtain ⟨nm, hnm⟩ : ∃ z, z = namN ⟨vw, pa, ⟨pv, pn, ps, pt⟩, mo, sv⟩ := ⟨_, rfl⟩
  rw [← hnm] at HNM
  obtain ⟨is, his⟩ : ∃ z, decide (nm ∈ vtN V) = z := ⟨_, rfl⟩
  have HCO : Hid (∀ W', Below W.heap.size W W' → Calls Tryz.prog 197 #[V.vnm, .int .i64 nm] W' fun e w' => e = .returned (.bool is) ∧ w' = W') := fun W' hb => by rw [← his]; exact conN_any V.vnm (vtN V) nm W' (h.nm.rd.below hb)
  have hall : (bsOf V.X.bs).all (fun c => decide (namN c ≠ namN ⟨vw, pa, ⟨pv, pn, ps, pt⟩, mo, sv⟩)) = !is := by
    rw [← his, ← hnm, Bool.eq_iff_iff]
    simp only [List.all_eq_true, bsOf, vtN, List.mem_map, decide_eq_true_eq, Bool.not_eq_true', decide_eq_false_iff_not]
    constructor
    · rintro hh ⟨X, hX, e⟩
      exact hh X.b ⟨X, hX, rfl⟩ e
    · rintro hh b ⟨X, hX, rfl⟩ e
      exact hh ⟨X, hX, e⟩
  have HQ : Hid ((decide (bn < 60) && (bo && (kb && !is))) = false) := by
    unfold Hid
    rw [← HNO]
    unfold mayB
    simp only
    rw [hbo, hkb, hall]
  clear hall his hbo hkb hM hfM hsm ht hnm hne hbn HNO h
  have t2 := bx_new W 34 #[.int .i64 vw, .int .i64 pa, .int .i64 pv, .int .i64 pn, .slice a1 m1 k1, .slice a2 m2 k2, .slice a3 m3 k3, .int .i64 sv]
  have b2 := below1 W (.cells #[.int .i64 vw, .int .i64 pa, .int .i64 pv, .int .i64 pn, .slice a1 m1 k1, .slice a2 m2 k2, .slice a3 m3 k3, .int .i64 sv] 34)
  go_enter Tryz.func147, Tryz.ntmps147
  by_cases hfull : bn = 60
  · have hfb : ((bn : Int) == 60) = true := by subst hfull; rfl
    have hfb2 : (bn : Int) = 60 := by omega
    clear hfull
    go_wp2_with fail
    generalize W.alloc (.cells #[.int .i64 vw, .int .i64 pa, .int .i64 pv, .int .i64 pn, .slice a1 m1 k1, .slice a2 m2 k2, .slice a3 m3 k3, .int .i64 sv] 34) = W2 at t2 b2 ⊢
    refine wp_region_noPanic ?_
    refine wp_region_held_drew (S := fun w' => (w'.cell? ⟨W.heap.size, 0, none⟩ = some (.int .i64 vw) ∧ w'.cell? ⟨W.heap.size, 1, none⟩ = some (.int .i64 pa) ∧ w'.cell? ⟨W.heap.size, 2, none⟩ = some (.int .i64 pv) ∧ w'.cell? ⟨W.heap.size, 3, none⟩ = some (.int .i64 pn) ∧ w'.cell? ⟨W.heap.size, 4, none⟩ = some (.slice a1 m1 k1) ∧ w'.cell? ⟨W.heap.size, 5, none⟩ = some (.slice a2 m2 k2) ∧ w'.cell? ⟨W.heap.size, 6, none⟩ = some (.slice a3 m3 k3) ∧ w'.cell? ⟨W.heap.size, 7, none⟩ = some (.int .i64 sv)) ∧ w'.cell? ⟨g, 10, none⟩ = some (.slice ab bn cb) ∧ w'.cell? ⟨g, 1, none⟩ = some (.int .i64 n)) (by kernel_rfl) ⟨(t2.below (Below.refl _ _).drew).c8, (b2.drew.cell (p := ⟨g, 10, none⟩) hg).trans hc10, (b2.drew.cell (p := ⟨g, 1, none⟩) hg).trans hc1⟩ (fun h0 => ?_)
    refine tkG 0 6 h0 ?_
    try simp only [Act.put, List.setIfInBounds_toArray, List.set_cons_zero, List.set_cons_succ]
    refine tkG 1 7 h0 ?_
    try simp only [Act.put, List.setIfInBounds_toArray, List.set_cons_zero, List.set_cons_succ]
    refine tkG 2 8 h0 ?_
    try simp only [Act.put, List.setIfInBounds_toArray, List.set_cons_zero, List.set_cons_succ]
    refine tkG 3 9 h0 ?_
    try simp only [Act.put, List.setIfInBounds_toArray, List.set_cons_zero, List.set_cons_succ]
    refine tkG 4 10 h0 ?_
    try simp only [Act.put, List.setIfInBounds_toArray, List.set_cons_zero, List.set_cons_succ]
    refine tkG 5 11 h0 ?_
    try simp only [Act.put, List.setIfInBounds_toArray, List.set_cons_zero, List.set_cons_succ]
    refine tkG 6 12 h0 ?_
    try simp only [Act.put, List.setIfInBounds_toArray, List.set_cons_zero, List.set_cons_succ]
    refine tkG 7 13 h0 ?_
    try simp only [Act.put, List.setIfInBounds_toArray, List.set_cons_zero, List.set_cons_succ]
    refine tkS 8 14 h0 ?_
    try simp only [Act.put, List.setIfInBounds_toArray, List.set_cons_zero, List.set_cons_succ]
    refine tkS 9 15 h0 ?_
    try simp only [Act.put, List.setIfInBounds_toArray, List.set_cons_zero, List.set_cons_succ]
    refine tkS 10 16 h0 ?_
    try simp only [Act.put, List.setIfInBounds_toArray, List.set_cons_zero, List.set_cons_succ]
    refine tkS 11 17 h0 ?_
    try simp only [Act.put, List.setIfInBounds_toArray, List.set_cons_zero, List.set_cons_succ]
    refine tkS 12 18 h0 ?_
    try simp only [Act.put, List.setIfInBounds_toArray, List.set_cons_zero, List.set_cons_succ]
    refine tkS 13 19 h0 ?_
    try simp only [Act.put, List.setIfInBounds_toArray, List.set_cons_zero, List.set_cons_succ]
    refine tkS 14 20 h0 ?_
    try simp only [Act.put, List.setIfInBounds_toArray, List.set_cons_zero, List.set_cons_succ]
    refine tkS 15 21 h0 ?_
    try simp only [Act.put, List.setIfInBounds_toArray, List.set_cons_zero, List.set_cons_succ]
    refine tkG 16 22 h0 ?_
    try simp only [Act.put, List.setIfInBounds_toArray, List.set_cons_zero, List.set_cons_succ]
    refine tkG 17 23 h0 ?_
    try simp only [Act.put, List.setIfInBounds_toArray, List.set_cons_zero, List.set_cons_succ]
    refine tkS 18 24 h0 ?_
    try simp only [Act.put, List.setIfInBounds_toArray, List.set_cons_zero, List.set_cons_succ]
    refine tkS 19 25 h0 ?_
    try simp only [Act.put, List.setIfInBounds_toArray, List.set_cons_zero, List.set_cons_succ]
    refine tkS 20 26 h0 ?_
    try simp only [Act.put, List.setIfInBounds_toArray, List.set_cons_zero, List.set_cons_succ]
    refine tkS 21 27 h0 ?_
    try simp only [Act.put, List.setIfInBounds_toArray, List.set_cons_zero, List.set_cons_succ]
    refine tkS 22 28 h0 ?_
    try simp only [Act.put, List.setIfInBounds_toArray, List.set_cons_zero, List.set_cons_succ]
    refine tkG 23 29 h0 ?_
    try simp only [Act.put, List.setIfInBounds_toArray, List.set_cons_zero, List.set_cons_succ]
    refine wpAnyH_done (by kernel_rfl) ?_ _
    refine NoPanic.normal ?_
    go_wp2
    go_ret
    exact ⟨rfl, b2.drew⟩
  · have hfb : ((bn : Int) == 60) = false := by simp; omega
    have hlt60 : decide (bn < 60) = true := decide_eq_true (by omega)
    have HQ2 : Hid ((bo && (kb && !is)) = false) := by have := HQ.out; rw [hlt60] at this; exact this
    clear hfull hlt60 HQ
    cases bo with
    | false =>
      go_wp2_with fail
      generalize W.alloc (.cells #[.int .i64 vw, .int .i64 pa, .int .i64 pv, .int .i64 pn, .slice a1 m1 k1, .slice a2 m2 k2, .slice a3 m3 k3, .int .i64 sv] 34) = W2 at t2 b2 ⊢
      refine wp_region_noPanic ?_
      refine wp_region_held_drew (S := fun w' => (w'.cell? ⟨W.heap.size, 0, none⟩ = some (.int .i64 vw) ∧ w'.cell? ⟨W.heap.size, 1, none⟩ = some (.int .i64 pa) ∧ w'.cell? ⟨W.heap.size, 2, none⟩ = some (.int .i64 pv) ∧ w'.cell? ⟨W.heap.size, 3, none⟩ = some (.int .i64 pn) ∧ w'.cell? ⟨W.heap.size, 4, none⟩ = some (.slice a1 m1 k1) ∧ w'.cell? ⟨W.heap.size, 5, none⟩ = some (.slice a2 m2 k2) ∧ w'.cell? ⟨W.heap.size, 6, none⟩ = some (.slice a3 m3 k3) ∧ w'.cell? ⟨W.heap.size, 7, none⟩ = some (.int .i64 sv)) ∧ w'.cell? ⟨g, 10, none⟩ = some (.slice ab bn cb) ∧ w'.cell? ⟨g, 1, none⟩ = some (.int .i64 n)) (by kernel_rfl) ⟨(t2.below (Below.refl _ _).drew).c8, (b2.drew.cell (p := ⟨g, 10, none⟩) hg).trans hc10, (b2.drew.cell (p := ⟨g, 1, none⟩) hg).trans hc1⟩ (fun h0 => ?_)
      refine tkG 0 6 h0 ?_
      try simp only [Act.put, List.setIfInBounds_toArray, List.set_cons_zero, List.set_cons_succ]
      refine tkG 1 7 h0 ?_
      try simp only [Act.put, List.setIfInBounds_toArray, List.set_cons_zero, List.set_cons_succ]
      refine tkG 2 8 h0 ?_
      try simp only [Act.put, List.setIfInBounds_toArray, List.set_cons_zero, List.set_cons_succ]
      refine tkG 3 9 h0 ?_
      try simp only [Act.put, List.setIfInBounds_toArray, List.set_cons_zero, List.set_cons_succ]
      refine tkG 4 10 h0 ?_
      try simp only [Act.put, List.setIfInBounds_toArray, List.set_cons_zero, List.set_cons_succ]
      refine tkG 5 11 h0 ?_
      try simp only [Act.put, List.setIfInBounds_toArray, List.set_cons_zero, List.set_cons_succ]
      refine tkG 6 12 h0 ?_
      try simp only [Act.put, List.setIfInBounds_toArray, List.set_cons_zero, List.set_cons_succ]
      refine tkG 7 13 h0 ?_
      try simp only [Act.put, List.setIfInBounds_toArray, List.set_cons_zero, List.set_cons_succ]
      refine tkG 8 14 h0 ?_
      try simp only [Act.put, List.setIfInBounds_toArray, List.set_cons_zero, List.set_cons_succ]
      refine tkG 9 15 h0 ?_
      try simp only [Act.put, List.setIfInBounds_toArray, List.set_cons_zero, List.set_cons_succ]
      refine tkG 10 16 h0 ?_
      try simp only [Act.put, List.setIfInBounds_toArray, List.set_cons_zero, List.set_cons_succ]
      refine tkG 11 17 h0 ?_
      try simp only [Act.put, List.setIfInBounds_toArray, List.set_cons_zero, List.set_cons_succ]
      refine tkG 12 18 h0 ?_
      try simp only [Act.put, List.setIfInBounds_toArray, List.set_cons_zero, List.set_cons_succ]
      refine tkG 13 19 h0 ?_
      try simp only [Act.put, List.setIfInBounds_toArray, List.set_cons_zero, List.set_cons_succ]
      refine wpAnyH_ready (rs := [14]) (by kernel_rfl) (by simp) ?_
      refine AllReadyH.cons rfl (fun K hK => ?_) AllReadyH.nil
      go_simp
      refine (HBO.out _ b2.drew).mono ?_
      rintro e w5 ⟨rfl, hb5⟩
      have b5 := b2.drew.trans (hb5.mono b2.drew.size)
      have t5 := (t2.below (Below.refl _ _).drew).below hb5
      refine hK.out _ _ (⟨t5.c8, (b5.cell (p := ⟨g, 10, none⟩) hg).trans hc10, (b5.cell (p := ⟨g, 1, none⟩) hg).trans hc1⟩) (fun h1 => ?_)
      clear hK K
      try simp only [Act.put, List.setIfInBounds_toArray, List.set_cons_zero, List.set_cons_succ]
      clear h0
      refine tkG 15 21 h1 ?_
      try simp only [Act.put, List.setIfInBounds_toArray, List.set_cons_zero, List.set_cons_succ]
      refine tkG 16 22 h1 ?_
      try simp only [Act.put, List.setIfInBounds_toArray, List.set_cons_zero, List.set_cons_succ]
      refine tkG 17 23 h1 ?_
      try simp only [Act.put, List.setIfInBounds_toArray, List.set_cons_zero, List.set_cons_succ]
      refine tkS 18 24 h1 ?_
      try simp only [Act.put, List.setIfInBounds_toArray, List.set_cons_zero, List.set_cons_succ]
      refine tkS 19 25 h1 ?_
      try simp only [Act.put, List.setIfInBounds_toArray, List.set_cons_zero, List.set_cons_succ]
      refine tkS 20 26 h1 ?_
      try simp only [Act.put, List.setIfInBounds_toArray, List.set_cons_zero, List.set_cons_succ]
      refine tkS 21 27 h1 ?_
      try simp only [Act.put, List.setIfInBounds_toArray, List.set_cons_zero, List.set_cons_succ]
      refine tkS 22 28 h1 ?_
      try simp only [Act.put, List.setIfInBounds_toArray, List.set_cons_zero, List.set_cons_succ]
      refine tkG 23 29 h1 ?_
      try simp only [Act.put, List.setIfInBounds_toArray, List.set_cons_zero, List.set_cons_succ]
      refine wpAnyH_done (by kernel_rfl) ?_ _
      refine NoPanic.normal ?_
      go_wp2
      go_ret
      exact ⟨rfl, b5⟩
    | true =>
      go_wp2_with fail
      generalize W.alloc (.cells #[.int .i64 vw, .int .i64 pa, .int .i64 pv, .int .i64 pn, .slice a1 m1 k1, .slice a2 m2 k2, .slice a3 m3 k3, .int .i64 sv] 34) = W2 at t2 b2 ⊢
      refine wp_region_noPanic ?_
      refine wp_region_held_drew (S := fun w' => (w'.cell? ⟨W.heap.size, 0, none⟩ = some (.int .i64 vw) ∧ w'.cell? ⟨W.heap.size, 1, none⟩ = some (.int .i64 pa) ∧ w'.cell? ⟨W.heap.size, 2, none⟩ = some (.int .i64 pv) ∧ w'.cell? ⟨W.heap.size, 3, none⟩ = some (.int .i64 pn) ∧ w'.cell? ⟨W.heap.size, 4, none⟩ = some (.slice a1 m1 k1) ∧ w'.cell? ⟨W.heap.size, 5, none⟩ = some (.slice a2 m2 k2) ∧ w'.cell? ⟨W.heap.size, 6, none⟩ = some (.slice a3 m3 k3) ∧ w'.cell? ⟨W.heap.size, 7, none⟩ = some (.int .i64 sv)) ∧ w'.cell? ⟨g, 10, none⟩ = some (.slice ab bn cb) ∧ w'.cell? ⟨g, 1, none⟩ = some (.int .i64 n)) (by kernel_rfl) ⟨(t2.below (Below.refl _ _).drew).c8, (b2.drew.cell (p := ⟨g, 10, none⟩) hg).trans hc10, (b2.drew.cell (p := ⟨g, 1, none⟩) hg).trans hc1⟩ (fun h0 => ?_)
      refine tkG 0 6 h0 ?_
      try simp only [Act.put, List.setIfInBounds_toArray, List.set_cons_zero, List.set_cons_succ]
      refine tkG 1 7 h0 ?_
      try simp only [Act.put, List.setIfInBounds_toArray, List.set_cons_zero, List.set_cons_succ]
      refine tkG 2 8 h0 ?_
      try simp only [Act.put, List.setIfInBounds_toArray, List.set_cons_zero, List.set_cons_succ]
      refine tkG 3 9 h0 ?_
      try simp only [Act.put, List.setIfInBounds_toArray, List.set_cons_zero, List.set_cons_succ]
      refine tkG 4 10 h0 ?_
      try simp only [Act.put, List.setIfInBounds_toArray, List.set_cons_zero, List.set_cons_succ]
      refine tkG 5 11 h0 ?_
      try simp only [Act.put, List.setIfInBounds_toArray, List.set_cons_zero, List.set_cons_succ]
      refine tkG 6 12 h0 ?_
      try simp only [Act.put, List.setIfInBounds_toArray, List.set_cons_zero, List.set_cons_succ]
      refine tkG 7 13 h0 ?_
      try simp only [Act.put, List.setIfInBounds_toArray, List.set_cons_zero, List.set_cons_succ]
      refine tkG 8 14 h0 ?_
      try simp only [Act.put, List.setIfInBounds_toArray, List.set_cons_zero, List.set_cons_succ]
      refine tkG 9 15 h0 ?_
      try simp only [Act.put, List.setIfInBounds_toArray, List.set_cons_zero, List.set_cons_succ]
      refine tkG 10 16 h0 ?_
      try simp only [Act.put, List.setIfInBounds_toArray, List.set_cons_zero, List.set_cons_succ]
      refine tkG 11 17 h0 ?_
      try simp only [Act.put, List.setIfInBounds_toArray, List.set_cons_zero, List.set_cons_succ]
      refine tkG 12 18 h0 ?_
      try simp only [Act.put, List.setIfInBounds_toArray, List.set_cons_zero, List.set_cons_succ]
      refine tkG 13 19 h0 ?_
      try simp only [Act.put, List.setIfInBounds_toArray, List.set_cons_zero, List.set_cons_succ]
      refine wpAnyH_ready (rs := [14]) (by kernel_rfl) (by simp) ?_
      refine AllReadyH.cons rfl (fun K hK => ?_) AllReadyH.nil
      go_simp
      refine (HBO.out _ b2.drew).mono ?_
      rintro e w5 ⟨rfl, hb5⟩
      have b5 := b2.drew.trans (hb5.mono b2.drew.size)
      have t5 := (t2.below (Below.refl _ _).drew).below hb5
      refine hK.out _ _ (⟨t5.c8, (b5.cell (p := ⟨g, 10, none⟩) hg).trans hc10, (b5.cell (p := ⟨g, 1, none⟩) hg).trans hc1⟩) (fun h1 => ?_)
      clear hK K
      try simp only [Act.put, List.setIfInBounds_toArray, List.set_cons_zero, List.set_cons_succ]
      clear h0
      refine tkG 15 21 h1 ?_
      try simp only [Act.put, List.setIfInBounds_toArray, List.set_cons_zero, List.set_cons_succ]
      refine tkG 16 22 h1 ?_
      try simp only [Act.put, List.setIfInBounds_toArray, List.set_cons_zero, List.set_cons_succ]
      refine tkG 17 23 h1 ?_
      try simp only [Act.put, List.setIfInBounds_toArray, List.set_cons_zero, List.set_cons_succ]
      refine tkG 18 24 h1 ?_
      try simp only [Act.put, List.setIfInBounds_toArray, List.set_cons_zero, List.set_cons_succ]
      refine tkG 19 25 h1 ?_
      try simp only [Act.put, List.setIfInBounds_toArray, List.set_cons_zero, List.set_cons_succ]
      refine tkG 20 26 h1 ?_
      try simp only [Act.put, List.setIfInBounds_toArray, List.set_cons_zero, List.set_cons_succ]
      refine wpAnyH_ready (rs := [21]) (by kernel_rfl) (by simp) ?_
      refine AllReadyH.cons rfl (fun K hK => ?_) AllReadyH.nil
      go_simp
      refine (HKN.out _ b5).mono ?_
      rintro e w6 ⟨rfl, hb6⟩
      have b6 := b5.trans (hb6.mono b5.size)
      have t6 := t5.below hb6
      refine hK.out _ _ (⟨t6.c8, (b6.cell (p := ⟨g, 10, none⟩) hg).trans hc10, (b6.cell (p := ⟨g, 1, none⟩) hg).trans hc1⟩) (fun h2 => ?_)
      clear hK K
      try simp only [Act.put, List.setIfInBounds_toArray, List.set_cons_zero, List.set_cons_succ]
      clear h1
      refine tkG 22 28 h2 ?_
      try simp only [Act.put, List.setIfInBounds_toArray, List.set_cons_zero, List.set_cons_succ]
      refine tkG 23 29 h2 ?_
      try simp only [Act.put, List.setIfInBounds_toArray, List.set_cons_zero, List.set_cons_succ]
      refine wpAnyH_done (by kernel_rfl) ?_ _
      refine NoPanic.normal ?_
      cases kb with
      | false =>
        go_wp2
        go_ret
        exact ⟨rfl, b6⟩
      | true =>
        have hi : is = true := by have := HQ2.out; simpa using this
        have HIS : Hid (is = true) := hi
        clear hi HQ2
        obtain ⟨q0, q1, q2, q3, q4, q5, q6, q7⟩ := t6.c8
        clear b2 t2 b5 t5 hb5 hb6
        go_wp2_with fail
        refine (HNM.out _ b6 (by first | rfl | trivial)).mono ?_
        rintro e w7 ⟨rfl, hb7⟩
        have b7 := b6.trans (hb7.mono b6.size)
        have d14 := (b7.cell (p := ⟨g, 14, none⟩) hg).trans hc14
        clear q0 q1 q2 q3 q4 q5 q6 q7 b6 t6 hb7
        go_wp2_with fail
        refine (HCO.out _ b7).mono ?_
        rintro e w8 ⟨rfl, hw8⟩
        subst hw8
        rw [HIS.out]
        go_wp2
        go_ret
        exact ⟨rfl, b7⟩
end Go.Proofs.YtilhaokiohbeeaaGreatDoor
