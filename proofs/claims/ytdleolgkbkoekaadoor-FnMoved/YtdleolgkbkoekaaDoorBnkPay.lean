/- The contract of the payment. -/
-- UNF Gen
import Derived.Test.YtdleolgkbkoekaaDoorBnkCod
namespace Go.Proofs.YtdleolgkbkoekaaDoor
open Go.RowKit
/-- Where a payment stands: the two boxes, and the bank's rows. -/
structure PQ (w W : World) (B bb mb gm cm gc cc f t : Nat) (s c : Int) (ms cs : List Int) : Prop where
  bx : (W.cell? ⟨bb, 0, none⟩ = some (.slice (some ⟨gm, 0, none⟩) 8 cm) ∧ W.cell? ⟨bb, 1, none⟩ = some (.slice (some ⟨gc, 0, none⟩) 8 cc)) ∧ (W.cell? ⟨mb, 0, none⟩ = some (.int .i64 (f : Int)) ∧ W.cell? ⟨mb, 1, none⟩ = some (.int .i64 (t : Int)) ∧ W.cell? ⟨mb, 2, none⟩ = some (.int .i64 s) ∧ W.cell? ⟨mb, 3, none⟩ = some (.int .i64 c))
  mon : OwnI W B (.slice (some ⟨gm, 0, none⟩) 8 cm) ms
  cnt : OwnI W B (.slice (some ⟨gc, 0, none⟩) 8 cc) cs
  tch : Touch [gm, gc] w W
  n1 : gm ≠ gc ∧ bb ≠ gm ∧ bb ≠ gc ∧ mb ≠ gm ∧ mb ≠ gc
  n2 : ms.length = 8 ∧ cs.length = 8
theorem PQ.draw {w W : World} {B bb mb gm cm gc cc f t : Nat} {s c : Int} {ms cs : List Int} (h : PQ w W B bb mb gm cm gc cc f t s c ms cs) : PQ w W.drew B bb mb gm cm gc cc f t s c ms cs :=
  ⟨h.bx, h.mon, h.cnt, h.tch.trans (Touch.of_below (Below.refl _ W).drew), h.n1, h.n2⟩
theorem cell_set {W : World} {b g j o : Nat} {u v : Value} (h : W.cell? ⟨b, o, none⟩ = some v) (hn : b ≠ g) : (W.setCell ⟨g, j, none⟩ u).cell? ⟨b, o, none⟩ = some v :=
  (World.cell?_of_block (a := ⟨b, o, none⟩) (blkSet (fun e => hn e.symm))).trans h
theorem PQ.setM {w W : World} {B bb mb gm cm gc cc f t : Nat} {s c : Int} {ms cs : List Int} (h : PQ w W B bb mb gm cm gc cc f t s c ms cs) (j : Nat) (x : Int) : PQ w (W.setCell ⟨gm, j, none⟩ (.int .i64 x)) B bb mb gm cm gc cc f t s c (ms.set j x) cs := by
  obtain ⟨⟨a0, a1⟩, a2, a3, a4, a5⟩ := h.bx
  obtain ⟨n1, n2, n3, n4, n5⟩ := h.n1
  exact ⟨⟨⟨cell_set a0 n2, cell_set a1 n2⟩, cell_set a2 n4, cell_set a3 n4, cell_set a4 n4, cell_set a5 n4⟩, ownI_set h.mon j x, row_set h.cnt (fun k hk e => by have : gc = k := Option.some.inj hk; omega), h.tch.trans (Touch.set (by simp)), ⟨n1, n2, n3, n4, n5⟩, by rw [List.length_set]; exact h.n2⟩
theorem PQ.setC {w W : World} {B bb mb gm cm gc cc f t : Nat} {s c : Int} {ms cs : List Int} (h : PQ w W B bb mb gm cm gc cc f t s c ms cs) (j : Nat) (x : Int) : PQ w (W.setCell ⟨gc, j, none⟩ (.int .i64 x)) B bb mb gm cm gc cc f t s c ms (cs.set j x) := by
  obtain ⟨⟨a0, a1⟩, a2, a3, a4, a5⟩ := h.bx
  obtain ⟨n1, n2, n3, n4, n5⟩ := h.n1
  exact ⟨⟨⟨cell_set a0 n3, cell_set a1 n3⟩, cell_set a2 n5, cell_set a3 n5, cell_set a4 n5, cell_set a5 n5⟩, row_set h.mon (fun k hk e => by have : gm = k := Option.some.inj hk; omega), ownI_set h.cnt j x, h.tch.trans (Touch.set (by simp)), ⟨n1, n2, n3, n4, n5⟩, by rw [List.length_set]; exact h.n2⟩
theorem payM_len (ms : List Int) (f t : Nat) (s : Int) : (payM ms f t s).length = ms.length := by unfold payM; rw [List.length_set, List.length_set]
theorem wrap_inK {x : Int} (h0 : -9223372036854775808 ≤ x) (h1 : x ≤ 9223372036854775807) : IntKind.i64.wrap x = x := by
  rw [IntKind.wrap_i64]; omega
set_option maxHeartbeats 8000000 in
set_option maxRecDepth 100000 in
theorem pay_any (gm cm gc cc f t : Nat) (s c : Int) (ms cs : List Int) (B : Nat) (w : World) (ho : OwnBk w B ⟨.slice (some ⟨gm, 0, none⟩) 8 cm, .slice (some ⟨gc, 0, none⟩) 8 cc, ms, cs⟩) (hM : RowOk ms 1000000000) (hC : RowOk cs 1000000) (hf : f < 8) (ht : t < 8) (hs : 1 ≤ s ∧ s ≤ 1000000000) :
    Calls Tryd.prog 28 #[.agg #[.slice (some ⟨gm, 0, none⟩) 8 cm, .slice (some ⟨gc, 0, none⟩) 8 cc], .agg #[.int .i64 (f : Int), .int .i64 (t : Int), .int .i64 s, .int .i64 c]] w fun e w' => e = .returned (.tuple #[]) ∧ OwnBk w' B ⟨.slice (some ⟨gm, 0, none⟩) 8 cm, .slice (some ⟨gc, 0, none⟩) 8 cc, payM ms f t s, payC cs f⟩ ∧ Touch [gm, gc] w w' := by
  obtain ⟨hs0, hs1⟩ := hs
  have hf8 : (f : Int) < 8 := by omega
  have ht8 : (t : Int) < 8 := by omega
  obtain ⟨_, cm', e1, k1, k2⟩ := rdI_slice ho.mon.rd
  obtain ⟨_, cc', e2, k3, k4⟩ := rdI_slice ho.cnt.rd
  simp only [Value.slice.injEq] at e1 e2
  rw [hM.1, ← e1.2.2] at k1
  rw [← e1.2.2] at k2
  rw [hC.1, ← e2.2.2] at k3
  rw [← e2.2.2] at k4
  clear e1 e2
  have hfm : f < cm := by omega
  have htm : t < cm := by omega
  have hfc : f < cc := by omega
  have HB1 : Hid (0 ≤ nthI ms f ∧ nthI ms f ≤ 1000000000) := hM.2 f hf
  have HB2 : Hid (-1000000000 ≤ nthI (ms.set f (nthI ms f - s)) t ∧ nthI (ms.set f (nthI ms f - s)) t ≤ 1000000000) := by
    unfold Hid
    rw [nthI_set (by rw [hM.1]; exact hf)]
    have h1 := hM.2 f hf
    have h2 := hM.2 t ht
    split <;> omega
  have HB3 : Hid (0 ≤ nthI cs f ∧ nthI cs f ≤ 1000000) := hC.2 f hf
  have lm := (World.ownsRow.lt ho.mon gm rfl).2
  have lc := (World.ownsRow.lt ho.cnt gc rfl).2
  have hne : gm ≠ gc := fun e => ho.two gm rfl (by rw [e]; rfl)
  have b0 := below2 w (.cells #[.slice (some ⟨gm, 0, none⟩) 8 cm, .slice (some ⟨gc, 0, none⟩) 8 cc] 26) (.cells #[.int .i64 (f : Int), .int .i64 (t : Int), .int .i64 s, .int .i64 c] 28)
  have P : PQ w ((w.alloc (.cells #[.slice (some ⟨gm, 0, none⟩) 8 cm, .slice (some ⟨gc, 0, none⟩) 8 cc] 26)).alloc (.cells #[.int .i64 (f : Int), .int .i64 (t : Int), .int .i64 s, .int .i64 c] 28)) B w.heap.size (w.heap.size + 1) gm cm gc cc f t s c ms cs := by
    have t0 := (bkAt_new w ⟨.slice (some ⟨gm, 0, none⟩) 8 cm, .slice (some ⟨gc, 0, none⟩) 8 cc, ms, cs⟩ 26).below (below1 _ (.cells #[.int .i64 (f : Int), .int .i64 (t : Int), .int .i64 s, .int .i64 c] 28))
    have tm : Box4 ((w.alloc (.cells #[.slice (some ⟨gm, 0, none⟩) 8 cm, .slice (some ⟨gc, 0, none⟩) 8 cc] 26)).alloc (.cells #[.int .i64 (f : Int), .int .i64 (t : Int), .int .i64 s, .int .i64 c] 28)) (w.heap.size + 1) 28 ⟨(f : Int), (t : Int), s, c⟩ := by
      have h := heap_alloc_new (w.alloc (.cells #[.slice (some ⟨gm, 0, none⟩) 8 cm, .slice (some ⟨gc, 0, none⟩) 8 cc] 26)) (.cells #[.int .i64 (f : Int), .int .i64 (t : Int), .int .i64 s, .int .i64 c] 28)
      rwa [show (w.alloc (.cells #[.slice (some ⟨gm, 0, none⟩) 8 cm, .slice (some ⟨gc, 0, none⟩) 8 cc] 26)).heap.size = w.heap.size + 1 by simp] at h
    exact ⟨⟨t0, tm.facts⟩, ho.mon.below b0, ho.cnt.below b0, Touch.of_below b0, ⟨hne, by omega, by omega, by omega, by omega⟩, hM.1, hC.1⟩
  have HM1 : Hid (ms.length = 8) := hM.1
  clear hM hC ho b0 lm lc hne
  go_enter Tryd.func28, Tryd.ntmps28
  go_wp2_with fail
  refine wp_region_noPanic ?_
  refine wp_region_held_drew (S := fun W => (W.cell? ⟨w.heap.size, 0, none⟩ = some (.slice (some ⟨gm, 0, none⟩) 8 cm) ∧ W.cell? ⟨w.heap.size, 1, none⟩ = some (.slice (some ⟨gc, 0, none⟩) 8 cc)) ∧ (W.cell? ⟨w.heap.size + 1, 0, none⟩ = some (.int .i64 (f : Int)) ∧ W.cell? ⟨w.heap.size + 1, 1, none⟩ = some (.int .i64 (t : Int)) ∧ W.cell? ⟨w.heap.size + 1, 2, none⟩ = some (.int .i64 s) ∧ W.cell? ⟨w.heap.size + 1, 3, none⟩ = some (.int .i64 c))) (by kernel_rfl) P.bx (fun hS => ?_)
  replace P := P.draw
  revert hS P
  generalize ((w.alloc (.cells #[.slice (some ⟨gm, 0, none⟩) 8 cm, .slice (some ⟨gc, 0, none⟩) 8 cc] 26)).alloc (.cells #[.int .i64 (f : Int), .int .i64 (t : Int), .int .i64 s, .int .i64 c] 28)).drew = V
  intro hS P
  obtain ⟨xc, xf⟩ := ownI_cell P.mon f (by have := P.n2; omega)
  obtain ⟨px, hpx⟩ : ∃ px, px = nthI ms f := ⟨_, rfl⟩
  rw [← hpx] at xc
  have HPX : Hid (px = nthI ms f) := hpx
  have hb := HB1.out
  rw [← hpx] at hb
  obtain ⟨hb0, hb1⟩ := hb
  clear hpx
  have hwr : IntKind.i64.wrap (px - s) = px - s := wrap_inK (by omega) (by omega)
  have P2 := P.setM f (px - s)
  refine tkG 0 4 hS ?_
  try simp only [Act.put, List.setIfInBounds_toArray, List.set_cons_zero, List.set_cons_succ]
  refine tkG 1 5 hS ?_
  try simp only [Act.put, List.setIfInBounds_toArray, List.set_cons_zero, List.set_cons_succ]
  refine tkG 2 6 hS ?_
  try simp only [Act.put, List.setIfInBounds_toArray, List.set_cons_zero, List.set_cons_succ]
  refine tkG 3 7 hS ?_
  try simp only [Act.put, List.setIfInBounds_toArray, List.set_cons_zero, List.set_cons_succ]
  refine tkG 4 8 hS ?_
  try simp only [Act.put, List.setIfInBounds_toArray, List.set_cons_zero, List.set_cons_succ]
  refine tkG 6 10 hS ?_
  try simp only [Act.put, List.setIfInBounds_toArray, List.set_cons_zero, List.set_cons_succ]
  refine tkG 7 11 hS ?_
  try simp only [Act.put, List.setIfInBounds_toArray, List.set_cons_zero, List.set_cons_succ]
  refine wpAnyH_ready (rs := [5]) (by kernel_rfl) (by simp) ?_
  refine AllReadyH.cons rfl (fun K hK => ?_) AllReadyH.nil
  go_simp
  refine hK.out _ _ hS (fun hS2 => ?_)
  clear hK K hS
  have hS := hS2
  clear hS2
  try simp only [Act.put, List.setIfInBounds_toArray, List.set_cons_zero, List.set_cons_succ]
  refine tkG 8 12 hS ?_
  try simp only [Act.put, List.setIfInBounds_toArray, List.set_cons_zero, List.set_cons_succ]
  refine tkG 9 13 hS ?_
  try simp only [Act.put, List.setIfInBounds_toArray, List.set_cons_zero, List.set_cons_succ]
  refine wpAnyH_ready (rs := [10]) (by kernel_rfl) (by simp) ?_
  refine AllReadyH.cons rfl (fun K hK => ?_) AllReadyH.nil
  go_simp
  refine hK.out _ _ P2.bx (fun hS2 => ?_)
  clear hK K hS hS2
  refine wpAnyH_done (by kernel_rfl) ?_ _
  refine NoPanic.normal ?_
  clear P xc xf hwr hb0 hb1
  have P := P2
  clear P2
  rw [HPX.out] at P ⊢
  clear HPX px
  generalize V.setCell ⟨gm, f, none⟩ (.int .i64 (nthI ms f - s)) = W1 at P ⊢
  go_wp2_with fail
  refine wp_region_noPanic ?_
  refine wp_region_held_drew (S := fun W => (W.cell? ⟨w.heap.size, 0, none⟩ = some (.slice (some ⟨gm, 0, none⟩) 8 cm) ∧ W.cell? ⟨w.heap.size, 1, none⟩ = some (.slice (some ⟨gc, 0, none⟩) 8 cc)) ∧ (W.cell? ⟨w.heap.size + 1, 0, none⟩ = some (.int .i64 (f : Int)) ∧ W.cell? ⟨w.heap.size + 1, 1, none⟩ = some (.int .i64 (t : Int)) ∧ W.cell? ⟨w.heap.size + 1, 2, none⟩ = some (.int .i64 s) ∧ W.cell? ⟨w.heap.size + 1, 3, none⟩ = some (.int .i64 c))) (by kernel_rfl) P.bx (fun hS => ?_)
  replace P := P.draw
  revert hS P
  generalize W1.drew = V1
  intro hS P
  obtain ⟨xc, xf⟩ := ownI_cell P.mon t (by have := P.n2; omega)
  obtain ⟨px, hpx⟩ : ∃ px, px = nthI (ms.set f (nthI ms f - s)) t := ⟨_, rfl⟩
  rw [← hpx] at xc
  have HPX : Hid (px = nthI (ms.set f (nthI ms f - s)) t) := hpx
  have hb := HB2.out
  rw [← hpx] at hb
  obtain ⟨hb0, hb1⟩ := hb
  clear hpx
  have hwr : IntKind.i64.wrap (px + s) = px + s := wrap_inK (by omega) (by omega)
  have P2 := P.setM t (px + s)
  refine tkG 0 14 hS ?_
  try simp only [Act.put, List.setIfInBounds_toArray, List.set_cons_zero, List.set_cons_succ]
  refine tkG 1 15 hS ?_
  try simp only [Act.put, List.setIfInBounds_toArray, List.set_cons_zero, List.set_cons_succ]
  refine tkG 2 16 hS ?_
  try simp only [Act.put, List.setIfInBounds_toArray, List.set_cons_zero, List.set_cons_succ]
  refine tkG 3 17 hS ?_
  try simp only [Act.put, List.setIfInBounds_toArray, List.set_cons_zero, List.set_cons_succ]
  refine tkG 4 18 hS ?_
  try simp only [Act.put, List.setIfInBounds_toArray, List.set_cons_zero, List.set_cons_succ]
  refine tkG 6 20 hS ?_
  try simp only [Act.put, List.setIfInBounds_toArray, List.set_cons_zero, List.set_cons_succ]
  refine tkG 7 21 hS ?_
  try simp only [Act.put, List.setIfInBounds_toArray, List.set_cons_zero, List.set_cons_succ]
  refine wpAnyH_ready (rs := [5]) (by kernel_rfl) (by simp) ?_
  refine AllReadyH.cons rfl (fun K hK => ?_) AllReadyH.nil
  go_simp
  refine hK.out _ _ hS (fun hS2 => ?_)
  clear hK K hS
  have hS := hS2
  clear hS2
  try simp only [Act.put, List.setIfInBounds_toArray, List.set_cons_zero, List.set_cons_succ]
  refine tkG 8 22 hS ?_
  try simp only [Act.put, List.setIfInBounds_toArray, List.set_cons_zero, List.set_cons_succ]
  refine tkG 9 23 hS ?_
  try simp only [Act.put, List.setIfInBounds_toArray, List.set_cons_zero, List.set_cons_succ]
  refine wpAnyH_ready (rs := [10]) (by kernel_rfl) (by simp) ?_
  refine AllReadyH.cons rfl (fun K hK => ?_) AllReadyH.nil
  go_simp
  refine hK.out _ _ P2.bx (fun hS2 => ?_)
  clear hK K hS hS2
  refine wpAnyH_done (by kernel_rfl) ?_ _
  refine NoPanic.normal ?_
  clear P xc xf hwr hb0 hb1
  have P := P2
  clear P2
  rw [HPX.out] at P ⊢
  clear HPX px
  generalize V1.setCell ⟨gm, t, none⟩ (.int .i64 (nthI (ms.set f (nthI ms f - s)) t + s)) = W2 at P ⊢
  obtain ⟨⟨d0, d1⟩, e0, e1, e2, e3⟩ := P.bx
  obtain ⟨xc, xf⟩ := ownI_cell P.cnt f (by have := P.n2; omega)
  have P2 := P.setC f (nthI cs f + 1)
  obtain ⟨px, hpx⟩ : ∃ px, px = nthI cs f := ⟨_, rfl⟩
  have hb := HB3.out
  rw [← hpx] at hb xc P2
  obtain ⟨hb0, hb1⟩ := hb
  have HPX : Hid (px = nthI cs f) := hpx
  clear P hpx
  go_wp2
  go_end0
  refine ⟨rfl, ⟨P2.mon, ?_, fun q h1 h2 => ?_⟩, P2.tch⟩
  · have h := P2.cnt
    unfold payC
    rw [← HPX.out]
    exact h
  · have h3 : gm = q := Option.some.inj h1
    have h4 : gc = q := Option.some.inj h2
    exact P2.n1.1 (by omega)
end Go.Proofs.YtdleolgkbkoekaaDoor
