/- The contract of the program's Next. -/
-- UNF Gen
import Derived.Test.YteohiicaiilicaaOffTak
namespace Go.Proofs.Yteohiicaiilicaa
open Go.RowKit
/-- What both Next tell: the row's block may have room behind its end. -/
def NxtRes (es : List Off) (w : World) (e : Ending) (w' : World) : Prop :=
  ∃ a n cap c0, e = .returned (.tuple #[.agg #[.int .i64 (nxtF es).fee, .string (nxtF es).text], .slice a n cap, .bool (nxtO es)]) ∧ n ≤ cap ∧ cap ≤ c0 ∧ OwnO w' w.heap.size (.slice a n c0) (nxtR es) ∧ Below w.heap.size w w'
theorem nxtRes_no {es : List Off} {w w' : World} {a : Option Addr} {n cap : Nat} (h : nxtO es = false) (ho : OwnO w' w.heap.size (.slice a n cap) []) (hb : Below w.heap.size w w') : NxtRes es w (.returned (.tuple #[.agg #[.int .i64 0, .string ⟨#[]⟩], .slice a n cap, .bool false])) w' := by
  refine ⟨a, n, cap, cap, ?_, (ownO_shape ho).2.1, Nat.le_refl _, ?_, hb⟩
  · unfold nxtF; rw [h]; rfl
  · unfold nxtR; rw [h]; exact ho
theorem nxtRes_yes {es : List Off} {w w' : World} {a : Option Addr} {n cap c0 : Nat} (h : nxtO es = true) (ho : OwnO w' w.heap.size (.slice a n c0) (nxtL es)) (h1 : n ≤ cap) (h2 : cap ≤ c0) (hb : Below w.heap.size w w') : NxtRes es w (.returned (.tuple #[.agg #[.int .i64 (nthO es 0).fee, .string (nthO es 0).text], .slice a n cap, .bool true])) w' := by
  refine ⟨a, n, cap, c0, ?_, h1, h2, ?_, hb⟩
  · unfold nxtF; rw [if_pos h, h]
  · unfold nxtR; rw [if_pos h]; exact ho
theorem cell_put2 {W : World} {N k j : Nat} {u0 u1 x : Value} (h : W.cell? ⟨k, j, none⟩ = some x) (hk : k ≠ N) : ((W.setCell ⟨N, 0, none⟩ u0).setCell ⟨N, 1, none⟩ u1).cell? ⟨k, j, none⟩ = some x :=
  (World.cell?_of_block (a := ⟨k, j, none⟩) ((heap_setCell_other _ _ _ _ (by simp; omega)).trans (heap_setCell_other _ _ _ _ (by simp; omega)))).trans h
theorem ownO_put2 {W : World} {N B : Nat} {v u0 u1 : Value} {es : List Off} (h : OwnO W B v es) (hk : N < B) : OwnO ((W.setCell ⟨N, 0, none⟩ u0).setCell ⟨N, 1, none⟩ u1) B v es :=
  ownO_kept h (fun k hk' => by
    have := (World.ownsRow.lt h k hk').1
    exact (heap_setCell_other _ _ _ _ (by simp; omega)).trans (heap_setCell_other _ _ _ _ (by simp; omega)))
set_option maxHeartbeats 4000000 in
set_option maxRecDepth 100000 in
theorem implNext_any (v : Value) (es : List Off) (w : World) (hr : RdO w v es) (hf : ∀ e ∈ es, e.text.size ≤ maxLen) :
    Calls Try.prog 12 #[v] w fun e w' => NxtRes es w e w' := by
  obtain ⟨a, cap, hv, hl, hm, _⟩ := id hr
  unfold maxLen at hm
  subst hv
  have b1 := below1 w (.cells #[.int .i64 0, .string ⟨#[]⟩] 26)
  have bx1 := alloc_at w (.cells #[.int .i64 0, .string ⟨#[]⟩] 26)
  have HC : Hid (∀ P, poolOk es = P → ∀ W, RdO W (.slice a es.length cap) es → Calls Try.prog 17 #[.slice a es.length cap] W fun e w' => e = .returned (.bool P) ∧ Below W.heap.size W w') := fun P hP W h => by subst hP; exact implPoolOk_any _ es W h hf
  have hr1 := hr.below b1
  have hNs : w.heap.size < (w.alloc (.cells #[.int .i64 0, .string ⟨#[]⟩] 26)).heap.size := by simp
  clear hf
  cases hp : poolOk es with
  | false =>
    have RES : Hid (nxtO es = false) := by unfold Hid nxtO; rw [hp]; rfl
    go_enter Try.func12, Try.ntmps12
    go_wp2_with fail
    refine (HC.out false hp _ hr1).mono ?_
    rintro e w2 ⟨rfl, hb2⟩
    have b2 := b1.trans (hb2.mono b1.size)
    have bx2 := (hb2.block _ hNs).trans bx1
    have b3 := b2.alloc b2.size (.cells #[] 26)
    have bx3 := ((below1 w2 (.cells #[] 26)).block _ (Nat.lt_of_lt_of_le hNs hb2.size)).trans bx2
    obtain ⟨z0, z1, g0, g1⟩ := box2O bx3
    obtain ⟨x0, x1, -, -⟩ := box2O (put2O (u0 := .int .i64 0) (u1 := .string ⟨#[]⟩) bx3)
    have HE : Hid (NxtRes es w (.returned (.tuple #[.agg #[.int .i64 0, .string ⟨#[]⟩], .slice (some ⟨w2.heap.size, 0, none⟩) 0 0, .bool false])) (((w2.alloc (.cells #[] 26)).setCell ⟨w.heap.size, 0, none⟩ (.int .i64 0)).setCell ⟨w.heap.size, 1, none⟩ (.string ⟨#[]⟩))) :=
      nxtRes_no RES.out ((ownO_put2 (ownO_none w2) (Nat.lt_of_lt_of_le hNs hb2.size)).mono b2.size) ((b3.setCell (Nat.le_refl _) _).setCell (Nat.le_refl _) _)
    clear hb2 b1 hr1 bx1 bx2 bx3 b2 b3 hNs
    go_wp2
    exact bodyPost_ret (v := .tuple #[.agg #[.int .i64 0, .string ⟨#[]⟩], .slice (some ⟨w2.heap.size, 0, none⟩) 0 0, .bool false]) (by simp [results, Try.results12, go_sem, x0, x1]) rfl HE.out
  | true =>
    have hl50 := (poolOk_iff.1 hp).1
    go_enter Try.func12, Try.ntmps12
    go_wp2_with fail
    refine (HC.out true hp _ hr1).mono ?_
    rintro e w2 ⟨rfl, hb2⟩
    have b2 := b1.trans (hb2.mono b1.size)
    have bx2 := (hb2.block _ hNs).trans bx1
    have hN2 : w.heap.size < w2.heap.size := Nat.lt_of_lt_of_le hNs hb2.size
    have hr2 := hr.below b2
    clear hb2 b1 hr1 bx1 hNs
    go_wp2_with fail
    refine (offersOf_any _ es _ hr2 (by omega)).mono ?_
    rintro e w3 ⟨sb, a3, n3, c3, rfl, h3⟩
    by_cases h0 : es.length = 0
    · have hn3 : n3 = 0 := h3.len.trans h0
      subst hn3
      have hes : es = [] := List.length_eq_zero_iff.1 h0
      have RES : Hid (nxtO es = false) := by unfold Hid nxtO; rw [hp]; simp [h0]
      clear hr2
      go_wp2_with fail
      refine (otake_no w2 _ sb c3 c3 a3 es h3).mono ?_
      rintro e w4 ⟨rfl, h4, -⟩
      have h5 := h4.below (below1 w4 (.cells #[.int .i64 0, .string ⟨#[]⟩] 26))
      have y := offAt_new w4 zeroO 26
      have bx5 := (h5.bel.block _ hN2).trans bx2
      obtain ⟨z0, z1, g0, g1⟩ := box2O bx5
      have x0 : (((w4.alloc (.cells #[.int .i64 0, .string ⟨#[]⟩] 26)).setCell ⟨w.heap.size, 0, none⟩ (.int .i64 0)).setCell ⟨w.heap.size, 1, none⟩ (.string ⟨#[]⟩)).drew.cell? ⟨w.heap.size, 0, none⟩ = some (.int .i64 0) := (box2O (put2O (u0 := .int .i64 0) (u1 := .string ⟨#[]⟩) bx5)).1
      have x1 : (((w4.alloc (.cells #[.int .i64 0, .string ⟨#[]⟩] 26)).setCell ⟨w.heap.size, 0, none⟩ (.int .i64 0)).setCell ⟨w.heap.size, 1, none⟩ (.string ⟨#[]⟩)).drew.cell? ⟨w.heap.size, 1, none⟩ = some (.string ⟨#[]⟩) := (box2O (put2O (u0 := .int .i64 0) (u1 := .string ⟨#[]⟩) bx5)).2.1
      have hsb : sb ≠ w.heap.size := by have := h3.ge; omega
      have hM : w4.heap.size ≠ w.heap.size := by have := h4.bel.size; omega
      have s0 := h5.cell
      have y0 : (w4.alloc (.cells #[.int .i64 0, .string ⟨#[]⟩] 26)).cell? ⟨w4.heap.size, 0, none⟩ = some (.int .i64 0) := y.1
      have y1 : (w4.alloc (.cells #[.int .i64 0, .string ⟨#[]⟩] 26)).cell? ⟨w4.heap.size, 1, none⟩ = some (.string ⟨#[]⟩) := y.2
      have HE : Hid (NxtRes es w (.returned (.tuple #[.agg #[.int .i64 0, .string ⟨#[]⟩], .slice a3 0 c3, .bool false])) (((w4.alloc (.cells #[.int .i64 0, .string ⟨#[]⟩] 26)).setCell ⟨w.heap.size, 0, none⟩ (.int .i64 0)).setCell ⟨w.heap.size, 1, none⟩ (.string ⟨#[]⟩)).drew) :=
        nxtRes_no RES.out ((ownO_put2 (W := (w4.alloc (.cells #[.int .i64 0, .string ⟨#[]⟩] 26))) (by have h := h5.own; rw [hes] at h; exact h) hN2).mono b2.size) (((b2.trans (h5.bel.mono b2.size)).setCell (Nat.le_refl _) _).setCell (Nat.le_refl _) _).drew
      clear h3 h4 h5 y bx5 bx2 b2 hN2 h0 hes
      go_wp2_with fail
      refine wp_region_noPanic ?_
      refine wp_region_held_drew (S := fun W => W.cell? ⟨w4.heap.size, 0, none⟩ = some (.int .i64 0) ∧ W.cell? ⟨w4.heap.size, 1, none⟩ = some (.string ⟨#[]⟩) ∧ W.cell? ⟨sb, 0, none⟩ = some (.slice a3 0 c3)) (by kernel_rfl) ⟨y0, y1, s0⟩ (fun hH => ?_)
      refine tkG 0 20 hH ?_
      try simp only [Act.put, List.setIfInBounds_toArray, List.set_cons_zero, List.set_cons_succ]
      refine tkG 1 21 hH ?_
      try simp only [Act.put, List.setIfInBounds_toArray, List.set_cons_zero, List.set_cons_succ]
      refine tkG 2 22 hH ?_
      try simp only [Act.put, List.setIfInBounds_toArray, List.set_cons_zero, List.set_cons_succ]
      refine tkG 3 23 hH ?_
      try simp only [Act.put, List.setIfInBounds_toArray, List.set_cons_zero, List.set_cons_succ]
      refine tkG 4 24 hH ?_
      try simp only [Act.put, List.setIfInBounds_toArray, List.set_cons_zero, List.set_cons_succ]
      refine wpAnyH_ready (rs := [5]) (by kernel_rfl) (by simp) ?_
      refine AllReadyH.cons rfl (fun K hK => ?_) AllReadyH.nil
      go_simp
      refine hK.out _ _ ⟨cell_put2 hH.1 hM, cell_put2 hH.2.1 hM, cell_put2 hH.2.2 hsb⟩ (fun hB => ?_)
      clear hK K
      try simp only [Act.put, List.setIfInBounds_toArray, List.set_cons_zero, List.set_cons_succ]
      refine tkG 6 3 hB ?_
      try simp only [Act.put, List.setIfInBounds_toArray, List.set_cons_zero, List.set_cons_succ]
      refine tkG 7 4 hB ?_
      try simp only [Act.put, List.setIfInBounds_toArray, List.set_cons_zero, List.set_cons_succ]
      refine wpAnyH_done (by kernel_rfl) ?_ _
      refine NoPanic.normal ?_
      clear hH hB
      go_wp2
      exact bodyPost_ret (v := .tuple #[.agg #[.int .i64 0, .string ⟨#[]⟩], .slice a3 0 c3, .bool false]) (by simp [results, Try.results12, go_sem, x0, x1]) rfl HE.out
    · obtain ⟨m, hm3⟩ : ∃ m, n3 = m + 1 := ⟨n3 - 1, by have := h3.len; omega⟩
      subst hm3
      have RES : Hid (nxtO es = true) := by unfold Hid nxtO; rw [hp]; simp [h0]
      clear hr2
      go_wp2_with fail
      refine (otake_yes w2 _ sb m c3 c3 a3 es h3).mono ?_
      rintro e w4 ⟨rfl, h4, -⟩
      obtain ⟨x, hx⟩ : ∃ x, x = nthO es 0 := ⟨_, rfl⟩
      have HEX : Hid (∀ W', OwnO W' w.heap.size (.slice a3 m c3) (nxtL es) → Below w.heap.size w W' → NxtRes es w (.returned (.tuple #[.agg #[.int .i64 x.fee, .string x.text], .slice a3 m m, .bool true])) W') := fun W' h1 h2 => by rw [hx]; exact nxtRes_yes RES.out h1 (Nat.le_refl _) h4.cc h2
      rw [← hx]
      have h5 := h4.below (below1 w4 (.cells #[.int .i64 x.fee, .string x.text] 26))
      have y := offAt_new w4 x 26
      have bx5 := (h5.bel.block _ hN2).trans bx2
      obtain ⟨z0, z1, g0, g1⟩ := box2O bx5
      have x0 : (((w4.alloc (.cells #[.int .i64 x.fee, .string x.text] 26)).setCell ⟨w.heap.size, 0, none⟩ (.int .i64 x.fee)).setCell ⟨w.heap.size, 1, none⟩ (.string x.text)).drew.cell? ⟨w.heap.size, 0, none⟩ = some (.int .i64 x.fee) := (box2O (put2O (u0 := .int .i64 x.fee) (u1 := .string x.text) bx5)).1
      have x1 : (((w4.alloc (.cells #[.int .i64 x.fee, .string x.text] 26)).setCell ⟨w.heap.size, 0, none⟩ (.int .i64 x.fee)).setCell ⟨w.heap.size, 1, none⟩ (.string x.text)).drew.cell? ⟨w.heap.size, 1, none⟩ = some (.string x.text) := (box2O (put2O (u0 := .int .i64 x.fee) (u1 := .string x.text) bx5)).2.1
      have hsb : sb ≠ w.heap.size := by have := h3.ge; omega
      have hM : w4.heap.size ≠ w.heap.size := by have := h4.bel.size; omega
      have s0 := h5.cell
      have y0 : (w4.alloc (.cells #[.int .i64 x.fee, .string x.text] 26)).cell? ⟨w4.heap.size, 0, none⟩ = some (.int .i64 x.fee) := y.1
      have y1 : (w4.alloc (.cells #[.int .i64 x.fee, .string x.text] 26)).cell? ⟨w4.heap.size, 1, none⟩ = some (.string x.text) := y.2
      have HE : Hid (NxtRes es w (.returned (.tuple #[.agg #[.int .i64 x.fee, .string x.text], .slice a3 m m, .bool true])) (((w4.alloc (.cells #[.int .i64 x.fee, .string x.text] 26)).setCell ⟨w.heap.size, 0, none⟩ (.int .i64 x.fee)).setCell ⟨w.heap.size, 1, none⟩ (.string x.text)).drew) :=
        HEX.out _ ((ownO_put2 (W := (w4.alloc (.cells #[.int .i64 x.fee, .string x.text] 26))) h5.own hN2).mono b2.size) (((b2.trans (h5.bel.mono b2.size)).setCell (Nat.le_refl _) _).setCell (Nat.le_refl _) _).drew
      clear h3 h4 h5 y bx5 bx2 b2 hN2 h0 HEX hx
      go_wp2_with fail
      refine wp_region_noPanic ?_
      refine wp_region_held_drew (S := fun W => W.cell? ⟨w4.heap.size, 0, none⟩ = some (.int .i64 x.fee) ∧ W.cell? ⟨w4.heap.size, 1, none⟩ = some (.string x.text) ∧ W.cell? ⟨sb, 0, none⟩ = some (.slice a3 m m)) (by kernel_rfl) ⟨y0, y1, s0⟩ (fun hH => ?_)
      refine tkG 0 20 hH ?_
      try simp only [Act.put, List.setIfInBounds_toArray, List.set_cons_zero, List.set_cons_succ]
      refine tkG 1 21 hH ?_
      try simp only [Act.put, List.setIfInBounds_toArray, List.set_cons_zero, List.set_cons_succ]
      refine tkG 2 22 hH ?_
      try simp only [Act.put, List.setIfInBounds_toArray, List.set_cons_zero, List.set_cons_succ]
      refine tkG 3 23 hH ?_
      try simp only [Act.put, List.setIfInBounds_toArray, List.set_cons_zero, List.set_cons_succ]
      refine tkG 4 24 hH ?_
      try simp only [Act.put, List.setIfInBounds_toArray, List.set_cons_zero, List.set_cons_succ]
      refine wpAnyH_ready (rs := [5]) (by kernel_rfl) (by simp) ?_
      refine AllReadyH.cons rfl (fun K hK => ?_) AllReadyH.nil
      go_simp
      refine hK.out _ _ ⟨cell_put2 hH.1 hM, cell_put2 hH.2.1 hM, cell_put2 hH.2.2 hsb⟩ (fun hB => ?_)
      clear hK K
      try simp only [Act.put, List.setIfInBounds_toArray, List.set_cons_zero, List.set_cons_succ]
      refine tkG 6 3 hB ?_
      try simp only [Act.put, List.setIfInBounds_toArray, List.set_cons_zero, List.set_cons_succ]
      refine tkG 7 4 hB ?_
      try simp only [Act.put, List.setIfInBounds_toArray, List.set_cons_zero, List.set_cons_succ]
      refine wpAnyH_done (by kernel_rfl) ?_ _
      refine NoPanic.normal ?_
      clear hH hB
      go_wp2
      exact bodyPost_ret (v := .tuple #[.agg #[.int .i64 x.fee, .string x.text], .slice a3 m m, .bool true]) (by simp [results, Try.results12, go_sem, x0, x1]) rfl HE.out
end Go.Proofs.Yteohiicaiilicaa
