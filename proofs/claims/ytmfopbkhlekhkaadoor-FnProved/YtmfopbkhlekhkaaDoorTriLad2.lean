/- The contract of the program's ladder from a place up, and of its Holds. -/
import Derived.Test.YtmfopbkhlekhkaaDoorTriLad
import Derived.Great.BuildSlice
namespace Go.Proofs.YtmfopbkhlekhkaaDoor
open Go.RowKit
abbrev z27 : List Int := [0, 0, 0, 0, 0, 0, 0, 0, 0, 0, 0, 0, 0, 0, 0, 0, 0, 0, 0, 0, 0, 0, 0, 0, 0, 0, 0]
theorem ArrL.allZ {w : World} {B b : Nat} (h : ArrL w B b z27) : w.cell? ⟨b, 0, none⟩ = some (.int .i64 (0)) ∧ w.cell? ⟨b, 1, none⟩ = some (.int .i64 (0)) ∧ w.cell? ⟨b, 2, none⟩ = some (.int .i64 (0)) ∧ w.cell? ⟨b, 3, none⟩ = some (.int .i64 (0)) ∧ w.cell? ⟨b, 4, none⟩ = some (.int .i64 (0)) ∧ w.cell? ⟨b, 5, none⟩ = some (.int .i64 (0)) ∧ w.cell? ⟨b, 6, none⟩ = some (.int .i64 (0)) ∧ w.cell? ⟨b, 7, none⟩ = some (.int .i64 (0)) ∧ w.cell? ⟨b, 8, none⟩ = some (.int .i64 (0)) ∧ w.cell? ⟨b, 9, none⟩ = some (.int .i64 (0)) ∧ w.cell? ⟨b, 10, none⟩ = some (.int .i64 (0)) ∧ w.cell? ⟨b, 11, none⟩ = some (.int .i64 (0)) ∧ w.cell? ⟨b, 12, none⟩ = some (.int .i64 (0)) ∧ w.cell? ⟨b, 13, none⟩ = some (.int .i64 (0)) ∧ w.cell? ⟨b, 14, none⟩ = some (.int .i64 (0)) ∧ w.cell? ⟨b, 15, none⟩ = some (.int .i64 (0)) ∧ w.cell? ⟨b, 16, none⟩ = some (.int .i64 (0)) ∧ w.cell? ⟨b, 17, none⟩ = some (.int .i64 (0)) ∧ w.cell? ⟨b, 18, none⟩ = some (.int .i64 (0)) ∧ w.cell? ⟨b, 19, none⟩ = some (.int .i64 (0)) ∧ w.cell? ⟨b, 20, none⟩ = some (.int .i64 (0)) ∧ w.cell? ⟨b, 21, none⟩ = some (.int .i64 (0)) ∧ w.cell? ⟨b, 22, none⟩ = some (.int .i64 (0)) ∧ w.cell? ⟨b, 23, none⟩ = some (.int .i64 (0)) ∧ w.cell? ⟨b, 24, none⟩ = some (.int .i64 (0)) ∧ w.cell? ⟨b, 25, none⟩ = some (.int .i64 (0)) ∧ w.cell? ⟨b, 26, none⟩ = some (.int .i64 (0)) :=
  ⟨h.cell 0 (by omega), h.cell 1 (by omega), h.cell 2 (by omega), h.cell 3 (by omega), h.cell 4 (by omega), h.cell 5 (by omega), h.cell 6 (by omega), h.cell 7 (by omega), h.cell 8 (by omega), h.cell 9 (by omega), h.cell 10 (by omega), h.cell 11 (by omega), h.cell 12 (by omega), h.cell 13 (by omega), h.cell 14 (by omega), h.cell 15 (by omega), h.cell 16 (by omega), h.cell 17 (by omega), h.cell 18 (by omega), h.cell 19 (by omega), h.cell 20 (by omega), h.cell 21 (by omega), h.cell 22 (by omega), h.cell 23 (by omega), h.cell 24 (by omega), h.cell 25 (by omega), h.cell 26 (by omega)⟩
set_option maxHeartbeats 8000000 in
set_option maxRecDepth 100000 in
theorem ladderNo_any (p v : Int) (vw : Value) (ws : List Int) (w : World) (hr : RdI w vw ws) (ht : tldB p v ws.length = false) :
    Calls Tryd.prog 46 #[.int .i64 p, .int .i64 v, vw] w fun e w' => e = .returned (.tuple #[Z27, .bool false]) ∧ Below w.heap.size w w' := by
  obtain ⟨a, c, rfl, -⟩ := hr
  have HP1 := fun W => trieAtOk_any p W
  have HV1 := fun W => trieValueOk_any v W
  generalize ws.length = n at ht
  unfold Z27
  by_cases hp : 0 ≤ p ∧ p ≤ 255
  · rw [show decide (0 ≤ p ∧ p ≤ 255) = true from decide_eq_true hp] at HP1
    by_cases hv : v = -1 ∨ (0 ≤ v ∧ v ≤ 1000000000)
    · rw [show decide (v = -1 ∨ (0 ≤ v ∧ v ≤ 1000000000)) = true from decide_eq_true hv] at HV1
      have hn : ((n : Int) != 8) = true := by
        unfold tldB at ht
        rw [decide_eq_true hp, decide_eq_true hv] at ht
        simp at ht ⊢
        omega
      clear hp hv ht
      go_enter Tryd.func46, Tryd.ntmps46
      go_wp2_with (first | (go_at_call 37; refine (HP1 _).mono ?_; rintro e w2 ⟨rfl, rfl⟩) | (go_at_call 38; refine (HV1 _).mono ?_; rintro e w3 ⟨rfl, rfl⟩) | (refine wpList_store_row rfl 68 _ _ rfl w.heap.size #[.int .i64 0, .int .i64 0, .int .i64 0, .int .i64 0, .int .i64 0, .int .i64 0, .int .i64 0, .int .i64 0, .int .i64 0, .int .i64 0, .int .i64 0, .int .i64 0, .int .i64 0, .int .i64 0, .int .i64 0, .int .i64 0, .int .i64 0, .int .i64 0, .int .i64 0, .int .i64 0, .int .i64 0, .int .i64 0, .int .i64 0, .int .i64 0, .int .i64 0, .int .i64 0, .int .i64 0] rfl rfl 68 #[.int .i64 0, .int .i64 0, .int .i64 0, .int .i64 0, .int .i64 0, .int .i64 0, .int .i64 0, .int .i64 0, .int .i64 0, .int .i64 0, .int .i64 0, .int .i64 0, .int .i64 0, .int .i64 0, .int .i64 0, .int .i64 0, .int .i64 0, .int .i64 0, .int .i64 0, .int .i64 0, .int .i64 0, .int .i64 0, .int .i64 0, .int .i64 0, .int .i64 0, .int .i64 0, .int .i64 0] (heap_alloc_new w _) (by kernel_rfl) rfl (by kernel_rfl) ?_))
      have HF := arrL_row (ns := z27) (heap_alloc_new w (.cells #[.int .i64 0, .int .i64 0, .int .i64 0, .int .i64 0, .int .i64 0, .int .i64 0, .int .i64 0, .int .i64 0, .int .i64 0, .int .i64 0, .int .i64 0, .int .i64 0, .int .i64 0, .int .i64 0, .int .i64 0, .int .i64 0, .int .i64 0, .int .i64 0, .int .i64 0, .int .i64 0, .int .i64 0, .int .i64 0, .int .i64 0, .int .i64 0, .int .i64 0, .int .i64 0, .int .i64 0] 68)) (Nat.le_refl _) rfl
      have BF := below_setRow (g := w.heap.size) (c := (IV z27).toArray) (below1 w (.cells #[.int .i64 0, .int .i64 0, .int .i64 0, .int .i64 0, .int .i64 0, .int .i64 0, .int .i64 0, .int .i64 0, .int .i64 0, .int .i64 0, .int .i64 0, .int .i64 0, .int .i64 0, .int .i64 0, .int .i64 0, .int .i64 0, .int .i64 0, .int .i64 0, .int .i64 0, .int .i64 0, .int .i64 0, .int .i64 0, .int .i64 0, .int .i64 0, .int .i64 0, .int .i64 0, .int .i64 0] 68)) (Nat.le_refl _)
      exact bodyPost_ret (v := .tuple #[.agg (IV z27).toArray, .bool false]) (ladRes HF rfl rfl) rfl ⟨rfl, BF⟩
    · rw [show decide (v = -1 ∨ (0 ≤ v ∧ v ≤ 1000000000)) = false from decide_eq_false hv] at HV1
      clear hp hv ht
      go_enter Tryd.func46, Tryd.ntmps46
      go_wp2_with (first | (go_at_call 37; refine (HP1 _).mono ?_; rintro e w2 ⟨rfl, rfl⟩) | (go_at_call 38; refine (HV1 _).mono ?_; rintro e w3 ⟨rfl, rfl⟩) | (refine wpList_store_row rfl 68 _ _ rfl w.heap.size #[.int .i64 0, .int .i64 0, .int .i64 0, .int .i64 0, .int .i64 0, .int .i64 0, .int .i64 0, .int .i64 0, .int .i64 0, .int .i64 0, .int .i64 0, .int .i64 0, .int .i64 0, .int .i64 0, .int .i64 0, .int .i64 0, .int .i64 0, .int .i64 0, .int .i64 0, .int .i64 0, .int .i64 0, .int .i64 0, .int .i64 0, .int .i64 0, .int .i64 0, .int .i64 0, .int .i64 0] rfl rfl 68 #[.int .i64 0, .int .i64 0, .int .i64 0, .int .i64 0, .int .i64 0, .int .i64 0, .int .i64 0, .int .i64 0, .int .i64 0, .int .i64 0, .int .i64 0, .int .i64 0, .int .i64 0, .int .i64 0, .int .i64 0, .int .i64 0, .int .i64 0, .int .i64 0, .int .i64 0, .int .i64 0, .int .i64 0, .int .i64 0, .int .i64 0, .int .i64 0, .int .i64 0, .int .i64 0, .int .i64 0] (heap_alloc_new w _) (by kernel_rfl) rfl (by kernel_rfl) ?_))
      have HF := arrL_row (ns := z27) (heap_alloc_new w (.cells #[.int .i64 0, .int .i64 0, .int .i64 0, .int .i64 0, .int .i64 0, .int .i64 0, .int .i64 0, .int .i64 0, .int .i64 0, .int .i64 0, .int .i64 0, .int .i64 0, .int .i64 0, .int .i64 0, .int .i64 0, .int .i64 0, .int .i64 0, .int .i64 0, .int .i64 0, .int .i64 0, .int .i64 0, .int .i64 0, .int .i64 0, .int .i64 0, .int .i64 0, .int .i64 0, .int .i64 0] 68)) (Nat.le_refl _) rfl
      have BF := below_setRow (g := w.heap.size) (c := (IV z27).toArray) (below1 w (.cells #[.int .i64 0, .int .i64 0, .int .i64 0, .int .i64 0, .int .i64 0, .int .i64 0, .int .i64 0, .int .i64 0, .int .i64 0, .int .i64 0, .int .i64 0, .int .i64 0, .int .i64 0, .int .i64 0, .int .i64 0, .int .i64 0, .int .i64 0, .int .i64 0, .int .i64 0, .int .i64 0, .int .i64 0, .int .i64 0, .int .i64 0, .int .i64 0, .int .i64 0, .int .i64 0, .int .i64 0] 68)) (Nat.le_refl _)
      exact bodyPost_ret (v := .tuple #[.agg (IV z27).toArray, .bool false]) (ladRes HF rfl rfl) rfl ⟨rfl, BF⟩
  · rw [show decide (0 ≤ p ∧ p ≤ 255) = false from decide_eq_false hp] at HP1
    clear hp ht
    go_enter Tryd.func46, Tryd.ntmps46
    go_wp2_with (first | (go_at_call 37; refine (HP1 _).mono ?_; rintro e w2 ⟨rfl, rfl⟩) | (refine wpList_store_row rfl 68 _ _ rfl w.heap.size #[.int .i64 0, .int .i64 0, .int .i64 0, .int .i64 0, .int .i64 0, .int .i64 0, .int .i64 0, .int .i64 0, .int .i64 0, .int .i64 0, .int .i64 0, .int .i64 0, .int .i64 0, .int .i64 0, .int .i64 0, .int .i64 0, .int .i64 0, .int .i64 0, .int .i64 0, .int .i64 0, .int .i64 0, .int .i64 0, .int .i64 0, .int .i64 0, .int .i64 0, .int .i64 0, .int .i64 0] rfl rfl 68 #[.int .i64 0, .int .i64 0, .int .i64 0, .int .i64 0, .int .i64 0, .int .i64 0, .int .i64 0, .int .i64 0, .int .i64 0, .int .i64 0, .int .i64 0, .int .i64 0, .int .i64 0, .int .i64 0, .int .i64 0, .int .i64 0, .int .i64 0, .int .i64 0, .int .i64 0, .int .i64 0, .int .i64 0, .int .i64 0, .int .i64 0, .int .i64 0, .int .i64 0, .int .i64 0, .int .i64 0] (heap_alloc_new w _) (by kernel_rfl) rfl (by kernel_rfl) ?_))
    have HF := arrL_row (ns := z27) (heap_alloc_new w (.cells #[.int .i64 0, .int .i64 0, .int .i64 0, .int .i64 0, .int .i64 0, .int .i64 0, .int .i64 0, .int .i64 0, .int .i64 0, .int .i64 0, .int .i64 0, .int .i64 0, .int .i64 0, .int .i64 0, .int .i64 0, .int .i64 0, .int .i64 0, .int .i64 0, .int .i64 0, .int .i64 0, .int .i64 0, .int .i64 0, .int .i64 0, .int .i64 0, .int .i64 0, .int .i64 0, .int .i64 0] 68)) (Nat.le_refl _) rfl
    have BF := below_setRow (g := w.heap.size) (c := (IV z27).toArray) (below1 w (.cells #[.int .i64 0, .int .i64 0, .int .i64 0, .int .i64 0, .int .i64 0, .int .i64 0, .int .i64 0, .int .i64 0, .int .i64 0, .int .i64 0, .int .i64 0, .int .i64 0, .int .i64 0, .int .i64 0, .int .i64 0, .int .i64 0, .int .i64 0, .int .i64 0, .int .i64 0, .int .i64 0, .int .i64 0, .int .i64 0, .int .i64 0, .int .i64 0, .int .i64 0, .int .i64 0, .int .i64 0] 68)) (Nat.le_refl _)
    exact bodyPost_ret (v := .tuple #[.agg (IV z27).toArray, .bool false]) (ladRes HF rfl rfl) rfl ⟨rfl, BF⟩
set_option maxHeartbeats 8000000 in
set_option maxRecDepth 100000 in
theorem ladderYes_any (A : Nat) (v : Int) (vw : Value) (ws : List Int) (w : World) (hr : RdI w vw ws) (hi : ∀ j, I64 (ws.getD j 0)) (hA : A ≤ 255) (hv : v = -1 ∨ (0 ≤ v ∧ v ≤ 1000000000)) (hn : ws.length = 8) (ht : Tab w) :
    Calls Tryd.prog 46 #[.int .i64 (A : Int), .int .i64 v, vw] w fun e w' => e = .returned (.tuple #[LAD A v ws, .bool true]) ∧ Below w.heap.size w w' := by
  have HP1 := fun W => trieAtOk_any (A : Int) W
  have HV1 := fun W => trieValueOk_any v W
  rw [show decide (0 ≤ (A : Int) ∧ (A : Int) ≤ 255) = true from decide_eq_true (by omega)] at HP1
  rw [show decide (v = -1 ∨ (0 ≤ v ∧ v ≤ 1000000000)) = true from decide_eq_true hv] at HV1
  have HF := fun W t => firstRung_any A v ws W hA hv t
  obtain ⟨a, c, hvw, hc1, hc2, -⟩ := id hr
  rw [hn] at hvw hc1
  unfold maxLen at hc2
  have HW : Hid (ws.length = 8) := hn
  have HR : Hid (RdI w vw ws) := hr
  have HI : Hid (∀ j, I64 (ws.getD j 0)) := hi
  subst hvw
  have a0 := arrL_new w #[.int .i64 0, .int .i64 0, .int .i64 0, .int .i64 0, .int .i64 0, .int .i64 0, .int .i64 0, .int .i64 0, .int .i64 0, .int .i64 0, .int .i64 0, .int .i64 0, .int .i64 0, .int .i64 0, .int .i64 0, .int .i64 0, .int .i64 0, .int .i64 0, .int .i64 0, .int .i64 0, .int .i64 0, .int .i64 0, .int .i64 0, .int .i64 0, .int .i64 0, .int .i64 0, .int .i64 0] z27 rfl rfl
  have b0 := below1 w (.cells #[.int .i64 0, .int .i64 0, .int .i64 0, .int .i64 0, .int .i64 0, .int .i64 0, .int .i64 0, .int .i64 0, .int .i64 0, .int .i64 0, .int .i64 0, .int .i64 0, .int .i64 0, .int .i64 0, .int .i64 0, .int .i64 0, .int .i64 0, .int .i64 0, .int .i64 0, .int .i64 0, .int .i64 0, .int .i64 0, .int .i64 0, .int .i64 0, .int .i64 0, .int .i64 0, .int .i64 0] 68)
  clear hn hr hi hv
  go_enter Tryd.func46, Tryd.ntmps46
  go_wp2_with (first | (go_at_call 37; refine (HP1 _).mono ?_; rintro e wx ⟨rfl, rfl⟩) | (go_at_call 38; refine (HV1 _).mono ?_; rintro e wy ⟨rfl, rfl⟩))
  refine (HF _ (ht.on b0)).mono ?_
  rintro e w1 ⟨rfl, hb1⟩
  go_wp2_with (first | (refine wpList_buildTo rfl 68 _ rfl (some 28) rfl #[.int .i64 (lpa A v ws 0), .int .i64 (lpb A v ws 0), .int .i64 (rnL A v ws 0), .int .i64 0, .int .i64 0, .int .i64 0, .int .i64 0, .int .i64 0, .int .i64 0, .int .i64 0, .int .i64 0, .int .i64 0, .int .i64 0, .int .i64 0, .int .i64 0, .int .i64 0, .int .i64 0, .int .i64 0, .int .i64 0, .int .i64 0, .int .i64 0, .int .i64 0, .int .i64 0, .int .i64 0, .int .i64 0, .int .i64 0, .int .i64 0] (by kernel_rfl) ?_) | (refine wpList_store_row rfl 68 _ _ rfl w1.heap.size #[.int .i64 (lpa A v ws 0), .int .i64 (lpb A v ws 0), .int .i64 (rnL A v ws 0), .int .i64 0, .int .i64 0, .int .i64 0, .int .i64 0, .int .i64 0, .int .i64 0, .int .i64 0, .int .i64 0, .int .i64 0, .int .i64 0, .int .i64 0, .int .i64 0, .int .i64 0, .int .i64 0, .int .i64 0, .int .i64 0, .int .i64 0, .int .i64 0, .int .i64 0, .int .i64 0, .int .i64 0, .int .i64 0, .int .i64 0, .int .i64 0] rfl rfl 68 #[.int .i64 0, .int .i64 0, .int .i64 0, .int .i64 0, .int .i64 0, .int .i64 0, .int .i64 0, .int .i64 0, .int .i64 0, .int .i64 0, .int .i64 0, .int .i64 0, .int .i64 0, .int .i64 0, .int .i64 0, .int .i64 0, .int .i64 0, .int .i64 0, .int .i64 0, .int .i64 0, .int .i64 0, .int .i64 0, .int .i64 0, .int .i64 0, .int .i64 0, .int .i64 0, .int .i64 0] (heap_alloc_new w1 _) (by kernel_rfl) rfl (by kernel_rfl) ?_))
  have a1 := a0.below hb1
  have b1 := b0.trans (hb1.mono (by simp))
  have hs1 := hb1.size
  obtain ⟨BX, hBX⟩ : ∃ BX, BX = w1.heap.size := ⟨_, rfl⟩
  have HBX : Hid (w.heap.size ≤ BX) := by unfold Hid; rw [hBX]; exact b1.size
  have HNE : Hid (BX ≠ w.heap.size) := by unfold Hid; rw [hBX]; simp at hs1; omega
  have q1 : ArrL ((w1.alloc (.cells #[.int .i64 0, .int .i64 0, .int .i64 0, .int .i64 0, .int .i64 0, .int .i64 0, .int .i64 0, .int .i64 0, .int .i64 0, .int .i64 0, .int .i64 0, .int .i64 0, .int .i64 0, .int .i64 0, .int .i64 0, .int .i64 0, .int .i64 0, .int .i64 0, .int .i64 0, .int .i64 0, .int .i64 0, .int .i64 0, .int .i64 0, .int .i64 0, .int .i64 0, .int .i64 0, .int .i64 0] 68)).setRow w1.heap.size #[.int .i64 (lpa A v ws 0), .int .i64 (lpb A v ws 0), .int .i64 (rnL A v ws 0), .int .i64 0, .int .i64 0, .int .i64 0, .int .i64 0, .int .i64 0, .int .i64 0, .int .i64 0, .int .i64 0, .int .i64 0, .int .i64 0, .int .i64 0, .int .i64 0, .int .i64 0, .int .i64 0, .int .i64 0, .int .i64 0, .int .i64 0, .int .i64 0, .int .i64 0, .int .i64 0, .int .i64 0, .int .i64 0, .int .i64 0, .int .i64 0]) w1.heap.size w1.heap.size (ladK A v ws 0) := arrL_row (ns := ladK A v ws 0) (heap_alloc_new w1 (.cells #[.int .i64 0, .int .i64 0, .int .i64 0, .int .i64 0, .int .i64 0, .int .i64 0, .int .i64 0, .int .i64 0, .int .i64 0, .int .i64 0, .int .i64 0, .int .i64 0, .int .i64 0, .int .i64 0, .int .i64 0, .int .i64 0, .int .i64 0, .int .i64 0, .int .i64 0, .int .i64 0, .int .i64 0, .int .i64 0, .int .i64 0, .int .i64 0, .int .i64 0, .int .i64 0, .int .i64 0] 68)) (Nat.le_refl _) rfl
  have b2 := below_setRow (g := w1.heap.size) (c := #[.int .i64 (lpa A v ws 0), .int .i64 (lpb A v ws 0), .int .i64 (rnL A v ws 0), .int .i64 0, .int .i64 0, .int .i64 0, .int .i64 0, .int .i64 0, .int .i64 0, .int .i64 0, .int .i64 0, .int .i64 0, .int .i64 0, .int .i64 0, .int .i64 0, .int .i64 0, .int .i64 0, .int .i64 0, .int .i64 0, .int .i64 0, .int .i64 0, .int .i64 0, .int .i64 0, .int .i64 0, .int .i64 0, .int .i64 0, .int .i64 0]) (b1.trans ((below1 w1 (.cells #[.int .i64 0, .int .i64 0, .int .i64 0, .int .i64 0, .int .i64 0, .int .i64 0, .int .i64 0, .int .i64 0, .int .i64 0, .int .i64 0, .int .i64 0, .int .i64 0, .int .i64 0, .int .i64 0, .int .i64 0, .int .i64 0, .int .i64 0, .int .i64 0, .int .i64 0, .int .i64 0, .int .i64 0, .int .i64 0, .int .i64 0, .int .i64 0, .int .i64 0, .int .i64 0, .int .i64 0] 68)).mono b1.size)) b1.size
  have a2 := (a1.below (below1 w1 (.cells #[.int .i64 0, .int .i64 0, .int .i64 0, .int .i64 0, .int .i64 0, .int .i64 0, .int .i64 0, .int .i64 0, .int .i64 0, .int .i64 0, .int .i64 0, .int .i64 0, .int .i64 0, .int .i64 0, .int .i64 0, .int .i64 0, .int .i64 0, .int .i64 0, .int .i64 0, .int .i64 0, .int .i64 0, .int .i64 0, .int .i64 0, .int .i64 0, .int .i64 0, .int .i64 0, .int .i64 0] 68))).row (g := w1.heap.size) (c := #[.int .i64 (lpa A v ws 0), .int .i64 (lpb A v ws 0), .int .i64 (rnL A v ws 0), .int .i64 0, .int .i64 0, .int .i64 0, .int .i64 0, .int .i64 0, .int .i64 0, .int .i64 0, .int .i64 0, .int .i64 0, .int .i64 0, .int .i64 0, .int .i64 0, .int .i64 0, .int .i64 0, .int .i64 0, .int .i64 0, .int .i64 0, .int .i64 0, .int .i64 0, .int .i64 0, .int .i64 0, .int .i64 0, .int .i64 0, .int .i64 0]) (by rw [← hBX]; exact HNE.out.symm)
  rw [← hBX] at q1 b2 a2 ⊢
  clear a0 b0 hb1 a1 b1 hs1 HP1 HV1 HF
  generalize (w1.alloc (.cells #[.int .i64 0, .int .i64 0, .int .i64 0, .int .i64 0, .int .i64 0, .int .i64 0, .int .i64 0, .int .i64 0, .int .i64 0, .int .i64 0, .int .i64 0, .int .i64 0, .int .i64 0, .int .i64 0, .int .i64 0, .int .i64 0, .int .i64 0, .int .i64 0, .int .i64 0, .int .i64 0, .int .i64 0, .int .i64 0, .int .i64 0, .int .i64 0, .int .i64 0, .int .i64 0, .int .i64 0] 68)).setRow BX #[.int .i64 (lpa A v ws 0), .int .i64 (lpb A v ws 0), .int .i64 (rnL A v ws 0), .int .i64 0, .int .i64 0, .int .i64 0, .int .i64 0, .int .i64 0, .int .i64 0, .int .i64 0, .int .i64 0, .int .i64 0, .int .i64 0, .int .i64 0, .int .i64 0, .int .i64 0, .int .i64 0, .int .i64 0, .int .i64 0, .int .i64 0, .int .i64 0, .int .i64 0, .int .i64 0, .int .i64 0, .int .i64 0, .int .i64 0, .int .i64 0] = W2 at q1 b2 a2 ⊢
  clear hBX
  go_loopw [31] (fun s31 wr => ∃ k : Nat, k ≤ 8 ∧ s31 = .int .i64 k ∧ ArrL wr w.heap.size w.heap.size z27 ∧ ArrL wr BX BX (ladK A v ws k) ∧ Below w.heap.size w wr) (fun s31 _ => 8 - (intOf s31).toNat)
  case atStart => exact ⟨0, by omega, rfl, a2, q1, b2⟩
  case round =>
    obtain ⟨k, hk, rfl, q0, hq, hb⟩ := hrel
    clear a2 q1 b2
    have h8 : k = 0 ∨ k = 1 ∨ k = 2 ∨ k = 3 ∨ k = 4 ∨ k = 5 ∨ k = 6 ∨ k = 7 ∨ k = 8 := by omega
    rcases h8 with rfl | rfl | rfl | rfl | rfl | rfl | rfl | rfl | rfl
    · have hw0 : I64 (ws.getD 0 0) := HI.out 0
      obtain ⟨b, off, rfl, d0⟩ := (HR.out.below hb).at 0 (by rw [HW.out]; omega)
      rw [getD_at, Nat.add_zero] at d0
      have c0 : wr.cell? ⟨BX, 2, none⟩ = some (.int .i64 (rnL A v ws 0)) := hq.cell 2 (by omega)
      by_cases hpar : A / 2 ^ 0 % 2 = 0
      · skip
        have hsr : ((A : Int)) % 2 = 0 := by have h := hpar; simp at h; omega
        have hsr2 : (((A : Int)) % 2 == 0) = true := by rw [hsr]; rfl
        have ea : lpa A v ws 1 = rnL A v ws 0 := by show (if A / 2 ^ 0 % 2 = 0 then _ else _) = _; rw [if_pos hpar]
        have eb : lpb A v ws 1 = ws.getD 0 0 := by show (if A / 2 ^ 0 % 2 = 0 then _ else _) = _; rw [if_pos hpar]
        have en : rnL A v ws 1 = pr (rnL A v ws 0) (ws.getD 0 0) := by show (if A / 2 ^ 0 % 2 = 0 then _ else _) = _; rw [if_pos hpar]
        have EE : Hid (lpa A v ws 1 = rnL A v ws 0 ∧ lpb A v ws 1 = ws.getD 0 0 ∧ rnL A v ws 1 = pr (rnL A v ws 0) (ws.getD 0 0)) := ⟨ea, eb, en⟩
        have HC := fun W t => pairRung_any (rnL A v ws 0) (ws.getD 0 0) W (rnL_i64 _ _ _ _) hw0 t
        clear hpar ea eb en
        go_wp2_with (go_at_call 71; refine (HC _ (ht.on hb)).mono ?_; rintro e w3 ⟨rfl, hb3⟩; have hq3 := hq.below hb3; have q03 := q0.below hb3; have f3 := fun j => World.ownsRow.frozenAt hq3 j; have g0 := hq3.cell 3 (by omega); have g1 := hq3.cell 4 (by omega); have g2 := hq3.cell 5 (by omega))
        have b3 := hb.trans (hb3.mono hb.size)
        have r3 : ArrL _ BX BX _ := ((hq3.set 3 (rnL A v ws 0)).set 4 (ws.getD 0 0)).set 5 (pr (rnL A v ws 0) (ws.getD 0 0))
        have r0 := ((q03.other (c := BX) (j := 3) (x := .int .i64 (rnL A v ws 0)) HNE.out).other (c := BX) (j := 4) (x := .int .i64 (ws.getD 0 0)) HNE.out).other (c := BX) (j := 5) (x := .int .i64 (pr (rnL A v ws 0) (ws.getD 0 0))) HNE.out
        have r4 := ((b3.setCell (p := ⟨BX, 3, none⟩) HBX.out (.int .i64 (rnL A v ws 0))).setCell (p := ⟨BX, 4, none⟩) HBX.out (.int .i64 (ws.getD 0 0))).setCell (p := ⟨BX, 5, none⟩) HBX.out (.int .i64 (pr (rnL A v ws 0) (ws.getD 0 0)))
        have e5 := ladK_step A v ws 0
        rw [EE.out.1, EE.out.2.1, EE.out.2.2] at e5
        rw [e5] at r3
        have H1 : Hid (ArrL _ BX BX _) := r3
        clear g0 g1 g2 f3 c0 d0 hq q0 hq3 q03 hb hb3 b3 r3 e5 HC
        go_wp2
        go_roundw
        case rel => exact ⟨1, by omega, by go_num, r0, H1.out, r4⟩
        case measure => simp [intOf]
      · skip
        have hsr : ((A : Int)) % 2 = 1 := by have h := hpar; simp at h; omega
        have hsr2 : (((A : Int)) % 2 == 0) = false := by rw [hsr]; rfl
        have ea : lpa A v ws 1 = ws.getD 0 0 := by show (if A / 2 ^ 0 % 2 = 0 then _ else _) = _; rw [if_neg hpar]
        have eb : lpb A v ws 1 = rnL A v ws 0 := by show (if A / 2 ^ 0 % 2 = 0 then _ else _) = _; rw [if_neg hpar]
        have en : rnL A v ws 1 = pr (ws.getD 0 0) (rnL A v ws 0) := by show (if A / 2 ^ 0 % 2 = 0 then _ else _) = _; rw [if_neg hpar]
        have EE : Hid (lpa A v ws 1 = ws.getD 0 0 ∧ lpb A v ws 1 = rnL A v ws 0 ∧ rnL A v ws 1 = pr (ws.getD 0 0) (rnL A v ws 0)) := ⟨ea, eb, en⟩
        have HC := fun W t => pairRung_any (ws.getD 0 0) (rnL A v ws 0) W hw0 (rnL_i64 _ _ _ _) t
        clear hpar ea eb en
        go_wp2_with (go_at_call 71; refine (HC _ (ht.on hb)).mono ?_; rintro e w3 ⟨rfl, hb3⟩; have hq3 := hq.below hb3; have q03 := q0.below hb3; have f3 := fun j => World.ownsRow.frozenAt hq3 j; have g0 := hq3.cell 3 (by omega); have g1 := hq3.cell 4 (by omega); have g2 := hq3.cell 5 (by omega))
        have b3 := hb.trans (hb3.mono hb.size)
        have r3 : ArrL _ BX BX _ := ((hq3.set 3 (ws.getD 0 0)).set 4 (rnL A v ws 0)).set 5 (pr (ws.getD 0 0) (rnL A v ws 0))
        have r0 := ((q03.other (c := BX) (j := 3) (x := .int .i64 (ws.getD 0 0)) HNE.out).other (c := BX) (j := 4) (x := .int .i64 (rnL A v ws 0)) HNE.out).other (c := BX) (j := 5) (x := .int .i64 (pr (ws.getD 0 0) (rnL A v ws 0))) HNE.out
        have r4 := ((b3.setCell (p := ⟨BX, 3, none⟩) HBX.out (.int .i64 (ws.getD 0 0))).setCell (p := ⟨BX, 4, none⟩) HBX.out (.int .i64 (rnL A v ws 0))).setCell (p := ⟨BX, 5, none⟩) HBX.out (.int .i64 (pr (ws.getD 0 0) (rnL A v ws 0)))
        have e5 := ladK_step A v ws 0
        rw [EE.out.1, EE.out.2.1, EE.out.2.2] at e5
        rw [e5] at r3
        have H1 : Hid (ArrL _ BX BX _) := r3
        clear g0 g1 g2 f3 c0 d0 hq q0 hq3 q03 hb hb3 b3 r3 e5 HC
        go_wp2
        go_roundw
        case rel => exact ⟨1, by omega, by go_num, r0, H1.out, r4⟩
        case measure => simp [intOf]
    · have hw0 : I64 (ws.getD 1 0) := HI.out 1
      obtain ⟨b, off, rfl, d0⟩ := (HR.out.below hb).at 1 (by rw [HW.out]; omega)
      rw [getD_at] at d0
      have c0 : wr.cell? ⟨BX, 5, none⟩ = some (.int .i64 (rnL A v ws 1)) := hq.cell 5 (by omega)
      by_cases hpar : A / 2 ^ 1 % 2 = 0
      · skip
        have hsr : ((A : Int) / 2) % 2 = 0 := by have h := hpar; simp at h; omega
        have hsr2 : (((A : Int) / 2) % 2 == 0) = true := by rw [hsr]; rfl
        have ea : lpa A v ws 2 = rnL A v ws 1 := by show (if A / 2 ^ 1 % 2 = 0 then _ else _) = _; rw [if_pos hpar]
        have eb : lpb A v ws 2 = ws.getD 1 0 := by show (if A / 2 ^ 1 % 2 = 0 then _ else _) = _; rw [if_pos hpar]
        have en : rnL A v ws 2 = pr (rnL A v ws 1) (ws.getD 1 0) := by show (if A / 2 ^ 1 % 2 = 0 then _ else _) = _; rw [if_pos hpar]
        have EE : Hid (lpa A v ws 2 = rnL A v ws 1 ∧ lpb A v ws 2 = ws.getD 1 0 ∧ rnL A v ws 2 = pr (rnL A v ws 1) (ws.getD 1 0)) := ⟨ea, eb, en⟩
        have HC := fun W t => pairRung_any (rnL A v ws 1) (ws.getD 1 0) W (rnL_i64 _ _ _ _) hw0 t
        clear hpar ea eb en
        go_wp2_with (go_at_call 71; refine (HC _ (ht.on hb)).mono ?_; rintro e w3 ⟨rfl, hb3⟩; have hq3 := hq.below hb3; have q03 := q0.below hb3; have f3 := fun j => World.ownsRow.frozenAt hq3 j; have g0 := hq3.cell 6 (by omega); have g1 := hq3.cell 7 (by omega); have g2 := hq3.cell 8 (by omega))
        have b3 := hb.trans (hb3.mono hb.size)
        have r3 : ArrL _ BX BX _ := ((hq3.set 6 (rnL A v ws 1)).set 7 (ws.getD 1 0)).set 8 (pr (rnL A v ws 1) (ws.getD 1 0))
        have r0 := ((q03.other (c := BX) (j := 6) (x := .int .i64 (rnL A v ws 1)) HNE.out).other (c := BX) (j := 7) (x := .int .i64 (ws.getD 1 0)) HNE.out).other (c := BX) (j := 8) (x := .int .i64 (pr (rnL A v ws 1) (ws.getD 1 0))) HNE.out
        have r4 := ((b3.setCell (p := ⟨BX, 6, none⟩) HBX.out (.int .i64 (rnL A v ws 1))).setCell (p := ⟨BX, 7, none⟩) HBX.out (.int .i64 (ws.getD 1 0))).setCell (p := ⟨BX, 8, none⟩) HBX.out (.int .i64 (pr (rnL A v ws 1) (ws.getD 1 0)))
        have e5 := ladK_step A v ws 1
        rw [EE.out.1, EE.out.2.1, EE.out.2.2] at e5
        rw [e5] at r3
        have H1 : Hid (ArrL _ BX BX _) := r3
        clear g0 g1 g2 f3 c0 d0 hq q0 hq3 q03 hb hb3 b3 r3 e5 HC
        go_wp2
        go_roundw
        case rel => exact ⟨2, by omega, by go_num, r0, H1.out, r4⟩
        case measure => simp [intOf]
      · skip
        have hsr : ((A : Int) / 2) % 2 = 1 := by have h := hpar; simp at h; omega
        have hsr2 : (((A : Int) / 2) % 2 == 0) = false := by rw [hsr]; rfl
        have ea : lpa A v ws 2 = ws.getD 1 0 := by show (if A / 2 ^ 1 % 2 = 0 then _ else _) = _; rw [if_neg hpar]
        have eb : lpb A v ws 2 = rnL A v ws 1 := by show (if A / 2 ^ 1 % 2 = 0 then _ else _) = _; rw [if_neg hpar]
        have en : rnL A v ws 2 = pr (ws.getD 1 0) (rnL A v ws 1) := by show (if A / 2 ^ 1 % 2 = 0 then _ else _) = _; rw [if_neg hpar]
        have EE : Hid (lpa A v ws 2 = ws.getD 1 0 ∧ lpb A v ws 2 = rnL A v ws 1 ∧ rnL A v ws 2 = pr (ws.getD 1 0) (rnL A v ws 1)) := ⟨ea, eb, en⟩
        have HC := fun W t => pairRung_any (ws.getD 1 0) (rnL A v ws 1) W hw0 (rnL_i64 _ _ _ _) t
        clear hpar ea eb en
        go_wp2_with (go_at_call 71; refine (HC _ (ht.on hb)).mono ?_; rintro e w3 ⟨rfl, hb3⟩; have hq3 := hq.below hb3; have q03 := q0.below hb3; have f3 := fun j => World.ownsRow.frozenAt hq3 j; have g0 := hq3.cell 6 (by omega); have g1 := hq3.cell 7 (by omega); have g2 := hq3.cell 8 (by omega))
        have b3 := hb.trans (hb3.mono hb.size)
        have r3 : ArrL _ BX BX _ := ((hq3.set 6 (ws.getD 1 0)).set 7 (rnL A v ws 1)).set 8 (pr (ws.getD 1 0) (rnL A v ws 1))
        have r0 := ((q03.other (c := BX) (j := 6) (x := .int .i64 (ws.getD 1 0)) HNE.out).other (c := BX) (j := 7) (x := .int .i64 (rnL A v ws 1)) HNE.out).other (c := BX) (j := 8) (x := .int .i64 (pr (ws.getD 1 0) (rnL A v ws 1))) HNE.out
        have r4 := ((b3.setCell (p := ⟨BX, 6, none⟩) HBX.out (.int .i64 (ws.getD 1 0))).setCell (p := ⟨BX, 7, none⟩) HBX.out (.int .i64 (rnL A v ws 1))).setCell (p := ⟨BX, 8, none⟩) HBX.out (.int .i64 (pr (ws.getD 1 0) (rnL A v ws 1)))
        have e5 := ladK_step A v ws 1
        rw [EE.out.1, EE.out.2.1, EE.out.2.2] at e5
        rw [e5] at r3
        have H1 : Hid (ArrL _ BX BX _) := r3
        clear g0 g1 g2 f3 c0 d0 hq q0 hq3 q03 hb hb3 b3 r3 e5 HC
        go_wp2
        go_roundw
        case rel => exact ⟨2, by omega, by go_num, r0, H1.out, r4⟩
        case measure => simp [intOf]
    · have hw0 : I64 (ws.getD 2 0) := HI.out 2
      obtain ⟨b, off, rfl, d0⟩ := (HR.out.below hb).at 2 (by rw [HW.out]; omega)
      rw [getD_at] at d0
      have c0 : wr.cell? ⟨BX, 8, none⟩ = some (.int .i64 (rnL A v ws 2)) := hq.cell 8 (by omega)
      by_cases hpar : A / 2 ^ 2 % 2 = 0
      · skip
        have hsr : ((A : Int) / 4) % 2 = 0 := by have h := hpar; simp at h; omega
        have hsr2 : (((A : Int) / 4) % 2 == 0) = true := by rw [hsr]; rfl
        have ea : lpa A v ws 3 = rnL A v ws 2 := by show (if A / 2 ^ 2 % 2 = 0 then _ else _) = _; rw [if_pos hpar]
        have eb : lpb A v ws 3 = ws.getD 2 0 := by show (if A / 2 ^ 2 % 2 = 0 then _ else _) = _; rw [if_pos hpar]
        have en : rnL A v ws 3 = pr (rnL A v ws 2) (ws.getD 2 0) := by show (if A / 2 ^ 2 % 2 = 0 then _ else _) = _; rw [if_pos hpar]
        have EE : Hid (lpa A v ws 3 = rnL A v ws 2 ∧ lpb A v ws 3 = ws.getD 2 0 ∧ rnL A v ws 3 = pr (rnL A v ws 2) (ws.getD 2 0)) := ⟨ea, eb, en⟩
        have HC := fun W t => pairRung_any (rnL A v ws 2) (ws.getD 2 0) W (rnL_i64 _ _ _ _) hw0 t
        clear hpar ea eb en
        go_wp2_with (go_at_call 71; refine (HC _ (ht.on hb)).mono ?_; rintro e w3 ⟨rfl, hb3⟩; have hq3 := hq.below hb3; have q03 := q0.below hb3; have f3 := fun j => World.ownsRow.frozenAt hq3 j; have g0 := hq3.cell 9 (by omega); have g1 := hq3.cell 10 (by omega); have g2 := hq3.cell 11 (by omega))
        have b3 := hb.trans (hb3.mono hb.size)
        have r3 : ArrL _ BX BX _ := ((hq3.set 9 (rnL A v ws 2)).set 10 (ws.getD 2 0)).set 11 (pr (rnL A v ws 2) (ws.getD 2 0))
        have r0 := ((q03.other (c := BX) (j := 9) (x := .int .i64 (rnL A v ws 2)) HNE.out).other (c := BX) (j := 10) (x := .int .i64 (ws.getD 2 0)) HNE.out).other (c := BX) (j := 11) (x := .int .i64 (pr (rnL A v ws 2) (ws.getD 2 0))) HNE.out
        have r4 := ((b3.setCell (p := ⟨BX, 9, none⟩) HBX.out (.int .i64 (rnL A v ws 2))).setCell (p := ⟨BX, 10, none⟩) HBX.out (.int .i64 (ws.getD 2 0))).setCell (p := ⟨BX, 11, none⟩) HBX.out (.int .i64 (pr (rnL A v ws 2) (ws.getD 2 0)))
        have e5 := ladK_step A v ws 2
        rw [EE.out.1, EE.out.2.1, EE.out.2.2] at e5
        rw [e5] at r3
        have H1 : Hid (ArrL _ BX BX _) := r3
        clear g0 g1 g2 f3 c0 d0 hq q0 hq3 q03 hb hb3 b3 r3 e5 HC
        go_wp2
        go_roundw
        case rel => exact ⟨3, by omega, by go_num, r0, H1.out, r4⟩
        case measure => simp [intOf]
      · skip
        have hsr : ((A : Int) / 4) % 2 = 1 := by have h := hpar; simp at h; omega
        have hsr2 : (((A : Int) / 4) % 2 == 0) = false := by rw [hsr]; rfl
        have ea : lpa A v ws 3 = ws.getD 2 0 := by show (if A / 2 ^ 2 % 2 = 0 then _ else _) = _; rw [if_neg hpar]
        have eb : lpb A v ws 3 = rnL A v ws 2 := by show (if A / 2 ^ 2 % 2 = 0 then _ else _) = _; rw [if_neg hpar]
        have en : rnL A v ws 3 = pr (ws.getD 2 0) (rnL A v ws 2) := by show (if A / 2 ^ 2 % 2 = 0 then _ else _) = _; rw [if_neg hpar]
        have EE : Hid (lpa A v ws 3 = ws.getD 2 0 ∧ lpb A v ws 3 = rnL A v ws 2 ∧ rnL A v ws 3 = pr (ws.getD 2 0) (rnL A v ws 2)) := ⟨ea, eb, en⟩
        have HC := fun W t => pairRung_any (ws.getD 2 0) (rnL A v ws 2) W hw0 (rnL_i64 _ _ _ _) t
        clear hpar ea eb en
        go_wp2_with (go_at_call 71; refine (HC _ (ht.on hb)).mono ?_; rintro e w3 ⟨rfl, hb3⟩; have hq3 := hq.below hb3; have q03 := q0.below hb3; have f3 := fun j => World.ownsRow.frozenAt hq3 j; have g0 := hq3.cell 9 (by omega); have g1 := hq3.cell 10 (by omega); have g2 := hq3.cell 11 (by omega))
        have b3 := hb.trans (hb3.mono hb.size)
        have r3 : ArrL _ BX BX _ := ((hq3.set 9 (ws.getD 2 0)).set 10 (rnL A v ws 2)).set 11 (pr (ws.getD 2 0) (rnL A v ws 2))
        have r0 := ((q03.other (c := BX) (j := 9) (x := .int .i64 (ws.getD 2 0)) HNE.out).other (c := BX) (j := 10) (x := .int .i64 (rnL A v ws 2)) HNE.out).other (c := BX) (j := 11) (x := .int .i64 (pr (ws.getD 2 0) (rnL A v ws 2))) HNE.out
        have r4 := ((b3.setCell (p := ⟨BX, 9, none⟩) HBX.out (.int .i64 (ws.getD 2 0))).setCell (p := ⟨BX, 10, none⟩) HBX.out (.int .i64 (rnL A v ws 2))).setCell (p := ⟨BX, 11, none⟩) HBX.out (.int .i64 (pr (ws.getD 2 0) (rnL A v ws 2)))
        have e5 := ladK_step A v ws 2
        rw [EE.out.1, EE.out.2.1, EE.out.2.2] at e5
        rw [e5] at r3
        have H1 : Hid (ArrL _ BX BX _) := r3
        clear g0 g1 g2 f3 c0 d0 hq q0 hq3 q03 hb hb3 b3 r3 e5 HC
        go_wp2
        go_roundw
        case rel => exact ⟨3, by omega, by go_num, r0, H1.out, r4⟩
        case measure => simp [intOf]
    · have hw0 : I64 (ws.getD 3 0) := HI.out 3
      obtain ⟨b, off, rfl, d0⟩ := (HR.out.below hb).at 3 (by rw [HW.out]; omega)
      rw [getD_at] at d0
      have c0 : wr.cell? ⟨BX, 11, none⟩ = some (.int .i64 (rnL A v ws 3)) := hq.cell 11 (by omega)
      by_cases hpar : A / 2 ^ 3 % 2 = 0
      · skip
        have hsr : ((A : Int) / 8) % 2 = 0 := by have h := hpar; simp at h; omega
        have hsr2 : (((A : Int) / 8) % 2 == 0) = true := by rw [hsr]; rfl
        have ea : lpa A v ws 4 = rnL A v ws 3 := by show (if A / 2 ^ 3 % 2 = 0 then _ else _) = _; rw [if_pos hpar]
        have eb : lpb A v ws 4 = ws.getD 3 0 := by show (if A / 2 ^ 3 % 2 = 0 then _ else _) = _; rw [if_pos hpar]
        have en : rnL A v ws 4 = pr (rnL A v ws 3) (ws.getD 3 0) := by show (if A / 2 ^ 3 % 2 = 0 then _ else _) = _; rw [if_pos hpar]
        have EE : Hid (lpa A v ws 4 = rnL A v ws 3 ∧ lpb A v ws 4 = ws.getD 3 0 ∧ rnL A v ws 4 = pr (rnL A v ws 3) (ws.getD 3 0)) := ⟨ea, eb, en⟩
        have HC := fun W t => pairRung_any (rnL A v ws 3) (ws.getD 3 0) W (rnL_i64 _ _ _ _) hw0 t
        clear hpar ea eb en
        go_wp2_with (go_at_call 71; refine (HC _ (ht.on hb)).mono ?_; rintro e w3 ⟨rfl, hb3⟩; have hq3 := hq.below hb3; have q03 := q0.below hb3; have f3 := fun j => World.ownsRow.frozenAt hq3 j; have g0 := hq3.cell 12 (by omega); have g1 := hq3.cell 13 (by omega); have g2 := hq3.cell 14 (by omega))
        have b3 := hb.trans (hb3.mono hb.size)
        have r3 : ArrL _ BX BX _ := ((hq3.set 12 (rnL A v ws 3)).set 13 (ws.getD 3 0)).set 14 (pr (rnL A v ws 3) (ws.getD 3 0))
        have r0 := ((q03.other (c := BX) (j := 12) (x := .int .i64 (rnL A v ws 3)) HNE.out).other (c := BX) (j := 13) (x := .int .i64 (ws.getD 3 0)) HNE.out).other (c := BX) (j := 14) (x := .int .i64 (pr (rnL A v ws 3) (ws.getD 3 0))) HNE.out
        have r4 := ((b3.setCell (p := ⟨BX, 12, none⟩) HBX.out (.int .i64 (rnL A v ws 3))).setCell (p := ⟨BX, 13, none⟩) HBX.out (.int .i64 (ws.getD 3 0))).setCell (p := ⟨BX, 14, none⟩) HBX.out (.int .i64 (pr (rnL A v ws 3) (ws.getD 3 0)))
        have e5 := ladK_step A v ws 3
        rw [EE.out.1, EE.out.2.1, EE.out.2.2] at e5
        rw [e5] at r3
        have H1 : Hid (ArrL _ BX BX _) := r3
        clear g0 g1 g2 f3 c0 d0 hq q0 hq3 q03 hb hb3 b3 r3 e5 HC
        go_wp2
        go_roundw
        case rel => exact ⟨4, by omega, by go_num, r0, H1.out, r4⟩
        case measure => simp [intOf]
      · skip
        have hsr : ((A : Int) / 8) % 2 = 1 := by have h := hpar; simp at h; omega
        have hsr2 : (((A : Int) / 8) % 2 == 0) = false := by rw [hsr]; rfl
        have ea : lpa A v ws 4 = ws.getD 3 0 := by show (if A / 2 ^ 3 % 2 = 0 then _ else _) = _; rw [if_neg hpar]
        have eb : lpb A v ws 4 = rnL A v ws 3 := by show (if A / 2 ^ 3 % 2 = 0 then _ else _) = _; rw [if_neg hpar]
        have en : rnL A v ws 4 = pr (ws.getD 3 0) (rnL A v ws 3) := by show (if A / 2 ^ 3 % 2 = 0 then _ else _) = _; rw [if_neg hpar]
        have EE : Hid (lpa A v ws 4 = ws.getD 3 0 ∧ lpb A v ws 4 = rnL A v ws 3 ∧ rnL A v ws 4 = pr (ws.getD 3 0) (rnL A v ws 3)) := ⟨ea, eb, en⟩
        have HC := fun W t => pairRung_any (ws.getD 3 0) (rnL A v ws 3) W hw0 (rnL_i64 _ _ _ _) t
        clear hpar ea eb en
        go_wp2_with (go_at_call 71; refine (HC _ (ht.on hb)).mono ?_; rintro e w3 ⟨rfl, hb3⟩; have hq3 := hq.below hb3; have q03 := q0.below hb3; have f3 := fun j => World.ownsRow.frozenAt hq3 j; have g0 := hq3.cell 12 (by omega); have g1 := hq3.cell 13 (by omega); have g2 := hq3.cell 14 (by omega))
        have b3 := hb.trans (hb3.mono hb.size)
        have r3 : ArrL _ BX BX _ := ((hq3.set 12 (ws.getD 3 0)).set 13 (rnL A v ws 3)).set 14 (pr (ws.getD 3 0) (rnL A v ws 3))
        have r0 := ((q03.other (c := BX) (j := 12) (x := .int .i64 (ws.getD 3 0)) HNE.out).other (c := BX) (j := 13) (x := .int .i64 (rnL A v ws 3)) HNE.out).other (c := BX) (j := 14) (x := .int .i64 (pr (ws.getD 3 0) (rnL A v ws 3))) HNE.out
        have r4 := ((b3.setCell (p := ⟨BX, 12, none⟩) HBX.out (.int .i64 (ws.getD 3 0))).setCell (p := ⟨BX, 13, none⟩) HBX.out (.int .i64 (rnL A v ws 3))).setCell (p := ⟨BX, 14, none⟩) HBX.out (.int .i64 (pr (ws.getD 3 0) (rnL A v ws 3)))
        have e5 := ladK_step A v ws 3
        rw [EE.out.1, EE.out.2.1, EE.out.2.2] at e5
        rw [e5] at r3
        have H1 : Hid (ArrL _ BX BX _) := r3
        clear g0 g1 g2 f3 c0 d0 hq q0 hq3 q03 hb hb3 b3 r3 e5 HC
        go_wp2
        go_roundw
        case rel => exact ⟨4, by omega, by go_num, r0, H1.out, r4⟩
        case measure => simp [intOf]
    · have hw0 : I64 (ws.getD 4 0) := HI.out 4
      obtain ⟨b, off, rfl, d0⟩ := (HR.out.below hb).at 4 (by rw [HW.out]; omega)
      rw [getD_at] at d0
      have c0 : wr.cell? ⟨BX, 14, none⟩ = some (.int .i64 (rnL A v ws 4)) := hq.cell 14 (by omega)
      by_cases hpar : A / 2 ^ 4 % 2 = 0
      · skip
        have hsr : ((A : Int) / 16) % 2 = 0 := by have h := hpar; simp at h; omega
        have hsr2 : (((A : Int) / 16) % 2 == 0) = true := by rw [hsr]; rfl
        have ea : lpa A v ws 5 = rnL A v ws 4 := by show (if A / 2 ^ 4 % 2 = 0 then _ else _) = _; rw [if_pos hpar]
        have eb : lpb A v ws 5 = ws.getD 4 0 := by show (if A / 2 ^ 4 % 2 = 0 then _ else _) = _; rw [if_pos hpar]
        have en : rnL A v ws 5 = pr (rnL A v ws 4) (ws.getD 4 0) := by show (if A / 2 ^ 4 % 2 = 0 then _ else _) = _; rw [if_pos hpar]
        have EE : Hid (lpa A v ws 5 = rnL A v ws 4 ∧ lpb A v ws 5 = ws.getD 4 0 ∧ rnL A v ws 5 = pr (rnL A v ws 4) (ws.getD 4 0)) := ⟨ea, eb, en⟩
        have HC := fun W t => pairRung_any (rnL A v ws 4) (ws.getD 4 0) W (rnL_i64 _ _ _ _) hw0 t
        clear hpar ea eb en
        go_wp2_with (go_at_call 71; refine (HC _ (ht.on hb)).mono ?_; rintro e w3 ⟨rfl, hb3⟩; have hq3 := hq.below hb3; have q03 := q0.below hb3; have f3 := fun j => World.ownsRow.frozenAt hq3 j; have g0 := hq3.cell 15 (by omega); have g1 := hq3.cell 16 (by omega); have g2 := hq3.cell 17 (by omega))
        have b3 := hb.trans (hb3.mono hb.size)
        have r3 : ArrL _ BX BX _ := ((hq3.set 15 (rnL A v ws 4)).set 16 (ws.getD 4 0)).set 17 (pr (rnL A v ws 4) (ws.getD 4 0))
        have r0 := ((q03.other (c := BX) (j := 15) (x := .int .i64 (rnL A v ws 4)) HNE.out).other (c := BX) (j := 16) (x := .int .i64 (ws.getD 4 0)) HNE.out).other (c := BX) (j := 17) (x := .int .i64 (pr (rnL A v ws 4) (ws.getD 4 0))) HNE.out
        have r4 := ((b3.setCell (p := ⟨BX, 15, none⟩) HBX.out (.int .i64 (rnL A v ws 4))).setCell (p := ⟨BX, 16, none⟩) HBX.out (.int .i64 (ws.getD 4 0))).setCell (p := ⟨BX, 17, none⟩) HBX.out (.int .i64 (pr (rnL A v ws 4) (ws.getD 4 0)))
        have e5 := ladK_step A v ws 4
        rw [EE.out.1, EE.out.2.1, EE.out.2.2] at e5
        rw [e5] at r3
        have H1 : Hid (ArrL _ BX BX _) := r3
        clear g0 g1 g2 f3 c0 d0 hq q0 hq3 q03 hb hb3 b3 r3 e5 HC
        go_wp2
        go_roundw
        case rel => exact ⟨5, by omega, by go_num, r0, H1.out, r4⟩
        case measure => simp [intOf]
      · skip
        have hsr : ((A : Int) / 16) % 2 = 1 := by have h := hpar; simp at h; omega
        have hsr2 : (((A : Int) / 16) % 2 == 0) = false := by rw [hsr]; rfl
        have ea : lpa A v ws 5 = ws.getD 4 0 := by show (if A / 2 ^ 4 % 2 = 0 then _ else _) = _; rw [if_neg hpar]
        have eb : lpb A v ws 5 = rnL A v ws 4 := by show (if A / 2 ^ 4 % 2 = 0 then _ else _) = _; rw [if_neg hpar]
        have en : rnL A v ws 5 = pr (ws.getD 4 0) (rnL A v ws 4) := by show (if A / 2 ^ 4 % 2 = 0 then _ else _) = _; rw [if_neg hpar]
        have EE : Hid (lpa A v ws 5 = ws.getD 4 0 ∧ lpb A v ws 5 = rnL A v ws 4 ∧ rnL A v ws 5 = pr (ws.getD 4 0) (rnL A v ws 4)) := ⟨ea, eb, en⟩
        have HC := fun W t => pairRung_any (ws.getD 4 0) (rnL A v ws 4) W hw0 (rnL_i64 _ _ _ _) t
        clear hpar ea eb en
        go_wp2_with (go_at_call 71; refine (HC _ (ht.on hb)).mono ?_; rintro e w3 ⟨rfl, hb3⟩; have hq3 := hq.below hb3; have q03 := q0.below hb3; have f3 := fun j => World.ownsRow.frozenAt hq3 j; have g0 := hq3.cell 15 (by omega); have g1 := hq3.cell 16 (by omega); have g2 := hq3.cell 17 (by omega))
        have b3 := hb.trans (hb3.mono hb.size)
        have r3 : ArrL _ BX BX _ := ((hq3.set 15 (ws.getD 4 0)).set 16 (rnL A v ws 4)).set 17 (pr (ws.getD 4 0) (rnL A v ws 4))
        have r0 := ((q03.other (c := BX) (j := 15) (x := .int .i64 (ws.getD 4 0)) HNE.out).other (c := BX) (j := 16) (x := .int .i64 (rnL A v ws 4)) HNE.out).other (c := BX) (j := 17) (x := .int .i64 (pr (ws.getD 4 0) (rnL A v ws 4))) HNE.out
        have r4 := ((b3.setCell (p := ⟨BX, 15, none⟩) HBX.out (.int .i64 (ws.getD 4 0))).setCell (p := ⟨BX, 16, none⟩) HBX.out (.int .i64 (rnL A v ws 4))).setCell (p := ⟨BX, 17, none⟩) HBX.out (.int .i64 (pr (ws.getD 4 0) (rnL A v ws 4)))
        have e5 := ladK_step A v ws 4
        rw [EE.out.1, EE.out.2.1, EE.out.2.2] at e5
        rw [e5] at r3
        have H1 : Hid (ArrL _ BX BX _) := r3
        clear g0 g1 g2 f3 c0 d0 hq q0 hq3 q03 hb hb3 b3 r3 e5 HC
        go_wp2
        go_roundw
        case rel => exact ⟨5, by omega, by go_num, r0, H1.out, r4⟩
        case measure => simp [intOf]
    · have hw0 : I64 (ws.getD 5 0) := HI.out 5
      obtain ⟨b, off, rfl, d0⟩ := (HR.out.below hb).at 5 (by rw [HW.out]; omega)
      rw [getD_at] at d0
      have c0 : wr.cell? ⟨BX, 17, none⟩ = some (.int .i64 (rnL A v ws 5)) := hq.cell 17 (by omega)
      by_cases hpar : A / 2 ^ 5 % 2 = 0
      · skip
        have hsr : ((A : Int) / 32) % 2 = 0 := by have h := hpar; simp at h; omega
        have hsr2 : (((A : Int) / 32) % 2 == 0) = true := by rw [hsr]; rfl
        have ea : lpa A v ws 6 = rnL A v ws 5 := by show (if A / 2 ^ 5 % 2 = 0 then _ else _) = _; rw [if_pos hpar]
        have eb : lpb A v ws 6 = ws.getD 5 0 := by show (if A / 2 ^ 5 % 2 = 0 then _ else _) = _; rw [if_pos hpar]
        have en : rnL A v ws 6 = pr (rnL A v ws 5) (ws.getD 5 0) := by show (if A / 2 ^ 5 % 2 = 0 then _ else _) = _; rw [if_pos hpar]
        have EE : Hid (lpa A v ws 6 = rnL A v ws 5 ∧ lpb A v ws 6 = ws.getD 5 0 ∧ rnL A v ws 6 = pr (rnL A v ws 5) (ws.getD 5 0)) := ⟨ea, eb, en⟩
        have HC := fun W t => pairRung_any (rnL A v ws 5) (ws.getD 5 0) W (rnL_i64 _ _ _ _) hw0 t
        clear hpar ea eb en
        go_wp2_with (go_at_call 71; refine (HC _ (ht.on hb)).mono ?_; rintro e w3 ⟨rfl, hb3⟩; have hq3 := hq.below hb3; have q03 := q0.below hb3; have f3 := fun j => World.ownsRow.frozenAt hq3 j; have g0 := hq3.cell 18 (by omega); have g1 := hq3.cell 19 (by omega); have g2 := hq3.cell 20 (by omega))
        have b3 := hb.trans (hb3.mono hb.size)
        have r3 : ArrL _ BX BX _ := ((hq3.set 18 (rnL A v ws 5)).set 19 (ws.getD 5 0)).set 20 (pr (rnL A v ws 5) (ws.getD 5 0))
        have r0 := ((q03.other (c := BX) (j := 18) (x := .int .i64 (rnL A v ws 5)) HNE.out).other (c := BX) (j := 19) (x := .int .i64 (ws.getD 5 0)) HNE.out).other (c := BX) (j := 20) (x := .int .i64 (pr (rnL A v ws 5) (ws.getD 5 0))) HNE.out
        have r4 := ((b3.setCell (p := ⟨BX, 18, none⟩) HBX.out (.int .i64 (rnL A v ws 5))).setCell (p := ⟨BX, 19, none⟩) HBX.out (.int .i64 (ws.getD 5 0))).setCell (p := ⟨BX, 20, none⟩) HBX.out (.int .i64 (pr (rnL A v ws 5) (ws.getD 5 0)))
        have e5 := ladK_step A v ws 5
        rw [EE.out.1, EE.out.2.1, EE.out.2.2] at e5
        rw [e5] at r3
        have H1 : Hid (ArrL _ BX BX _) := r3
        clear g0 g1 g2 f3 c0 d0 hq q0 hq3 q03 hb hb3 b3 r3 e5 HC
        go_wp2
        go_roundw
        case rel => exact ⟨6, by omega, by go_num, r0, H1.out, r4⟩
        case measure => simp [intOf]
      · skip
        have hsr : ((A : Int) / 32) % 2 = 1 := by have h := hpar; simp at h; omega
        have hsr2 : (((A : Int) / 32) % 2 == 0) = false := by rw [hsr]; rfl
        have ea : lpa A v ws 6 = ws.getD 5 0 := by show (if A / 2 ^ 5 % 2 = 0 then _ else _) = _; rw [if_neg hpar]
        have eb : lpb A v ws 6 = rnL A v ws 5 := by show (if A / 2 ^ 5 % 2 = 0 then _ else _) = _; rw [if_neg hpar]
        have en : rnL A v ws 6 = pr (ws.getD 5 0) (rnL A v ws 5) := by show (if A / 2 ^ 5 % 2 = 0 then _ else _) = _; rw [if_neg hpar]
        have EE : Hid (lpa A v ws 6 = ws.getD 5 0 ∧ lpb A v ws 6 = rnL A v ws 5 ∧ rnL A v ws 6 = pr (ws.getD 5 0) (rnL A v ws 5)) := ⟨ea, eb, en⟩
        have HC := fun W t => pairRung_any (ws.getD 5 0) (rnL A v ws 5) W hw0 (rnL_i64 _ _ _ _) t
        clear hpar ea eb en
        go_wp2_with (go_at_call 71; refine (HC _ (ht.on hb)).mono ?_; rintro e w3 ⟨rfl, hb3⟩; have hq3 := hq.below hb3; have q03 := q0.below hb3; have f3 := fun j => World.ownsRow.frozenAt hq3 j; have g0 := hq3.cell 18 (by omega); have g1 := hq3.cell 19 (by omega); have g2 := hq3.cell 20 (by omega))
        have b3 := hb.trans (hb3.mono hb.size)
        have r3 : ArrL _ BX BX _ := ((hq3.set 18 (ws.getD 5 0)).set 19 (rnL A v ws 5)).set 20 (pr (ws.getD 5 0) (rnL A v ws 5))
        have r0 := ((q03.other (c := BX) (j := 18) (x := .int .i64 (ws.getD 5 0)) HNE.out).other (c := BX) (j := 19) (x := .int .i64 (rnL A v ws 5)) HNE.out).other (c := BX) (j := 20) (x := .int .i64 (pr (ws.getD 5 0) (rnL A v ws 5))) HNE.out
        have r4 := ((b3.setCell (p := ⟨BX, 18, none⟩) HBX.out (.int .i64 (ws.getD 5 0))).setCell (p := ⟨BX, 19, none⟩) HBX.out (.int .i64 (rnL A v ws 5))).setCell (p := ⟨BX, 20, none⟩) HBX.out (.int .i64 (pr (ws.getD 5 0) (rnL A v ws 5)))
        have e5 := ladK_step A v ws 5
        rw [EE.out.1, EE.out.2.1, EE.out.2.2] at e5
        rw [e5] at r3
        have H1 : Hid (ArrL _ BX BX _) := r3
        clear g0 g1 g2 f3 c0 d0 hq q0 hq3 q03 hb hb3 b3 r3 e5 HC
        go_wp2
        go_roundw
        case rel => exact ⟨6, by omega, by go_num, r0, H1.out, r4⟩
        case measure => simp [intOf]
    · have hw0 : I64 (ws.getD 6 0) := HI.out 6
      obtain ⟨b, off, rfl, d0⟩ := (HR.out.below hb).at 6 (by rw [HW.out]; omega)
      rw [getD_at] at d0
      have c0 : wr.cell? ⟨BX, 20, none⟩ = some (.int .i64 (rnL A v ws 6)) := hq.cell 20 (by omega)
      by_cases hpar : A / 2 ^ 6 % 2 = 0
      · skip
        have hsr : ((A : Int) / 64) % 2 = 0 := by have h := hpar; simp at h; omega
        have hsr2 : (((A : Int) / 64) % 2 == 0) = true := by rw [hsr]; rfl
        have ea : lpa A v ws 7 = rnL A v ws 6 := by show (if A / 2 ^ 6 % 2 = 0 then _ else _) = _; rw [if_pos hpar]
        have eb : lpb A v ws 7 = ws.getD 6 0 := by show (if A / 2 ^ 6 % 2 = 0 then _ else _) = _; rw [if_pos hpar]
        have en : rnL A v ws 7 = pr (rnL A v ws 6) (ws.getD 6 0) := by show (if A / 2 ^ 6 % 2 = 0 then _ else _) = _; rw [if_pos hpar]
        have EE : Hid (lpa A v ws 7 = rnL A v ws 6 ∧ lpb A v ws 7 = ws.getD 6 0 ∧ rnL A v ws 7 = pr (rnL A v ws 6) (ws.getD 6 0)) := ⟨ea, eb, en⟩
        have HC := fun W t => pairRung_any (rnL A v ws 6) (ws.getD 6 0) W (rnL_i64 _ _ _ _) hw0 t
        clear hpar ea eb en
        go_wp2_with (go_at_call 71; refine (HC _ (ht.on hb)).mono ?_; rintro e w3 ⟨rfl, hb3⟩; have hq3 := hq.below hb3; have q03 := q0.below hb3; have f3 := fun j => World.ownsRow.frozenAt hq3 j; have g0 := hq3.cell 21 (by omega); have g1 := hq3.cell 22 (by omega); have g2 := hq3.cell 23 (by omega))
        have b3 := hb.trans (hb3.mono hb.size)
        have r3 : ArrL _ BX BX _ := ((hq3.set 21 (rnL A v ws 6)).set 22 (ws.getD 6 0)).set 23 (pr (rnL A v ws 6) (ws.getD 6 0))
        have r0 := ((q03.other (c := BX) (j := 21) (x := .int .i64 (rnL A v ws 6)) HNE.out).other (c := BX) (j := 22) (x := .int .i64 (ws.getD 6 0)) HNE.out).other (c := BX) (j := 23) (x := .int .i64 (pr (rnL A v ws 6) (ws.getD 6 0))) HNE.out
        have r4 := ((b3.setCell (p := ⟨BX, 21, none⟩) HBX.out (.int .i64 (rnL A v ws 6))).setCell (p := ⟨BX, 22, none⟩) HBX.out (.int .i64 (ws.getD 6 0))).setCell (p := ⟨BX, 23, none⟩) HBX.out (.int .i64 (pr (rnL A v ws 6) (ws.getD 6 0)))
        have e5 := ladK_step A v ws 6
        rw [EE.out.1, EE.out.2.1, EE.out.2.2] at e5
        rw [e5] at r3
        have H1 : Hid (ArrL _ BX BX _) := r3
        clear g0 g1 g2 f3 c0 d0 hq q0 hq3 q03 hb hb3 b3 r3 e5 HC
        go_wp2
        go_roundw
        case rel => exact ⟨7, by omega, by go_num, r0, H1.out, r4⟩
        case measure => simp [intOf]
      · skip
        have hsr : ((A : Int) / 64) % 2 = 1 := by have h := hpar; simp at h; omega
        have hsr2 : (((A : Int) / 64) % 2 == 0) = false := by rw [hsr]; rfl
        have ea : lpa A v ws 7 = ws.getD 6 0 := by show (if A / 2 ^ 6 % 2 = 0 then _ else _) = _; rw [if_neg hpar]
        have eb : lpb A v ws 7 = rnL A v ws 6 := by show (if A / 2 ^ 6 % 2 = 0 then _ else _) = _; rw [if_neg hpar]
        have en : rnL A v ws 7 = pr (ws.getD 6 0) (rnL A v ws 6) := by show (if A / 2 ^ 6 % 2 = 0 then _ else _) = _; rw [if_neg hpar]
        have EE : Hid (lpa A v ws 7 = ws.getD 6 0 ∧ lpb A v ws 7 = rnL A v ws 6 ∧ rnL A v ws 7 = pr (ws.getD 6 0) (rnL A v ws 6)) := ⟨ea, eb, en⟩
        have HC := fun W t => pairRung_any (ws.getD 6 0) (rnL A v ws 6) W hw0 (rnL_i64 _ _ _ _) t
        clear hpar ea eb en
        go_wp2_with (go_at_call 71; refine (HC _ (ht.on hb)).mono ?_; rintro e w3 ⟨rfl, hb3⟩; have hq3 := hq.below hb3; have q03 := q0.below hb3; have f3 := fun j => World.ownsRow.frozenAt hq3 j; have g0 := hq3.cell 21 (by omega); have g1 := hq3.cell 22 (by omega); have g2 := hq3.cell 23 (by omega))
        have b3 := hb.trans (hb3.mono hb.size)
        have r3 : ArrL _ BX BX _ := ((hq3.set 21 (ws.getD 6 0)).set 22 (rnL A v ws 6)).set 23 (pr (ws.getD 6 0) (rnL A v ws 6))
        have r0 := ((q03.other (c := BX) (j := 21) (x := .int .i64 (ws.getD 6 0)) HNE.out).other (c := BX) (j := 22) (x := .int .i64 (rnL A v ws 6)) HNE.out).other (c := BX) (j := 23) (x := .int .i64 (pr (ws.getD 6 0) (rnL A v ws 6))) HNE.out
        have r4 := ((b3.setCell (p := ⟨BX, 21, none⟩) HBX.out (.int .i64 (ws.getD 6 0))).setCell (p := ⟨BX, 22, none⟩) HBX.out (.int .i64 (rnL A v ws 6))).setCell (p := ⟨BX, 23, none⟩) HBX.out (.int .i64 (pr (ws.getD 6 0) (rnL A v ws 6)))
        have e5 := ladK_step A v ws 6
        rw [EE.out.1, EE.out.2.1, EE.out.2.2] at e5
        rw [e5] at r3
        have H1 : Hid (ArrL _ BX BX _) := r3
        clear g0 g1 g2 f3 c0 d0 hq q0 hq3 q03 hb hb3 b3 r3 e5 HC
        go_wp2
        go_roundw
        case rel => exact ⟨7, by omega, by go_num, r0, H1.out, r4⟩
        case measure => simp [intOf]
    · have hw0 : I64 (ws.getD 7 0) := HI.out 7
      obtain ⟨b, off, rfl, d0⟩ := (HR.out.below hb).at 7 (by rw [HW.out]; omega)
      rw [getD_at] at d0
      have c0 : wr.cell? ⟨BX, 23, none⟩ = some (.int .i64 (rnL A v ws 7)) := hq.cell 23 (by omega)
      by_cases hpar : A / 2 ^ 7 % 2 = 0
      · skip
        have hsr : ((A : Int) / 128) % 2 = 0 := by have h := hpar; simp at h; omega
        have hsr2 : (((A : Int) / 128) % 2 == 0) = true := by rw [hsr]; rfl
        have ea : lpa A v ws 8 = rnL A v ws 7 := by show (if A / 2 ^ 7 % 2 = 0 then _ else _) = _; rw [if_pos hpar]
        have eb : lpb A v ws 8 = ws.getD 7 0 := by show (if A / 2 ^ 7 % 2 = 0 then _ else _) = _; rw [if_pos hpar]
        have en : rnL A v ws 8 = pr (rnL A v ws 7) (ws.getD 7 0) := by show (if A / 2 ^ 7 % 2 = 0 then _ else _) = _; rw [if_pos hpar]
        have EE : Hid (lpa A v ws 8 = rnL A v ws 7 ∧ lpb A v ws 8 = ws.getD 7 0 ∧ rnL A v ws 8 = pr (rnL A v ws 7) (ws.getD 7 0)) := ⟨ea, eb, en⟩
        have HC := fun W t => pairRung_any (rnL A v ws 7) (ws.getD 7 0) W (rnL_i64 _ _ _ _) hw0 t
        clear hpar ea eb en
        go_wp2_with (go_at_call 71; refine (HC _ (ht.on hb)).mono ?_; rintro e w3 ⟨rfl, hb3⟩; have hq3 := hq.below hb3; have q03 := q0.below hb3; have f3 := fun j => World.ownsRow.frozenAt hq3 j; have g0 := hq3.cell 24 (by omega); have g1 := hq3.cell 25 (by omega); have g2 := hq3.cell 26 (by omega))
        have b3 := hb.trans (hb3.mono hb.size)
        have r3 : ArrL _ BX BX _ := ((hq3.set 24 (rnL A v ws 7)).set 25 (ws.getD 7 0)).set 26 (pr (rnL A v ws 7) (ws.getD 7 0))
        have r0 := ((q03.other (c := BX) (j := 24) (x := .int .i64 (rnL A v ws 7)) HNE.out).other (c := BX) (j := 25) (x := .int .i64 (ws.getD 7 0)) HNE.out).other (c := BX) (j := 26) (x := .int .i64 (pr (rnL A v ws 7) (ws.getD 7 0))) HNE.out
        have r4 := ((b3.setCell (p := ⟨BX, 24, none⟩) HBX.out (.int .i64 (rnL A v ws 7))).setCell (p := ⟨BX, 25, none⟩) HBX.out (.int .i64 (ws.getD 7 0))).setCell (p := ⟨BX, 26, none⟩) HBX.out (.int .i64 (pr (rnL A v ws 7) (ws.getD 7 0)))
        have e5 := ladK_step A v ws 7
        rw [EE.out.1, EE.out.2.1, EE.out.2.2] at e5
        rw [e5] at r3
        have H1 : Hid (ArrL _ BX BX _) := r3
        clear g0 g1 g2 f3 c0 d0 hq q0 hq3 q03 hb hb3 b3 r3 e5 HC
        go_wp2
        go_roundw
        case rel => exact ⟨8, by omega, by go_num, r0, H1.out, r4⟩
        case measure => simp [intOf]
      · skip
        have hsr : ((A : Int) / 128) % 2 = 1 := by have h := hpar; simp at h; omega
        have hsr2 : (((A : Int) / 128) % 2 == 0) = false := by rw [hsr]; rfl
        have ea : lpa A v ws 8 = ws.getD 7 0 := by show (if A / 2 ^ 7 % 2 = 0 then _ else _) = _; rw [if_neg hpar]
        have eb : lpb A v ws 8 = rnL A v ws 7 := by show (if A / 2 ^ 7 % 2 = 0 then _ else _) = _; rw [if_neg hpar]
        have en : rnL A v ws 8 = pr (ws.getD 7 0) (rnL A v ws 7) := by show (if A / 2 ^ 7 % 2 = 0 then _ else _) = _; rw [if_neg hpar]
        have EE : Hid (lpa A v ws 8 = ws.getD 7 0 ∧ lpb A v ws 8 = rnL A v ws 7 ∧ rnL A v ws 8 = pr (ws.getD 7 0) (rnL A v ws 7)) := ⟨ea, eb, en⟩
        have HC := fun W t => pairRung_any (ws.getD 7 0) (rnL A v ws 7) W hw0 (rnL_i64 _ _ _ _) t
        clear hpar ea eb en
        go_wp2_with (go_at_call 71; refine (HC _ (ht.on hb)).mono ?_; rintro e w3 ⟨rfl, hb3⟩; have hq3 := hq.below hb3; have q03 := q0.below hb3; have f3 := fun j => World.ownsRow.frozenAt hq3 j; have g0 := hq3.cell 24 (by omega); have g1 := hq3.cell 25 (by omega); have g2 := hq3.cell 26 (by omega))
        have b3 := hb.trans (hb3.mono hb.size)
        have r3 : ArrL _ BX BX _ := ((hq3.set 24 (ws.getD 7 0)).set 25 (rnL A v ws 7)).set 26 (pr (ws.getD 7 0) (rnL A v ws 7))
        have r0 := ((q03.other (c := BX) (j := 24) (x := .int .i64 (ws.getD 7 0)) HNE.out).other (c := BX) (j := 25) (x := .int .i64 (rnL A v ws 7)) HNE.out).other (c := BX) (j := 26) (x := .int .i64 (pr (ws.getD 7 0) (rnL A v ws 7))) HNE.out
        have r4 := ((b3.setCell (p := ⟨BX, 24, none⟩) HBX.out (.int .i64 (ws.getD 7 0))).setCell (p := ⟨BX, 25, none⟩) HBX.out (.int .i64 (rnL A v ws 7))).setCell (p := ⟨BX, 26, none⟩) HBX.out (.int .i64 (pr (ws.getD 7 0) (rnL A v ws 7)))
        have e5 := ladK_step A v ws 7
        rw [EE.out.1, EE.out.2.1, EE.out.2.2] at e5
        rw [e5] at r3
        have H1 : Hid (ArrL _ BX BX _) := r3
        clear g0 g1 g2 f3 c0 d0 hq q0 hq3 q03 hb hb3 b3 r3 e5 HC
        go_wp2
        go_roundw
        case rel => exact ⟨8, by omega, by go_num, r0, H1.out, r4⟩
        case measure => simp [intOf]
    · have hh := arrL_heap q0
      have hh2 := arrL_heap hq
      have HF := arrL_row (ns := ladK A v ws 8) hh (Nat.le_refl _) rfl
      have BF := below_setRow (g := w.heap.size) (c := (IV (ladK A v ws 8)).toArray) hb (Nat.le_refl _)
      have hsz : (Tryd.prog.info? 68).map (·.size) = some (IV (ladK A v ws 8)).toArray.size := by rw [List.size_toArray, IV_length, ladK_len]; kernel_rfl
      have hall := IV_all (ladK A v ws 8)
      have END : Hid (∀ tm : Array Value, tm.getD 6 undef = .pointer (some ⟨w.heap.size, 0, none⟩) → tm.getD 7 undef = .bool true → (results Tryd.f46 tm).run Tryd.prog (wr.setRow w.heap.size (IV (ladK A v ws 8)).toArray) = .ok (.tuple #[.agg (IV (ladK A v ws 8)).toArray, .bool true]) (wr.setRow w.heap.size (IV (ladK A v ws 8)).toArray)) := fun tm h6 h7 => ladRes HF h6 h7
      have HL : Hid (LAD A v ws = .agg (IV (ladK A v ws 8)).toArray) := rfl
      have hos : (IV z27).toArray.size = (IV (ladK A v ws 8)).toArray.size := by rw [List.size_toArray, List.size_toArray, IV_length, IV_length, ladK_len]; rfl
      generalize (IV (ladK A v ws 8)).toArray = CC at hh2 BF hsz hall END HL hos
      clear HF hq q0
      go_wp2_with (first | (refine wpList_load_row rfl 68 _ rfl BX rfl 68 CC (0, 0) _ hh2 Tryd.underlying68 (by rfl) hsz ?_) | (refine wpList_store_row rfl 68 _ _ rfl w.heap.size CC rfl rfl 68 _ hh hsz hos hall ?_))
      exact bodyPost_ret (v := .tuple #[.agg CC, .bool true]) (END.out _ rfl rfl) rfl ⟨by rw [HL.out], BF⟩
end Go.Proofs.YtmfopbkhlekhkaaDoor
