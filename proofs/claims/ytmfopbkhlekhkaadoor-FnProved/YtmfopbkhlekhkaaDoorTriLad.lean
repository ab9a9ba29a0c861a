/- The contracts of the program's way up from a place, and of its Holds. -/
import Derived.Test.YtmfopbkhlekhkaaDoorTriHold
import Derived.Test.YtmfopbkhlekhkaaDoorLefSet
import Derived.Laws.Tables
import Derived.Laws.Rows
import Derived.Laws.CopyOwn
namespace Go.Proofs.YtmfopbkhlekhkaaDoor
open Go.RowKit
/-- The two numbers of which the number at step k is. -/
def lpa (A : Nat) (v : Int) (ws : List Int) : Nat → Int
  | 0 => if v = -1 then 0 else (A : Int)
  | k + 1 => if A / 2 ^ k % 2 = 0 then rnL A v ws k else ws.getD k 0
def lpb (A : Nat) (v : Int) (ws : List Int) : Nat → Int
  | 0 => if v = -1 then -1 else v
  | k + 1 => if A / 2 ^ k % 2 = 0 then ws.getD k 0 else rnL A v ws k
/-- The rungs as far as step k, as 27 numbers. -/
def lad27 (A : Nat) (v : Int) (ws : List Int) (k i : Nat) : Int := if i / 3 ≤ k then (if i % 3 = 0 then lpa A v ws (i / 3) else if i % 3 = 1 then lpb A v ws (i / 3) else rnL A v ws (i / 3)) else 0
def ladK (A : Nat) (v : Int) (ws : List Int) (k : Nat) : List Int := (List.range 27).map (lad27 A v ws k)
theorem ladK_len (A : Nat) (v : Int) (ws : List Int) (k : Nat) : (ladK A v ws k).length = 27 := by unfold ladK; simp
theorem ladK_get (A : Nat) (v : Int) (ws : List Int) (k j : Nat) : (ladK A v ws k)[j]? = if j < 27 then some (lad27 A v ws k j) else none := by
  unfold ladK
  rw [List.getElem?_map]
  by_cases h : j < 27
  · rw [if_pos h, List.getElem?_range h]; rfl
  · rw [if_neg h, List.getElem?_eq_none (by simp; omega)]; rfl
theorem ladK_step (A : Nat) (v : Int) (ws : List Int) (k : Nat) : (((ladK A v ws k).set (3 * k + 3) (lpa A v ws (k + 1))).set (3 * k + 4) (lpb A v ws (k + 1))).set (3 * k + 5) (rnL A v ws (k + 1)) = ladK A v ws (k + 1) := by
  apply List.ext_getElem?
  intro j
  rw [List.getElem?_set, List.getElem?_set, List.getElem?_set, ladK_get, ladK_get, List.length_set, List.length_set, ladK_len]
  by_cases e2 : 3 * k + 5 = j
  · rw [if_pos e2]
    by_cases h : j < 27
    · rw [if_pos (by omega), if_pos h]
      have h1 : j / 3 = k + 1 := by omega
      have h2 : j % 3 = 2 := by omega
      unfold lad27
      rw [h1, h2, if_pos (Nat.le_refl _), if_neg (by omega), if_neg (by omega)]
    · rw [if_neg (by omega), if_neg h]
  · rw [if_neg e2]
    by_cases e1 : 3 * k + 4 = j
    · rw [if_pos e1]
      by_cases h : j < 27
      · rw [if_pos (by omega), if_pos h]
        have h1 : j / 3 = k + 1 := by omega
        have h2 : j % 3 = 1 := by omega
        unfold lad27
        rw [h1, h2, if_pos (Nat.le_refl _), if_neg (by omega), if_pos rfl]
      · rw [if_neg (by omega), if_neg h]
    · rw [if_neg e1]
      by_cases e0 : 3 * k + 3 = j
      · rw [if_pos e0]
        by_cases h : j < 27
        · rw [if_pos (by omega), if_pos h]
          have h1 : j / 3 = k + 1 := by omega
          have h2 : j % 3 = 0 := by omega
          unfold lad27
          rw [h1, h2, if_pos (Nat.le_refl _), if_pos rfl]
        · rw [if_neg (by omega), if_neg h]
      · rw [if_neg e0]
        by_cases h : j < 27
        · rw [if_pos h, if_pos h]
          unfold lad27
          by_cases h3 : j / 3 ≤ k
          · have h4 : j / 3 ≤ k + 1 := by omega
            rw [if_pos h3, if_pos h4]
          · have h4 : ¬ j / 3 ≤ k + 1 := by omega
            rw [if_neg h3, if_neg h4]
        · rw [if_neg h, if_neg h]
/-- A ladder of 27 numbers lies in block b. -/
def ArrL (w : World) (B b : Nat) (ns : List Int) : Prop := w.ownsRow B 68 1 (.slice (some ⟨b, 0, none⟩) 27 27) 27 (IV ns)
theorem ArrL.below {w w' : World} {B b : Nat} {ns : List Int} (h : ArrL w B b ns) (hb : Below w.heap.size w w') : ArrL w' B b ns := own_below h hb
theorem ArrL.cell {w : World} {B b : Nat} {ns : List Int} (h : ArrL w B b ns) (j : Nat) (hj : j < 27) : w.cell? ⟨b, j, none⟩ = some (.int .i64 (ns.getD j 0)) := by
  have hl : ns.length = 27 := by have := h.1; rw [IV_length] at this; omega
  rw [World.ownsRow.cellAt h j (by omega), IV_get _ _ (by omega), getD_at]
theorem ArrL.set {w : World} {B b : Nat} {ns : List Int} (h : ArrL w B b ns) (j : Nat) (x : Int) : ArrL (w.setCell ⟨b, j, none⟩ (.int .i64 x)) B b (ns.set j x) := by
  unfold ArrL
  rw [IV_set]
  exact (h.stored j (.int .i64 x)).1
theorem ArrL.other {w : World} {B b c j : Nat} {ns : List Int} {x : Value} (h : ArrL w B b ns) (hc : c ≠ b) : ArrL (w.setCell ⟨c, j, none⟩ x) B b ns := row_set h (fun k hk => by cases hk; exact hc)
theorem arrL_new (w : World) (cs : Array Value) (ns : List Int) (h : cs.toList = IV ns) (hl : ns.length = 27) : ArrL (w.alloc (.cells cs 68)) w.heap.size w.heap.size ns := by
  have : (w.alloc (.cells cs 68)).ownsRow w.heap.size 68 1 (.slice (some ⟨w.heap.size, 0, none⟩) 27 27) 27 cs.toList := World.ownsRow_lit w cs 27 (Nat.le_refl _) (by unfold maxLen; omega) (by rw [← Array.length_toList, h, IV_length, hl])
  rw [h] at this
  exact this
theorem arrL_heap {w : World} {B b : Nat} {ns : List Int} (h : ArrL w B b ns) : w.heap[b]? = some (.cells (IV ns).toArray 68 (0, 0)) := by
  rcases h.2 with ⟨h', _⟩ | ⟨g', cap', cur, h', hb, hg, hnc, hcm, hcs, htake⟩
  · simp at h'
  · simp only [Value.slice.injEq, Option.some.injEq, Addr.mk.injEq, and_true, true_and] at h'
    obtain ⟨rfl, rfl⟩ := h'
    rw [hg, ← htake, List.take_of_length_le (by rw [Array.length_toList, hcs]; exact Nat.le_refl _)]
theorem arrL_row {w : World} {B g : Nat} {old : Array Value} {ns : List Int} (hg : w.heap[g]? = some (.cells old 68 (0, 0))) (hB : B ≤ g) (hl : ns.length = 27) : ArrL (w.setRow g (IV ns).toArray) B g ns :=
  ⟨by rw [IV_length, hl], .inr ⟨g, 27, _, rfl, hB, setRow_heap w g old _ _ _ hg, Nat.le_refl _, by unfold maxLen; omega, by rw [List.size_toArray, IV_length, hl], by rw [List.take_of_length_le (by simp [IV_length, hl])]⟩⟩
theorem below_setRow {B : Nat} {a w : World} {g : Nat} {c : Array Value} (h : Below B a w) (hg : B ≤ g) : Below B a (w.setRow g c) :=
  h.trans ⟨rfl, rfl, rfl, by simp [World.setRow], fun k hk => setRow_other w g k _ (by omega)⟩
theorem ArrL.row {w : World} {B b g : Nat} {ns : List Int} {c : Array Value} (h : ArrL w B b ns) (hg : b ≠ g) : ArrL (w.setRow g c) B b ns :=
  row_kept h (⟨rfl, rfl, rfl, by simp [World.setRow], fun k _ hk => setRow_other w g k _ (fun e => hk (by simp [e]))⟩ : w.grownBy (w.setRow g c) (some g)) (fun k hk e => by cases hk; cases e; exact hg rfl)
theorem load27 {w : World} {B b : Nat} {ns : List Int} (h : ArrL w B b ns) : (loadVar 68 ⟨b, 0, none⟩).run Tryd.prog w = .ok (.agg (IV ns).toArray) w := by
  have hl : ns.length = 27 := by have := h.1; rw [IV_length] at this; omega
  exact run_loadVar_row w b 68 68 (IV ns).toArray (0, 0) _ (arrL_heap h) Tryd.underlying68 (by rfl) (by rw [List.size_toArray, IV_length, hl]; kernel_rfl)
theorem ladRes {X : World} {B b : Nat} {ns : List Int} (h : ArrL X B b ns) {tm : Array Value} {t : Value} (h6 : tm.getD 6 undef = .pointer (some ⟨b, 0, none⟩)) (h7 : tm.getD 7 undef = t) : (results Tryd.f46 tm).run Tryd.prog X = .ok (.tuple #[.agg (IV ns).toArray, t]) X := by
  have h6' : tm[6]?.getD undef = .pointer (some ⟨b, 0, none⟩) := by simpa using h6
  have h7' : tm[7]?.getD undef = t := by simpa using h7
  simp [results, Tryd.results46, load27 h, h6', h7', asAddr]
theorem IV_all (ns : List Int) : (IV ns).toArray.all (·.oneCell') = true := by
  rw [Array.all_eq_true]
  intro i hi
  have := IV_oneCell ns (IV ns)[i] (List.getElem_mem (by simpa using hi))
  simpa using this
def LAD (A : Nat) (v : Int) (ws : List Int) : Value := .agg #[.int .i64 (lpa A v ws 0), .int .i64 (lpb A v ws 0), .int .i64 (rnL A v ws 0), .int .i64 (lpa A v ws 1), .int .i64 (lpb A v ws 1), .int .i64 (rnL A v ws 1), .int .i64 (lpa A v ws 2), .int .i64 (lpb A v ws 2), .int .i64 (rnL A v ws 2), .int .i64 (lpa A v ws 3), .int .i64 (lpb A v ws 3), .int .i64 (rnL A v ws 3), .int .i64 (lpa A v ws 4), .int .i64 (lpb A v ws 4), .int .i64 (rnL A v ws 4), .int .i64 (lpa A v ws 5), .int .i64 (lpb A v ws 5), .int .i64 (rnL A v ws 5), .int .i64 (lpa A v ws 6), .int .i64 (lpb A v ws 6), .int .i64 (rnL A v ws 6), .int .i64 (lpa A v ws 7), .int .i64 (lpb A v ws 7), .int .i64 (rnL A v ws 7), .int .i64 (lpa A v ws 8), .int .i64 (lpb A v ws 8), .int .i64 (rnL A v ws 8)]
def Z27 : Value := .agg #[.int .i64 0, .int .i64 0, .int .i64 0, .int .i64 0, .int .i64 0, .int .i64 0, .int .i64 0, .int .i64 0, .int .i64 0, .int .i64 0, .int .i64 0, .int .i64 0, .int .i64 0, .int .i64 0, .int .i64 0, .int .i64 0, .int .i64 0, .int .i64 0, .int .i64 0, .int .i64 0, .int .i64 0, .int .i64 0, .int .i64 0, .int .i64 0, .int .i64 0, .int .i64 0, .int .i64 0]
theorem ArrL.all {A : Nat} {v : Int} {ws : List Int} {w : World} {B b : Nat} (h : ArrL w B b (ladK A v ws 8)) : w.cell? ⟨b, 0, none⟩ = some (.int .i64 (lpa A v ws 0)) ∧ w.cell? ⟨b, 1, none⟩ = some (.int .i64 (lpb A v ws 0)) ∧ w.cell? ⟨b, 2, none⟩ = some (.int .i64 (rnL A v ws 0)) ∧ w.cell? ⟨b, 3, none⟩ = some (.int .i64 (lpa A v ws 1)) ∧ w.cell? ⟨b, 4, none⟩ = some (.int .i64 (lpb A v ws 1)) ∧ w.cell? ⟨b, 5, none⟩ = some (.int .i64 (rnL A v ws 1)) ∧ w.cell? ⟨b, 6, none⟩ = some (.int .i64 (lpa A v ws 2)) ∧ w.cell? ⟨b, 7, none⟩ = some (.int .i64 (lpb A v ws 2)) ∧ w.cell? ⟨b, 8, none⟩ = some (.int .i64 (rnL A v ws 2)) ∧ w.cell? ⟨b, 9, none⟩ = some (.int .i64 (lpa A v ws 3)) ∧ w.cell? ⟨b, 10, none⟩ = some (.int .i64 (lpb A v ws 3)) ∧ w.cell? ⟨b, 11, none⟩ = some (.int .i64 (rnL A v ws 3)) ∧ w.cell? ⟨b, 12, none⟩ = some (.int .i64 (lpa A v ws 4)) ∧ w.cell? ⟨b, 13, none⟩ = some (.int .i64 (lpb A v ws 4)) ∧ w.cell? ⟨b, 14, none⟩ = some (.int .i64 (rnL A v ws 4)) ∧ w.cell? ⟨b, 15, none⟩ = some (.int .i64 (lpa A v ws 5)) ∧ w.cell? ⟨b, 16, none⟩ = some (.int .i64 (lpb A v ws 5)) ∧ w.cell? ⟨b, 17, none⟩ = some (.int .i64 (rnL A v ws 5)) ∧ w.cell? ⟨b, 18, none⟩ = some (.int .i64 (lpa A v ws 6)) ∧ w.cell? ⟨b, 19, none⟩ = some (.int .i64 (lpb A v ws 6)) ∧ w.cell? ⟨b, 20, none⟩ = some (.int .i64 (rnL A v ws 6)) ∧ w.cell? ⟨b, 21, none⟩ = some (.int .i64 (lpa A v ws 7)) ∧ w.cell? ⟨b, 22, none⟩ = some (.int .i64 (lpb A v ws 7)) ∧ w.cell? ⟨b, 23, none⟩ = some (.int .i64 (rnL A v ws 7)) ∧ w.cell? ⟨b, 24, none⟩ = some (.int .i64 (lpa A v ws 8)) ∧ w.cell? ⟨b, 25, none⟩ = some (.int .i64 (lpb A v ws 8)) ∧ w.cell? ⟨b, 26, none⟩ = some (.int .i64 (rnL A v ws 8)) :=
  ⟨h.cell 0 (by omega), h.cell 1 (by omega), h.cell 2 (by omega), h.cell 3 (by omega), h.cell 4 (by omega), h.cell 5 (by omega), h.cell 6 (by omega), h.cell 7 (by omega), h.cell 8 (by omega), h.cell 9 (by omega), h.cell 10 (by omega), h.cell 11 (by omega), h.cell 12 (by omega), h.cell 13 (by omega), h.cell 14 (by omega), h.cell 15 (by omega), h.cell 16 (by omega), h.cell 17 (by omega), h.cell 18 (by omega), h.cell 19 (by omega), h.cell 20 (by omega), h.cell 21 (by omega), h.cell 22 (by omega), h.cell 23 (by omega), h.cell 24 (by omega), h.cell 25 (by omega), h.cell 26 (by omega)⟩
set_option maxHeartbeats 1000000 in
set_option maxRecDepth 100000 in
theorem pairRung_any (a b : Int) (w : World) (ha : I64 a) (hb : I64 b) (ht : Tab w) :
    Calls Tryd.prog 71 #[.int .i64 a, .int .i64 b] w fun e w' => e = .returned (.agg #[.int .i64 a, .int .i64 b, .int .i64 (pr a b)]) ∧ Below w.heap.size w w' := by
  have b0 := below1 w (.cells #[.int .i64 0, .int .i64 0, .int .i64 0] 66)
  have z0 : (w.alloc (.cells #[.int .i64 0, .int .i64 0, .int .i64 0] 66)).ownsRow w.heap.size 66 1 (.slice (some ⟨w.heap.size, 0, none⟩) 3 3) 3 (IV [0, 0, 0]) := World.ownsRow_lit w #[.int .i64 0, .int .i64 0, .int .i64 0] 3 (Nat.le_refl _) (by unfold maxLen; omega) rfl
  go_enter Tryd.func71, Tryd.ntmps71
  go_wp2_with fail
  refine (implPr a b _ ha hb (ht.on b0)).mono ?_
  rintro e w1 ⟨rfl, hb1⟩
  have z1 := own_below z0 hb1
  have b1 := b0.trans (hb1.mono (by simp))
  have c0 := z1.cellAt 0 (by omega)
  have c1 := z1.cellAt 1 (by omega)
  have c2 := z1.cellAt 2 (by omega)
  have f := fun j => z1.frozenAt j
  have HF : Hid (World.ownsRow _ w.heap.size 66 1 (.slice (some ⟨w.heap.size, 0, none⟩) 3 3) 3 (IV [a, b, pr a b])) := ((((z1.stored 0 (.int .i64 a)).1).stored 1 (.int .i64 b)).1.stored 2 (.int .i64 (pr a b))).1
  have bz := ((b1.setCell (p := ⟨w.heap.size, 0, none⟩) (Nat.le_refl _) (.int .i64 a)).setCell (p := ⟨w.heap.size, 1, none⟩) (Nat.le_refl _) (.int .i64 b)).setCell (p := ⟨w.heap.size, 2, none⟩) (Nat.le_refl _) (.int .i64 (pr a b))
  simp only [IV, List.map_cons, List.map_nil, List.getElem?_cons_zero, List.getElem?_cons_succ] at c0 c1 c2
  clear b0 hb1 z0
  go_wp2
  refine bodyPost_ret (v := .agg #[.int .i64 a, .int .i64 b, .int .i64 (pr a b)]) ?_ rfl ⟨rfl, bz⟩
  have e0 := HF.out.cellAt 0 (by omega)
  have e1 := HF.out.cellAt 1 (by omega)
  have e2 := HF.out.cellAt 2 (by omega)
  simp only [IV, List.map_cons, List.map_nil, List.getElem?_cons_zero, List.getElem?_cons_succ] at e0 e1 e2
  clear c0 c1 c2
  simp [results, Tryd.results71, go_sem, e0, e1, e2]
set_option maxHeartbeats 1000000 in
set_option maxRecDepth 100000 in
theorem firstRung_any (A : Nat) (v : Int) (ws : List Int) (w : World) (hA : A ≤ 255) (hv : v = -1 ∨ (0 ≤ v ∧ v ≤ 1000000000)) (ht : Tab w) :
    Calls Tryd.prog 70 #[.int .i64 (A : Int), .int .i64 v] w fun e w' => e = .returned (.agg #[.int .i64 (lpa A v ws 0), .int .i64 (lpb A v ws 0), .int .i64 (rnL A v ws 0)]) ∧ Below w.heap.size w w' := by
  have b0 := below1 w (.cells #[.int .i64 0, .int .i64 0, .int .i64 0] 66)
  have z0 : (w.alloc (.cells #[.int .i64 0, .int .i64 0, .int .i64 0] 66)).ownsRow w.heap.size 66 1 (.slice (some ⟨w.heap.size, 0, none⟩) 3 3) 3 (IV [0, 0, 0]) := World.ownsRow_lit w #[.int .i64 0, .int .i64 0, .int .i64 0] 3 (Nat.le_refl _) (by unfold maxLen; omega) rfl
  by_cases h : v = -1
  · have ea : lpa A v ws 0 = 0 := by show (if v = -1 then _ else _) = _; rw [if_pos h]
    have eb : lpb A v ws 0 = -1 := by show (if v = -1 then _ else _) = _; rw [if_pos h]
    have en : rnL A v ws 0 = 0 := by show numP _ _ = _; unfold numP; rw [if_pos (by omega)]
    rw [ea, eb, en]
    have hd : (v == -1) = true := by simp [h]
    clear ea eb en h z0
    go_enter Tryd.func70, Tryd.ntmps70
    go_wp2
    refine bodyPost_ret (v := .agg #[.int .i64 0, .int .i64 (-1), .int .i64 0]) (by simp [results, Tryd.results70, go_sem]) rfl ⟨rfl, ?_⟩
    exact (Below.refl _ _).alloc (Nat.le_refl _) _
  · have ea : lpa A v ws 0 = (A : Int) := by show (if v = -1 then _ else _) = _; rw [if_neg h]
    have eb : lpb A v ws 0 = v := by show (if v = -1 then _ else _) = _; rw [if_neg h]
    have en : rnL A v ws 0 = pr (A : Int) v := by show numP _ _ = _; unfold numP; rw [if_neg (by omega)]
    rw [ea, eb, en]
    have hd : (v == -1) = false := by simp [h]
    have HC := fun W t => pairRung_any (A : Int) v W ⟨by omega, by omega⟩ ⟨by omega, by omega⟩ t
    clear ea eb en h
    go_enter Tryd.func70, Tryd.ntmps70
    go_wp2_with fail
    refine (HC _ (ht.on b0)).mono ?_
    rintro e w1 ⟨rfl, hb1⟩
    have z1 := own_below z0 hb1
    have b1 := b0.trans (hb1.mono (by simp))
    have c0 := z1.cellAt 0 (by omega)
    have c1 := z1.cellAt 1 (by omega)
    have c2 := z1.cellAt 2 (by omega)
    have f := fun j => z1.frozenAt j
    have HF : Hid (World.ownsRow _ w.heap.size 66 1 (.slice (some ⟨w.heap.size, 0, none⟩) 3 3) 3 (IV [(A : Int), v, pr (A : Int) v])) := ((((z1.stored 0 (.int .i64 (A : Int))).1).stored 1 (.int .i64 v)).1.stored 2 (.int .i64 (pr (A : Int) v))).1
    have bz := ((b1.setCell (p := ⟨w.heap.size, 0, none⟩) (Nat.le_refl _) (.int .i64 (A : Int))).setCell (p := ⟨w.heap.size, 1, none⟩) (Nat.le_refl _) (.int .i64 v)).setCell (p := ⟨w.heap.size, 2, none⟩) (Nat.le_refl _) (.int .i64 (pr (A : Int) v))
    simp only [IV, List.map_cons, List.map_nil, List.getElem?_cons_zero, List.getElem?_cons_succ] at c0 c1 c2
    clear b0 hb1 z0
    go_wp2
    refine bodyPost_ret (v := .agg #[.int .i64 (A : Int), .int .i64 v, .int .i64 (pr (A : Int) v)]) ?_ rfl ⟨rfl, bz⟩
    have e0 := HF.out.cellAt 0 (by omega)
    have e1 := HF.out.cellAt 1 (by omega)
    have e2 := HF.out.cellAt 2 (by omega)
    simp only [IV, List.map_cons, List.map_nil, List.getElem?_cons_zero, List.getElem?_cons_succ] at e0 e1 e2
    clear c0 c1 c2
    simp [results, Tryd.results70, go_sem, e0, e1, e2]
set_option maxHeartbeats 1000000 in
set_option maxRecDepth 100000 in
theorem ladPeak_any (A : Nat) (v : Int) (ws : List Int) (w : World) :
    Calls Tryd.prog 47 #[LAD A v ws] w fun e w' => e = .returned (.int .i64 (rnL A v ws 8)) ∧ Below w.heap.size w w' := by
  unfold LAD
  go_enter Tryd.func47, Tryd.ntmps47
  go_wp2
  go_ret
  exact ⟨rfl, below1 _ _⟩
end Go.Proofs.YtmfopbkhlekhkaaDoor
