/- Plain facts on the numbers of places and groups of places. -/
import Derived.Test.YtmfopbkhlekhkaaDoorLefMath
import Derived.Test.YtmfopbkhlekhkaaDoorTag
namespace Go.Proofs.YtmfopbkhlekhkaaDoor
open Go.RowKit
/-- The number of a pair. -/
def pr (a b : Int) : Int := (pairD a b : Int)
theorem pr_lo (a b : Int) : 0 ≤ pr a b := by unfold pr; omega
theorem pr_hi (a b : Int) : pr a b < 2147483647 := by
  unfold pr pairD
  have := dig_lt' (dig (dig 1 (itoaS a).data.toList) [44]) (itoaS b).data.toList (dig_lt' _ _ (dig_lt' _ _ (by omega)))
  omega
/-- The number of a place with a value (below 0: without a Leaf). -/
def numP (p v : Int) : Int := if v < 0 then 0 else pr p v
theorem numP_lo (p v : Int) : 0 ≤ numP p v := by unfold numP; split; omega; exact pr_lo _ _
theorem numP_hi (p v : Int) : numP p v < 2147483647 := by unfold numP; split; omega; exact pr_hi _ _
/-- The value of a place: -1 without a Leaf. -/
def valL (es : List Lef) (p : Int) : Int := match es.find? (fun x => decide (x.pl = p)) with | some x => x.va | none => -1
/-- The number of place j. -/
def fL (es : List Lef) (j : Nat) : Int := numP (j : Int) (valL es (j : Int))
theorem fL_lo (es : List Lef) (j : Nat) : 0 ≤ fL es j := numP_lo _ _
theorem fL_hi (es : List Lef) (j : Nat) : fL es j < 2147483647 := numP_hi _ _
theorem valL_some {es : List Lef} {p : Int} {x : Lef} (h : es.find? (fun x => decide (x.pl = p)) = some x) : valL es p = x.va := by unfold valL; rw [h]
theorem valL_none {es : List Lef} {p : Int} (h : ∀ x ∈ es, x.pl ≠ p) : valL es p = -1 := by
  unfold valL
  rw [List.find?_eq_none.2 (fun x hx => by simpa using h x hx)]
theorem valL_app (a b : List Lef) (p : Int) (h : ∀ x ∈ a, x.pl ≠ p) : valL (a ++ b) p = valL b p := by
  unfold valL
  rw [List.find?_append, List.find?_eq_none.2 (fun x hx => by simpa using h x hx)]
  rfl
theorem valL_pre (a b : List Lef) (p : Int) (h : ∀ x ∈ b, x.pl ≠ p) : valL (a ++ b) p = valL a p := by
  have e : b.find? (fun x => decide (x.pl = p)) = none := List.find?_eq_none.2 (fun x hx => by simpa using h x hx)
  unfold valL
  rw [List.find?_append, e, Option.or_none]
theorem nthL_mem {es : List Lef} {x : Lef} (h : x ∈ es) : ∃ i, i < es.length ∧ nthL es i = x := by
  obtain ⟨i, hi, e⟩ := List.getElem_of_mem h
  exact ⟨i, hi, by rw [nthL_eq hi]; exact e⟩
theorem nthL_in {es : List Lef} {i : Nat} (h : i < es.length) : nthL es i ∈ es := by rw [nthL_eq h]; exact List.getElem_mem h
theorem nthL_take {es : List Lef} {i k : Nat} (h : i < k) : nthL (es.take k) i = nthL es i := by unfold nthL; simp [List.getD, List.getElem?_take_of_lt h]
theorem nthL_drop (es : List Lef) (i k : Nat) : nthL (es.drop k) i = nthL es (k + i) := by unfold nthL; simp [List.getD, List.getElem?_drop]
theorem lefOk_take {es : List Lef} (h : LefOk es) (k : Nat) : LefOk (es.take k) := by
  intro i hi
  rw [List.length_take] at hi
  rw [nthL_take (by omega), nthL_take (by omega)]
  exact h i (by omega)
theorem lefOk_drop {es : List Lef} (h : LefOk es) (k : Nat) : LefOk (es.drop k) := by
  intro i hi
  rw [List.length_drop] at hi
  rw [nthL_drop, nthL_drop]
  have h1 := h (k + i) (by omega)
  refine ⟨h1.1, fun hp => ?_⟩
  have := h1.2 (by omega)
  rwa [show k + (i - 1) = k + i - 1 by omega]
/-- The value of the place of Leaf number k, as more and more of them are looked at. -/
theorem valL_step {es : List Lef} (h : LefOk es) {k : Nat} (hk : k < es.length) (p : Int) : valL (es.take (k + 1)) p = if (nthL es k).pl = p then (nthL es k).va else valL (es.take k) p := by
  rw [List.take_succ_eq_append_getElem hk, ← nthL_eq hk]
  by_cases hp : (nthL es k).pl = p
  · rw [if_pos hp, valL_app _ _ _ (fun x hx => ?_)]
    · unfold valL; simp [hp]
    · obtain ⟨i, hi, rfl⟩ := nthL_mem hx
      rw [List.length_take] at hi
      rw [nthL_take (by omega)]
      have := lef_lt h (show i < k by omega) hk
      omega
  · rw [if_neg hp, valL_pre _ _ _ (fun x hx => by rw [List.mem_singleton.1 hx]; exact hp)]
/-- The Leafs of a stretch of places. -/
def betL (es : List Lef) (a b : Int) : List Lef := (es.take (atL es b)).drop (atL es a)
theorem atL_mono (es : List Lef) {a b : Int} (h : a ≤ b) : atL es a ≤ atL es b := by
  induction es with
  | nil => exact Nat.le_refl _
  | cons x r ih =>
    unfold atL
    by_cases h1 : x.pl < a
    · rw [if_pos h1, if_pos (by omega)]; omega
    · rw [if_neg h1]; omega
theorem betL_ok {es : List Lef} (h : LefOk es) (a b : Int) : LefOk (betL es a b) := lefOk_drop (lefOk_take h _) _
theorem betL_mem {es : List Lef} (h : LefOk es) {a b : Int} {x : Lef} (hx : x ∈ betL es a b) : a ≤ x.pl ∧ x.pl < b := by
  obtain ⟨i, hi, rfl⟩ := nthL_mem hx
  unfold betL at hi ⊢
  rw [List.length_drop, List.length_take] at hi
  have := atL_le es b
  rw [nthL_drop, nthL_take (by omega)]
  exact ⟨atL_hi h a (by omega) (by omega), atL_lo es b (by omega)⟩
theorem betL_val {es : List Lef} (h : LefOk es) {a b p : Int} (hab : a ≤ b) (h1 : a ≤ p) (h2 : p < b) : valL (betL es a b) p = valL es p := by
  have hm := atL_mono es hab
  have hb := atL_le es b
  have e : es = es.take (atL es a) ++ (betL es a b ++ es.drop (atL es b)) := by
    unfold betL
    have e1 : es.take (atL es a) = (es.take (atL es b)).take (atL es a) := by rw [List.take_take]; congr 1; omega
    rw [e1, ← List.append_assoc, List.take_append_drop, List.take_append_drop]
  conv => rhs; rw [e]
  rw [valL_app _ _ _ (fun x hx => ?_), valL_pre _ _ _ (fun x hx => ?_)]
  · obtain ⟨i, hi, rfl⟩ := nthL_mem hx
    rw [List.length_drop] at hi
    rw [nthL_drop]
    have := atL_hi h b (show atL es b ≤ atL es b + i by omega) (by omega)
    omega
  · obtain ⟨i, hi, rfl⟩ := nthL_mem hx
    rw [List.length_take] at hi
    rw [nthL_take (by omega)]
    have := atL_lo es a (show i < atL es a by omega)
    omega
/-- The number of group q of step s. -/
def grp (f : Nat → Int) : Nat → Nat → Int
  | 0, q => f q
  | s + 1, q => pr (grp f s (2 * q)) (grp f s (2 * q + 1))
/-- The number of a group of step s without a Leaf. -/
def emp : Nat → Int
  | 0 => 0
  | s + 1 => pr (emp s) (emp s)
theorem emp_lo : ∀ s, 0 ≤ emp s
  | 0 => Int.le_refl _
  | _ + 1 => pr_lo _ _
theorem emp_hi : ∀ s, emp s < 2147483647
  | 0 => by unfold emp; omega
  | _ + 1 => pr_hi _ _
theorem grp_lo {f : Nat → Int} (h : ∀ j, 0 ≤ f j) : ∀ s q, 0 ≤ grp f s q
  | 0, q => h q
  | _ + 1, _ => pr_lo _ _
theorem grp_hi {f : Nat → Int} (h : ∀ j, f j < 2147483647) : ∀ s q, grp f s q < 2147483647
  | 0, q => h q
  | _ + 1, _ => pr_hi _ _
theorem grp_congr {f g : Nat → Int} : ∀ (s q : Nat), (∀ j, q * 2 ^ s ≤ j → j < (q + 1) * 2 ^ s → f j = g j) → grp f s q = grp g s q
  | 0, q, h => by unfold grp; exact h q (by simp) (by simp)
  | s + 1, q, h => by
    have e : 2 ^ (s + 1) = 2 * 2 ^ s := by rw [Nat.pow_succ, Nat.mul_comm]
    rw [e] at h
    unfold grp
    rw [grp_congr s (2 * q) (fun j h1 h2 => h j (by rw [← Nat.mul_assoc, Nat.mul_comm q 2]; exact h1) (by
        refine Nat.lt_of_lt_of_le h2 ?_
        rw [← Nat.mul_assoc]
        exact Nat.mul_le_mul_right _ (by omega))),
      grp_congr s (2 * q + 1) (fun j h1 h2 => h j (by
        refine Nat.le_trans ?_ h1
        rw [← Nat.mul_assoc]
        exact Nat.mul_le_mul_right _ (by omega)) (by rw [← Nat.mul_assoc, Nat.mul_comm (q + 1) 2]; rw [show 2 * (q + 1) = 2 * q + 1 + 1 by omega]; exact h2))]
theorem grp_zero : ∀ (s q : Nat), grp (fun _ => 0) s q = emp s
  | 0, _ => rfl
  | s + 1, q => by unfold grp emp; rw [grp_zero s, grp_zero s]
theorem fL_bet {es : List Lef} (h : LefOk es) {a b : Nat} {j : Nat} (h1 : a ≤ j) (h2 : j < b) : fL (betL es (a : Int) (b : Int)) j = fL es j := by
  unfold fL
  rw [betL_val h (by omega) (by omega) (by omega)]
theorem fL_none (j : Nat) : fL [] j = 0 := by unfold fL numP valL; simp
/-- The group of a stretch is known by the Leafs of the stretch. -/
theorem grp_bet {es : List Lef} (h : LefOk es) (s q : Nat) : grp (fL (betL es ((q * 2 ^ s : Nat) : Int) (((q + 1) * 2 ^ s : Nat) : Int))) s q = grp (fL es) s q :=
  grp_congr s q (fun _ h1 h2 => fL_bet h h1 h2)
theorem grp_empty {es : List Lef} (h : LefOk es) (s q : Nat) (he : betL es ((q * 2 ^ s : Nat) : Int) (((q + 1) * 2 ^ s : Nat) : Int) = []) : grp (fL es) s q = emp s := by
  rw [← grp_bet h, he]
  rw [← grp_zero s q]
  exact grp_congr s q (fun j _ _ => fL_none j)
theorem grp_leaf {es : List Lef} (h : LefOk es) (q : Nat) {x : Lef} {r : List Lef} (he : betL es ((q * 2 ^ 0 : Nat) : Int) (((q + 1) * 2 ^ 0 : Nat) : Int) = x :: r) : grp (fL es) 0 q = pr x.pl x.va := by
  have hx : x ∈ betL es ((q * 2 ^ 0 : Nat) : Int) (((q + 1) * 2 ^ 0 : Nat) : Int) := by rw [he]; exact List.mem_cons_self
  have hm := betL_mem h hx
  simp only [Nat.pow_zero, Nat.mul_one] at hm
  have hp : x.pl = (q : Int) := by omega
  have hv := (betL_ok h ((q * 2 ^ 0 : Nat) : Int) (((q + 1) * 2 ^ 0 : Nat) : Int)) 0 (by rw [he]; simp)
  rw [he, nthL_zero] at hv
  rw [← grp_bet h, he]
  show fL (x :: r) q = _
  have e : valL (x :: r) (q : Int) = x.va := valL_some (by simp [hp])
  unfold fL numP
  rw [e, if_neg (by have := hv.1.2.1; omega), hp]
/-- The numbers of all groups of step s. -/
def rowG (f : Nat → Int) (s : Nat) : List Int := (List.range (2 ^ (8 - s))).map fun q => grp f s q
theorem rowG_len (f : Nat → Int) (s : Nat) : (rowG f s).length = 2 ^ (8 - s) := by unfold rowG; simp
theorem rowG_get (f : Nat → Int) (s q : Nat) (h : q < 2 ^ (8 - s)) : (rowG f s).getD q 0 = grp f s q := by
  unfold rowG
  simp [List.getD, h]
/-- One step up. -/
def upR (ns : List Int) (k : Nat) : List Int := (List.range k).map fun q => pr (ns.getD (2 * q) 0) (ns.getD (2 * q + 1) 0)
theorem upR_succ (ns : List Int) (k : Nat) : upR ns (k + 1) = upR ns k ++ [pr (ns.getD (2 * k) 0) (ns.getD (2 * k + 1) 0)] := by unfold upR; simp [List.range_succ]
theorem upR_len (ns : List Int) (k : Nat) : (upR ns k).length = k := by unfold upR; simp
theorem upR_row (f : Nat → Int) (s : Nat) (h : s < 8) : upR (rowG f s) (2 ^ (8 - (s + 1))) = rowG f (s + 1) := by
  unfold upR
  conv => rhs; unfold rowG
  apply List.map_congr_left
  intro q hq
  have hq := List.mem_range.1 hq
  have e : 2 ^ (8 - s) = 2 * 2 ^ (8 - (s + 1)) := by rw [show 8 - s = 8 - (s + 1) + 1 by omega, Nat.pow_succ, Nat.mul_comm]
  rw [rowG_get f s _ (by omega), rowG_get f s _ (by omega)]
  rfl
/-- The numbers of all places, as far as the first k Leafs tell them. -/
def rowK (es : List Lef) (k : Nat) : List Int := (List.range 256).map fun j => fL (es.take k) j
theorem rowK_len (es : List Lef) (k : Nat) : (rowK es k).length = 256 := by unfold rowK; simp
theorem rowK_zero (es : List Lef) : rowK es 0 = List.replicate 256 0 := by
  unfold rowK
  rw [List.take_zero, List.eq_replicate_iff]
  exact ⟨by simp, fun x hx => by obtain ⟨j, _, rfl⟩ := List.mem_map.1 hx; exact fL_none j⟩
theorem rowK_step {es : List Lef} (h : LefOk es) {k P : Nat} (hk : k < es.length) (hp : (nthL es k).pl = (P : Int)) : (rowK es k).set P (numP (nthL es k).pl (nthL es k).va) = rowK es (k + 1) := by
  unfold rowK
  apply List.ext_getElem
  · simp
  · intro j h1 h2
    have hj : j < 256 := by simpa using h2
    rw [List.getElem_set, List.getElem_map, List.getElem_map, List.getElem_range]
    unfold fL
    rw [valL_step h hk]
    by_cases e : P = j
    · rw [if_pos e, if_pos (by rw [hp, e]), hp, e]
    · rw [if_neg e, if_neg (by rw [hp]; omega)]
theorem rowK_end (es : List Lef) : rowK es es.length = rowG (fL es) 0 := by
  unfold rowK rowG
  rw [List.take_length]
  rfl
end Go.Proofs.YtmfopbkhlekhkaaDoor
