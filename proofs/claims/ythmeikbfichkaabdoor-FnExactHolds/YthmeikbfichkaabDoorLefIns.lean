/- The contract of slices.Insert of one Leaf. -/
import Derived.Test.YthmeikbfichkaabDoorLefDel
import Derived.Shelf.Spec.SlicesInsert
import Derived.Lib.AppendZerosOnto
import Derived.Maps.AppendAt
import Derived.Lib.Overlaps
import Derived.Shelf.RegionOpenPlain
import Derived.Laws.CopyOwn
namespace Go.Proofs.YthmeikbfichkaabDoor
open Go.RowKit Go.Lib
/-- copy of Leafs' cells into a row that is known whole. -/
theorem run_copy_lefs {w : World} {g off dLen b o sLen k : Nat} {xs cur : List Value} (hg : w.heap[g]? = some (.cells cur.toArray 42 (0, 0))) (hc : ∀ j v, xs[j]? = some v → w.cell? ((⟨b, o, none⟩ : Addr).add j) = some v) (hmin : Nat.min sLen dLen = k) (hxl : xs.length = k * 2) (h1 : ∀ u ∈ xs, u.oneCell' = true) (hfit : off + xs.length ≤ cur.length) :
    ∃ w', (∀ ty dCap sCap, (Builtin.copy_ #[26, 26] ty #[.slice (some ⟨g, off, none⟩) dLen dCap, .slice (some ⟨b, o, none⟩) sLen sCap]).run Tryd.prog w = .ok (goInt k) w') ∧ w'.heap[g]? = some (.cells (splice cur off xs).toArray 42 (0, 0)) ∧ w.grownBy w' (some g) := by
  obtain ⟨i0, hi, hz0, hz1, hz2⟩ := info_parts Tryd.infoL42
  have hl := run_loadCells_list (P := Tryd.prog) w ⟨b, o, none⟩ xs hc
  have hst := run_storeCells_at Tryd.prog g off 42 xs 0 cur.toArray w hg (by simpa using hfit) h1
  refine ⟨_, fun ty dCap sCap => ?_, setRow_heap w g cur.toArray _ _ _ hg, ⟨rfl, rfl, rfl, by simp [World.setRow], fun k _ hk => setRow_other w g k _ (fun e => hk (by simp [e]))⟩⟩
  rw [hxl] at hl
  simp [Builtin.copy_, run_underlying Tryd.underlying26, Builtin.lenOf, Builtin.firstCells, sizeOf, typeInfo, hi, hz1, hmin, hl, hst, splice]
theorem splice_len {cur xs : List Value} {o : Nat} (h : o + xs.length ≤ cur.length) : (splice cur o xs).length = cur.length := by
  unfold splice
  simp only [List.length_append, List.length_take, List.length_drop]
  omega
theorem splice_get {cur xs : List Value} {o : Nat} (h : o + xs.length ≤ cur.length) (j : Nat) : (splice cur o xs)[j]? = if j < o then cur[j]? else if j < o + xs.length then xs[j - o]? else cur[j]? := by
  unfold splice
  have ho : (cur.take o).length = o := by rw [List.length_take]; omega
  by_cases h1 : j < o
  · rw [if_pos h1, List.getElem?_append_left (by omega), List.getElem?_take_of_lt h1]
  · rw [if_neg h1, List.getElem?_append_right (by omega), ho]
    by_cases h2 : j < o + xs.length
    · rw [if_pos h2, List.getElem?_append_left (by omega)]
    · rw [if_neg h2, List.getElem?_append_right (by omega), List.getElem?_drop]
      congr 1; omega
/-- Where the cells stand of Leafs into which one is put. -/
theorem LV_ins {ys : List Lef} {x : Lef} {i j : Nat} (hi : i ≤ ys.length) : (LV (ys.take i ++ [x] ++ ys.drop i))[j]? = if j < i * 2 then (LV ys)[j]? else if j < i * 2 + 2 then (LC x)[j - i * 2]? else (LV ys)[j - 2]? := by
  have hy : LV ys = LV (ys.take i) ++ LV (ys.drop i) := by rw [← LV_append, List.take_append_drop]
  have hl : (LV (ys.take i)).length = i * 2 := by rw [LV_length, List.length_take]; omega
  have h2 : (LC x).length = 2 := rfl
  rw [LV_append, LV_append, LV_one, hy]
  by_cases h1 : j < i * 2
  · rw [if_pos h1, List.getElem?_append_left (by rw [List.length_append]; omega), List.getElem?_append_left (by omega), List.getElem?_append_left (by omega)]
  · rw [if_neg h1]
    by_cases h3 : j < i * 2 + 2
    · rw [if_pos h3, List.getElem?_append_left (by rw [List.length_append]; omega), List.getElem?_append_right (by omega), hl]
    · rw [if_neg h3, List.getElem?_append_right (by rw [List.length_append]; omega), List.getElem?_append_right (by omega), List.length_append, hl, h2]
      congr 1; omega
theorem LV_drop_get {ys : List Lef} {i j : Nat} : (LV (ys.drop i))[j]? = (LV ys)[i * 2 + j]? := by
  by_cases hi : i ≤ ys.length
  · have hy : LV ys = LV (ys.take i) ++ LV (ys.drop i) := by rw [← LV_append, List.take_append_drop]
    have hl : (LV (ys.take i)).length = i * 2 := by rw [LV_length, List.length_take]; omega
    rw [hy, List.getElem?_append_right (by omega), hl]
    congr 1; omega
  · rw [List.drop_eq_nil_of_le (by omega), List.getElem?_eq_none (by rw [LV_length]; simp), List.getElem?_eq_none (by rw [LV_length]; omega)]
theorem insL_shift {cur : List Value} {ys : List Lef} {x : Lef} {n i : Nat} (hn : n = ys.length) (hi : i ≤ n) (hx : cur.take (n * 2) = LV ys) (hl : (n + 1) * 2 ≤ cur.length) :
    (splice (splice cur ((i + 1) * 2) (LV (ys.drop i))) (i * 2) (LC x)).take ((n + 1) * 2) = LV (ys.take i ++ [x] ++ ys.drop i) ∧ (splice (splice cur ((i + 1) * 2) (LV (ys.drop i))) (i * 2) (LC x)).length = cur.length := by
  have h2 : (LC x).length = 2 := rfl
  have hd : (LV (ys.drop i)).length = (n - i) * 2 := by rw [LV_length, List.length_drop, hn]
  have l1 : (splice cur ((i + 1) * 2) (LV (ys.drop i))).length = cur.length := splice_len (by rw [hd]; omega)
  have l2 : (splice (splice cur ((i + 1) * 2) (LV (ys.drop i))) (i * 2) (LC x)).length = cur.length := by rw [splice_len (by rw [l1, h2]; omega), l1]
  refine ⟨List.ext_getElem? fun j => ?_, l2⟩
  have hcy : ∀ j, j < n * 2 → cur[j]? = (LV ys)[j]? := fun j hj => by rw [← hx, List.getElem?_take_of_lt hj]
  by_cases hj : j < (n + 1) * 2
  · rw [List.getElem?_take_of_lt hj, splice_get (by rw [l1, h2]; omega), splice_get (by rw [hd]; omega), LV_ins (by omega), h2, hd]
    by_cases c1 : j < i * 2
    · rw [if_pos c1, if_pos c1, if_pos (by omega)]; exact hcy j (by omega)
    · rw [if_neg c1, if_neg c1]
      by_cases c2 : j < i * 2 + 2
      · rw [if_pos c2, if_pos c2]
      · rw [if_neg c2, if_neg c2, if_neg (by omega), if_pos (by omega), LV_drop_get]
        congr 1; omega
  · rw [List.getElem?_eq_none (by rw [List.length_take]; omega), List.getElem?_eq_none (by rw [LV_length]; simp; omega)]
theorem insL_grow {cur : List Value} {ys : List Lef} {x : Lef} {n i : Nat} (hn : n = ys.length) (hi : i ≤ n) (hx : cur.take (i * 2) = LV (ys.take i)) (hl : (n + 1) * 2 ≤ cur.length) :
    (splice (splice cur (i * 2) (LC x)) ((i + 1) * 2) (LV (ys.drop i))).take ((n + 1) * 2) = LV (ys.take i ++ [x] ++ ys.drop i) ∧ (splice (splice cur (i * 2) (LC x)) ((i + 1) * 2) (LV (ys.drop i))).length = cur.length := by
  have h2 : (LC x).length = 2 := rfl
  have hd : (LV (ys.drop i)).length = (n - i) * 2 := by rw [LV_length, List.length_drop, hn]
  have l1 : (splice cur (i * 2) (LC x)).length = cur.length := splice_len (by rw [h2]; omega)
  have l2 : (splice (splice cur (i * 2) (LC x)) ((i + 1) * 2) (LV (ys.drop i))).length = cur.length := by rw [splice_len (by rw [l1, hd]; omega), l1]
  refine ⟨List.ext_getElem? fun j => ?_, l2⟩
  have hcy : ∀ j, j < i * 2 → cur[j]? = (LV ys)[j]? := fun j hj => by
    rw [← List.getElem?_take_of_lt hj, hx, ← LV_take, List.getElem?_take_of_lt hj]
  by_cases hj : j < (n + 1) * 2
  · rw [List.getElem?_take_of_lt hj, splice_get (by rw [l1, hd]; omega), splice_get (by rw [h2]; omega), LV_ins (by omega), h2, hd]
    by_cases c1 : j < i * 2
    · rw [if_pos (by omega), if_pos c1, if_pos c1]; exact hcy j c1
    · by_cases c2 : j < i * 2 + 2
      · rw [if_pos (by omega), if_neg c1, if_pos c2, if_neg c1, if_pos c2]
      · rw [if_neg (by omega), if_pos (by omega), if_neg c1, if_neg c2, LV_drop_get]
        congr 1; omega
  · rw [List.getElem?_eq_none (by rw [List.length_take]; omega), List.getElem?_eq_none (by rw [LV_length]; simp; omega)]
def InsLPost (w : World) (lo : Nat) (v : Value) (x : Lef) (ys : List Lef) (i : Nat) (e : Ending) (w' : World) : Prop :=
  ∃ v', e = .returned v' ∧ OwnL w' lo v' (ys.take i ++ [x] ++ ys.drop i) ∧ w.grownBy w' v.ownBlock
theorem cellsL_at {w : World} {h : Nat} {xs : List Value} (hh : w.heap[h]? = some (.cells xs.toArray 42 (0, 0))) : ∀ o j v, xs[o + j]? = some v → w.cell? ((⟨h, o, none⟩ : Addr).add j) = some v := by
  intro o j v hj
  rw [Addr.add_lit]
  simp [World.cell?, hh, hj]
theorem LC_one (x : Lef) : ∀ u ∈ LC x, u.oneCell' = true := by rw [← LV_one]; exact LV_oneCell _
theorem zerosL_len (z : Value) (k m : Nat) (hz : z.cells.size = m) : (Builtin.zeroCells z.cells k).size = k * m := by
  unfold Builtin.zeroCells
  simp [hz]
end Go.Proofs.YthmeikbfichkaabDoor
