/- The contract of slices.Insert of one Leaf. -/
import Derived.Test.YtmfopbkhlekhkaaDoorLefDel
import Derived.Shelf.Spec.SlicesInsert
import Derived.Lib.AppendZerosOnto
import Derived.Maps.AppendAt
import Derived.Lib.Overlaps
import Derived.Shelf.RegionOpenPlain
import Derived.Laws.CopyOwn
namespace Go.Proofs.YtmfopbkhlekhkaaDoor
open Go.RowKit Go.Lib
/-- copy of Leafs' cells into a row that is known whole. -/
theorem run_copy_lefs {w : World} {g off dLen b o sLen k : Nat} {xs cur : List Value} (hg : w.heap[g]? = some (.cells cur.toArray 42 (0, 0))) (hc : ∀ j v, xs[j]? = some v → w.cell? ((⟨b, o, none⟩ : Addr).add j) = some v) (hmin : Nat.min sLen dLen = k) (hxl : xs.length = k * 2) (h1 : ∀ u ∈ xs, u.oneCell' = true) (hfit : off + xs.length ≤ cur.length) :
    ∃ w', (∀ ty dCap sCap, (Builtin.copy_ #[24, 24] ty #[.slice (some ⟨g, off, none⟩) dLen dCap, .slice (some ⟨b, o, none⟩) sLen sCap]).run Tryd.prog w = .ok (goInt k) w') ∧ w'.heap[g]? = some (.cells (splice cur off xs).toArray 42 (0, 0)) ∧ w.grownBy w' (some g) := by
  obtain ⟨i0, hi, hz0, hz1, hz2⟩ := info_parts Tryd.infoL42
  have hl := run_loadCells_list (P := Tryd.prog) w ⟨b, o, none⟩ xs hc
  have hst := run_storeCells_at Tryd.prog g off 42 xs 0 cur.toArray w hg (by simpa using hfit) h1
  refine ⟨_, fun ty dCap sCap => ?_, setRow_heap w g cur.toArray _ _ _ hg, ⟨rfl, rfl, rfl, by simp [World.setRow], fun k _ hk => setRow_other w g k _ (fun e => hk (by simp [e]))⟩⟩
  rw [hxl] at hl
  simp [Builtin.copy_, run_underlying Tryd.underlying24, Builtin.lenOf, Builtin.firstCells, sizeOf, typeInfo, hi, hz1, hmin, hl, hst, splice]
theorem splice_len {cur xs : List Value} {o : Nat} (h : o + xs.length ≤ cur.length) : (splice cur o xs).length = cur.length := by
  unfold splice
  simp only [List.length_append, List.length_take, List.length_drop]
  omega
theorem splice_get {cur xs : List Value} {o : Nat} (h : o + xs.length ≤ cur.length) (j : Nat) : (splice cur o xs)[j]? = if j < o then cur[j]? else if j < o + xs.length then xs[j - o]? else cur[j]? := by
  unfold splice
  have ho : (cur.take o).length = o := by rw [List.length_take]; omega
  by_cases h1 : j < o
  · rw [if_pos h1, List.getElem?_append_left (by omega), List.getElem?_take_of_lt h1]
  · rw [if_neg h1, List.getElem?_append_right (by omega), ho]
    by_cases h2 : j < o + xs.length
    · rw [if_pos h2, List.getElem?_append_left (by omega)]
    · rw [if_neg h2, List.getElem?_append_right (by omega), List.getElem?_drop]
      congr 1; omega
/-- Where the cells stand of Leafs into which one is put. -/
theorem LV_ins {ys : List Lef} {x : Lef} {i j : Nat} (hi : i ≤ ys.length) : (LV (ys.take i ++ [x] ++ ys.drop i))[j]? = if j < i * 2 then (LV ys)[j]? else if j < i * 2 + 2 then (LC x)[j - i * 2]? else (LV ys)[j - 2]? := by
  have hy : LV ys = LV (ys.take i) ++ LV (ys.drop i) := by rw [← LV_append, List.take_append_drop]
  have hl : (LV (ys.take i)).length = i * 2 := by rw [LV_length, List.length_take]; omega
  have h2 : (LC x).length = 2 := rfl
  rw [LV_append, LV_append, LV_one, hy]
  by_cases h1 : j < i * 2
  · rw [if_pos h1, List.getElem?_append_left (by rw [List.length_append]; omega), List.getElem?_append_left (by omega), List.getElem?_append_left (by omega)]
  · rw [if_neg h1]
    by_cases h3 : j < i * 2 + 2
    · rw [if_pos h3, List.getElem?_append_left (by rw [List.length_append]; omega), List.getElem?_append_right (by omega), hl]
    · rw [if_neg h3, List.getElem?_append_right (by rw [List.length_append]; omega), List.getElem?_append_right (by omega), List.length_append, hl, h2]
      congr 1; omega
theorem LV_drop_get {ys : List Lef} {i j : Nat} : (LV (ys.drop i))[j]? = (LV ys)[i * 2 + j]? := by
  by_cases hi : i ≤ ys.length
  · have hy : LV ys = LV (ys.take i) ++ LV (ys.drop i) := by rw [← LV_append, List.take_append_drop]
    have hl : (LV (ys.take i)).length = i * 2 := by rw [LV_length, List.length_take]; omega
    rw [hy, List.getElem?_append_right (by omega), hl]
    congr 1; omega
  · rw [List.drop_eq_nil_of_le (by omega), List.getElem?_eq_none (by rw [LV_length]; simp), List.getElem?_eq_none (by rw [LV_length]; omega)]
theorem insL_shift {cur : List Value} {ys : List Lef} {x : Lef} {n i : Nat} (hn : n = ys.length) (hi : i ≤ n) (hx : cur.take (n * 2) = LV ys) (hl : (n + 1) * 2 ≤ cur.length) :
    (splice (splice cur ((i + 1) * 2) (LV (ys.drop i))) (i * 2) (LC x)).take ((n + 1) * 2) = LV (ys.take i ++ [x] ++ ys.drop i) ∧ (splice (splice cur ((i + 1) * 2) (LV (ys.drop i))) (i * 2) (LC x)).length = cur.length := by
  have h2 : (LC x).length = 2 := rfl
  have hd : (LV (ys.drop i)).length = (n - i) * 2 := by rw [LV_length, List.length_drop, hn]
  have l1 : (splice cur ((i + 1) * 2) (LV (ys.drop i))).length = cur.length := splice_len (by rw [hd]; omega)
  have l2 : (splice (splice cur ((i + 1) * 2) (LV (ys.drop i))) (i * 2) (LC x)).length = cur.length := by rw [splice_len (by rw [l1, h2]; omega), l1]
  refine ⟨List.ext_getElem? fun j => ?_, l2⟩
  have hcy : ∀ j, j < n * 2 → cur[j]? = (LV ys)[j]? := fun j hj => by rw [← hx, List.getElem?_take_of_lt hj]
  by_cases hj : j < (n + 1) * 2
  · rw [List.getElem?_take_of_lt hj, splice_get (by rw [l1, h2]; omega), splice_get (by rw [hd]; omega), LV_ins (by omega), h2, hd]
    by_cases c1 : j < i * 2
    · rw [if_pos c1, if_pos c1, if_pos (by omega)]; exact hcy j (by omega)
    · rw [if_neg c1, if_neg c1]
      by_cases c2 : j < i * 2 + 2
      · rw [if_pos c2, if_pos c2]
      · rw [if_neg c2, if_neg c2, if_neg (by omega), if_pos (by omega), LV_drop_get]
        congr 1; omega
  · rw [List.getElem?_eq_none (by rw [List.length_take]; omega), List.getElem?_eq_none (by rw [LV_length]; simp; omega)]
theorem insL_grow {cur : List Value} {ys : List Lef} {x : Lef} {n i : Nat} (hn : n = ys.length) (hi : i ≤ n) (hx : cur.take (i * 2) = LV (ys.take i)) (hl : (n + 1) * 2 ≤ cur.length) :
    (splice (splice cur (i * 2) (LC x)) ((i + 1) * 2) (LV (ys.drop i))).take ((n + 1) * 2) = LV (ys.take i ++ [x] ++ ys.drop i) ∧ (splice (splice cur (i * 2) (LC x)) ((i + 1) * 2) (LV (ys.drop i))).length = cur.length := by
  have h2 : (LC x).length = 2 := rfl
  have hd : (LV (ys.drop i)).length = (n - i) * 2 := by rw [LV_length, List.length_drop, hn]
  have l1 : (splice cur (i * 2) (LC x)).length = cur.length := splice_len (by rw [h2]; omega)
  have l2 : (splice (splice cur (i * 2) (LC x)) ((i + 1) * 2) (LV (ys.drop i))).length = cur.length := by rw [splice_len (by rw [l1, hd]; omega), l1]
  refine ⟨List.ext_getElem? fun j => ?_, l2⟩
  have hcy : ∀ j, j < i * 2 → cur[j]? = (LV ys)[j]? := fun j hj => by
    rw [← List.getElem?_take_of_lt hj, hx, ← LV_take, List.getElem?_take_of_lt hj]
  by_cases hj : j < (n + 1) * 2
  · rw [List.getElem?_take_of_lt hj, splice_get (by rw [l1, hd]; omega), splice_get (by rw [h2]; omega), LV_ins (by omega), h2, hd]
    by_cases c1 : j < i * 2
    · rw [if_pos (by omega), if_pos c1, if_pos c1]; exact hcy j c1
    · by_cases c2 : j < i * 2 + 2
      · rw [if_pos (by omega), if_neg c1, if_pos c2, if_neg c1, if_pos c2]
      · rw [if_neg (by omega), if_pos (by omega), if_neg c1, if_neg c2, LV_drop_get]
        congr 1; omega
  · rw [List.getElem?_eq_none (by rw [List.length_take]; omega), List.getElem?_eq_none (by rw [LV_length]; simp; omega)]
def InsLPost (w : World) (lo : Nat) (v : Value) (x : Lef) (ys : List Lef) (i : Nat) (e : Ending) (w' : World) : Prop :=
  ∃ v', e = .returned v' ∧ OwnL w' lo v' (ys.take i ++ [x] ++ ys.drop i) ∧ w.grownBy w' v.ownBlock
theorem cellsL_at {w : World} {h : Nat} {xs : List Value} (hh : w.heap[h]? = some (.cells xs.toArray 42 (0, 0))) : ∀ o j v, xs[o + j]? = some v → w.cell? ((⟨h, o, none⟩ : Addr).add j) = some v := by
  intro o j v hj
  rw [Addr.add_lit]
  simp [World.cell?, hh, hj]
theorem LC_one (x : Lef) : ∀ u ∈ LC x, u.oneCell' = true := by rw [← LV_one]; exact LV_oneCell _
set_option maxHeartbeats 4000000 in
set_option maxRecDepth 100000 in
theorem insL_end (v : Value) (lo h : Nat) (x : Lef) (ys : List Lef) (w : World) (hv : OwnL w lo v ys) (hl : ys.length ≤ 300) (hlo : lo ≤ w.heap.size) (hh : w.heap[h]? = some (.cells (LC x).toArray 42 (0, 0))) :
    Calls Tryd.prog 42 #[v, .int .i64 (ys.length : Int), .slice (some ⟨h, 0, none⟩) 1 1] w fun e w' => InsLPost w lo v x ys ys.length e w' := by
  obtain ⟨i0, hi, hz0, hz1, hz2⟩ := info_parts Tryd.infoL42
  have hca : ∀ j u, (LC x)[j]? = some u → w.cell? ((⟨h, 0, none⟩ : Addr).add j) = some u := fun j u hj => cellsL_at hh 0 j u (by rw [Nat.zero_add]; exact hj)
  obtain ⟨v', w', hrun, r1, r2, -⟩ := run_append_own (P := Tryd.prog) w lo 24 24 42 i0 _ 2 16 Tryd.underlying24 hi hz0 hz1 hz2 rfl (by decide) v ys.length (LV ys) hv ⟨h, 0, none⟩ 1 1 (LC x) rfl hca (LC_one x) (by unfold maxLen; omega) (by omega) hlo
  have END : Hid (InsLPost w lo v x ys ys.length (.returned v') w') := ⟨v', rfl, by rw [List.take_length, List.drop_length, List.append_nil]; exact ownL_more (zs := [x]) (by rw [LV_one]; exact r1), r2⟩
  have HR : Hid ((Builtin.append_ #[24, 24] 24 #[v, .slice (some ⟨h, 0, none⟩) 1 1]).run Tryd.prog w = .ok v' w') := hrun
  clear r1 r2 hrun hca hh
  obtain ⟨a, cap, hvv, hc0, hc1⟩ : ∃ a cap, v = .slice a ys.length cap ∧ ys.length ≤ cap ∧ cap ≤ maxLen := by
    obtain ⟨a, cap, h1, h2, h3, -⟩ := hv.rd
    exact ⟨a, cap, h1, h2, h3⟩
  clear hv
  subst hvv
  obtain ⟨n, hn⟩ : ∃ n, n = ys.length := ⟨_, rfl⟩
  rw [← hn] at HR END hl hc0 ⊢
  unfold maxLen at hc1
  have hne : ((n : Int) == (n : Int)) = true := by simp
  clear hn
  by_cases hcn : cap = n
  · subst hcn
    go_enter Tryd.func42, Tryd.ntmps42
    go_wp2_with (at_builtin; refine Lib.wpList_append_run _ rfl _ _ _ _ rfl _ _ rfl rfl _ _ HR.out ?_)
    go_ret
    exact END.out
  · go_enter Tryd.func42, Tryd.ntmps42
    go_wp2_with (at_builtin; refine Lib.wpList_append_run _ rfl _ _ _ _ rfl _ _ rfl rfl _ _ HR.out ?_)
    go_ret
    exact END.out
set_option maxHeartbeats 8000000 in
set_option maxRecDepth 100000 in
theorem insL_room (g cap n lo h i : Nat) (cur : Array Value) (x : Lef) (ys : List Lef) (w : World) (hn : n = ys.length) (hin : i < n) (hn6 : n ≤ 300) (hlg : lo ≤ g) (hg : w.heap[g]? = some (.cells cur 42 (0, 0))) (hroom : n + 1 ≤ cap) (hcm : cap ≤ maxLen) (hcs : cur.size = cap * 2) (hct : cur.toList.take (n * 2) = LV ys) (hne : h ≠ g) (hh : w.heap[h]? = some (.cells (LC x).toArray 42 (0, 0))) :
    Calls Tryd.prog 42 #[.slice (some ⟨g, 0, none⟩) n cap, .int .i64 (i : Int), .slice (some ⟨h, 0, none⟩) 1 1] w fun e w' => InsLPost w lo (.slice (some ⟨g, 0, none⟩) n cap) x ys i e w' := by
  obtain ⟨i0, hi, hz0, hz1, hz2⟩ := info_parts Tryd.infoL42
  have hg' : w.heap[g]? = some (.cells cur.toList.toArray 42 (0, 0)) := hg
  have hcl : cur.toList.length = cap * 2 := by simpa using hcs
  have hdl : (LV (ys.drop i)).length = (n - i) * 2 := by rw [LV_length, List.length_drop, hn]
  have hsz : ∀ w, (Go.sizeOf 42).run Tryd.prog w = .ok 2 w := fun w => by simp [Go.sizeOf, typeInfo, hi, hz1]
  have hov : ∀ o lb cb, (callFunc 67 #[.slice (some ⟨h, 0, none⟩) 1 1, .slice (some ⟨g, o, none⟩) lb cb]).run Tryd.prog w = .ok (.value (.bool false)) w := fun o lb cb => by
    rw [run_callFunc_extern Tryd.func67 (by kernel_rfl) (by kernel_rfl) (by kernel_rfl) (e := Extern.SlicesOverlaps.overlaps #[24, 24] #[4]) (by kernel_rfl),
      Lib.run_overlaps_apart w 24 4 42 Tryd.underlying24 2 hsz ⟨h, 0, none⟩ ⟨g, o, none⟩ 1 1 lb cb hne 42 42 2 (cap * 2) (by simp [World.shape?, hh, LC]) (by simp [World.shape?, hg, hcs]) (by omega) (by simp [World.frozen?, hh]) (by simp [World.frozen?, hh])]
    rfl
  obtain ⟨W1, hr1, hg1, hgr1⟩ := run_copy_lefs (w := w.drew) (g := g) (off := (i + 1) * 2) (dLen := n - i) (b := g) (o := i * 2) (sLen := n + 1 - i) (k := n - i) (xs := LV (ys.drop i)) (cur := cur.toList) hg' (fun j v hj => by
      have hj2 := hj
      have hjl := (List.getElem?_eq_some_iff.1 hj).1
      rw [hdl] at hjl
      rw [LV_drop_get, ← hct, List.getElem?_take_of_lt (by omega)] at hj2
      exact cellsL_at (w := w) hg' (i * 2) j v hj2) (by simp only [Nat.min_def]; split <;> omega) hdl (LV_oneCell _) (by rw [hdl]; omega)
  have hh1 : W1.heap[h]? = some (.cells (LC x).toArray 42 (0, 0)) := (hgr1.block h (Array.getElem?_eq_some_iff.1 hh).1 (fun e => hne (Option.some.inj e))).trans hh
  obtain ⟨W2, hr2, hg2, hgr2⟩ := run_copy_lefs (w := W1) (g := g) (off := i * 2) (dLen := n + 1 - i) (b := h) (o := 0) (sLen := 1) (k := 1) (xs := LC x) hg1 (fun j u hj => cellsL_at hh1 0 j u (by rw [Nat.zero_add]; exact hj)) (by simp only [Nat.min_def]; split <;> omega) rfl (LC_one x) (by rw [splice_len (by rw [hdl]; omega)]; show i * 2 + 2 ≤ _; omega)
  obtain ⟨l1, l2⟩ := insL_shift (x := x) hn (Nat.le_of_lt hin) hct (show (n + 1) * 2 ≤ cur.toList.length by omega)
  have hel : (ys.take i ++ [x] ++ ys.drop i).length = n + 1 := by simp only [List.length_append, List.length_take, List.length_drop, List.length_cons, List.length_nil]; omega
  have END : Hid (InsLPost w lo (.slice (some ⟨g, 0, none⟩) n cap) x ys i (.returned (.slice (some ⟨g, 0, none⟩) (n + 1) cap)) W2) := by
    refine ⟨_, rfl, ⟨by rw [LV_length], .inr ⟨g, cap, _, by rw [hel], hlg, hg2, by rw [hel]; exact hroom, hcm, by simp only [List.size_toArray]; rw [l2, hcl], ?_⟩⟩, ?_⟩
    · rw [hel]
      exact l1
    · exact (⟨rfl, rfl, rfl, Nat.le_refl _, fun _ _ _ => rfl⟩ : w.grownBy w.drew (some g)).trans (hgr1.trans hgr2)
  have HR1 : Hid (∀ ty dCap sCap, (Builtin.copy_ #[24, 24] ty #[.slice (some ⟨g, (i + 1) * 2, none⟩) (n - i) dCap, .slice (some ⟨g, i * 2, none⟩) (n + 1 - i) sCap]).run Tryd.prog w.drew = .ok (goInt ((n - i : Nat) : Int)) W1) := hr1
  have HR2 : Hid (∀ ty dCap sCap, (Builtin.copy_ #[24, 24] ty #[.slice (some ⟨g, i * 2, none⟩) (n + 1 - i) dCap, .slice (some ⟨h, 0, none⟩) 1 sCap]).run Tryd.prog W1 = .ok (goInt 1) W2) := hr2
  unfold maxLen at hcm
  have hz2 : ¬ ((i : Int) = (n : Int)) := by omega
  have hz2b : ((i : Int) == (n : Int)) = false := by simp; omega
  have hc1 : ¬ cap = i + 1 := by omega
  have hc0 : ¬ cap = i := by omega
  have hr0 : ¬ (cap : Int) < (n : Int) + 1 := by omega
  have h1n : (i : Int) + 1 ≤ (n : Int) + 1 := by omega
  have h1i : (i : Int) ≤ (n : Int) := by omega
  have h1i2 : (i : Int) ≤ (n : Int) + 1 := by omega
  have hw1 : IntKind.i64.wrap ((i : Int) + 1) = (i : Int) + 1 := by rw [IntKind.wrap_i64]; omega
  have h0n : (0 : Int) ≤ (n : Int) + 1 := by omega
  have h0i : (0 : Int) ≤ (i : Int) + 1 := by omega
  have hsb : n + 1 - (i + 1) = n - i := by omega
  have mixed : Tryd.prog.follows Departure.mixedOrders = true := by kernel_rfl
  clear hr1 hr2 hg1 hg2 hgr1 hgr2 hh1 l1 l2 hct hg' hg hh hcl hcs hsz hn hdl hel
  go_enter Tryd.func42, Tryd.ntmps42
  go_wp2_with (simp only [hov])
  go_region_law_o (refine step_copy_runI rfl _ _ 24 24 rfl (.slice (some ⟨g, (i + 1) * 2, none⟩) (n - i) (cap - (i + 1))) (.slice (some ⟨g, i * 2, none⟩) (n + 1 - i) (cap - i)) (by simp [Act.eval, Act.put]) (by simp [Act.eval, Act.put]) (HR1.out _ _ _) ?_)
  go_wp2_with (simp only [HR2.out])
  go_ret
  exact END.out
theorem zerosL_len (z : Value) (k m : Nat) (hz : z.cells.size = m) : (Builtin.zeroCells z.cells k).size = k * m := by
  unfold Builtin.zeroCells
  simp [hz]
set_option maxHeartbeats 8000000 in
set_option maxRecDepth 100000 in
theorem insL_full (g cap n lo h i : Nat) (cur : Array Value) (x : Lef) (ys : List Lef) (w : World) (hn : n = ys.length) (hin : i < n) (hn6 : n ≤ 300) (hlo : lo ≤ w.heap.size) (hg : w.heap[g]? = some (.cells cur 42 (0, 0))) (hnc : n ≤ cap) (hroom : cap < n + 1) (hct : cur.toList.take (n * 2) = LV ys) (hh : w.heap[h]? = some (.cells (LC x).toArray 42 (0, 0))) :
    Calls Tryd.prog 42 #[.slice (some ⟨g, 0, none⟩) n cap, .int .i64 (i : Int), .slice (some ⟨h, 0, none⟩) 1 1] w fun e w' => InsLPost w lo (.slice (some ⟨g, 0, none⟩) n cap) x ys i e w' := by
  obtain ⟨i0, hi, hz0, hz1, hz2⟩ := info_parts Tryd.infoL42
  have hg' : w.heap[g]? = some (.cells cur.toList.toArray 42 (0, 0)) := hg
  have hdl : (LV (ys.drop i)).length = (n - i) * 2 := by rw [LV_length, List.length_drop, hn]
  have htl : (LV (ys.take i)).length = i * 2 := by rw [LV_length, List.length_take]; omega
  have hgl : g < w.heap.size := (Array.getElem?_eq_some_iff.1 hg).1
  have hhl : h < w.heap.size := (Array.getElem?_eq_some_iff.1 hh).1
  have hcy : ∀ j, j < n * 2 → cur.toList[j]? = (LV ys)[j]? := fun j hj => by rw [← hct, List.getElem?_take_of_lt hj]
  obtain ⟨z, hz⟩ : ∃ z : Value, i0.zero = some z ∧ z.cells.size = 2 := ⟨_, hz0, rfl⟩
  have hold : (Builtin.firstCells i0.size i (.slice (some ⟨g, 0, none⟩) i cap)).run Tryd.prog w.drew = .ok (LV (ys.take i)).toArray w.drew := run_firstCells_some w.drew i0.size i ⟨g, 0, none⟩ i cap (LV (ys.take i)) (by rw [hz1, htl]) (fun j v hj => by
    have hjl := (List.getElem?_eq_some_iff.1 hj).1
    rw [htl] at hjl
    rw [← LV_take, List.getElem?_take_of_lt hjl, ← hcy j (by omega)] at hj
    exact cellsL_at (w := w) hg' 0 j v (by rw [Nat.zero_add]; exact hj))
  have hrz := fun ty => Lib.run_append_grow_zeros (P := Tryd.prog) w 24 3 ty 42 i0 z .i64 .i64 Tryd.underlying24 Tryd.underlying3 hi hz.1 (some ⟨g, 0, none⟩) i cap (LV (ys.take i)) hold (n + 1 - i) (by omega) (by rw [hz1]; omega) (by omega) (by omega) (by rw [hz2]; omega) (by rw [hz2]; exact growslice_fits (by omega) (by omega))
  rw [show i + (n + 1 - i) = n + 1 by omega] at hrz
  have hGn : n + 1 ≤ grownCap w (n + 1) cap 42 := grownCap_ge w _ _ _
  have hGm : grownCap w (n + 1) cap 42 ≤ maxLen := grownCap_le_maxLen w (n + 1) cap 42 (by unfold maxLen; omega)
  obtain ⟨G, hG⟩ : ∃ G, G = grownCap w (n + 1) cap 42 := ⟨_, rfl⟩
  rw [← hG] at hrz hGn hGm
  obtain ⟨ROW, hROW⟩ : ∃ ROW : List Value, ROW = ((LV (ys.take i)).toArray ++ Builtin.zeroCells z.cells (n + 1 - i) ++ Builtin.zeroCells z.cells (G - (n + 1))).toList := ⟨_, rfl⟩
  have hRl : ROW.length = G * 2 := by
    rw [hROW, Array.length_toList, Array.size_append, Array.size_append, zerosL_len z _ 2 hz.2, zerosL_len z _ 2 hz.2, List.size_toArray, htl]
    omega
  have hRt : ROW.take (i * 2) = LV (ys.take i) := by
    rw [hROW, Array.toList_append, Array.toList_append, List.append_assoc, ← htl, List.take_left]
  rw [show (LV (ys.take i)).toArray ++ Builtin.zeroCells z.cells (n + 1 - i) ++ Builtin.zeroCells z.cells (G - (n + 1)) = ROW.toArray by rw [hROW]] at hrz
  obtain ⟨W1, hW1⟩ : ∃ W1, W1 = w.drew.alloc (.cells ROW.toArray 42) := ⟨_, rfl⟩
  rw [← hW1] at hrz
  have hN1 : W1.heap[w.heap.size]? = some (.cells ROW.toArray 42 (0, 0)) := by rw [hW1]; exact heap_alloc_new w.drew _
  have hb1 : Below w.heap.size w W1 := by rw [hW1]; exact ((Below.refl _ w).drew).alloc (Nat.le_refl _) _
  have hh1 : W1.heap[h]? = some (.cells (LC x).toArray 42 (0, 0)) := (hb1.block h hhl).trans hh
  obtain ⟨W2, hr2, hN2, hgr2⟩ := run_copy_lefs (w := W1) (g := w.heap.size) (off := i * 2) (dLen := n + 1 - i) (b := h) (o := 0) (sLen := 1) (k := 1) (xs := LC x) hN1 (fun j u hj => cellsL_at hh1 0 j u (by rw [Nat.zero_add]; exact hj)) (by simp only [Nat.min_def]; split <;> omega) rfl (LC_one x) (by show i * 2 + 2 ≤ _; omega)
  have hg2 : W2.drew.heap[g]? = some (.cells cur.toList.toArray 42 (0, 0)) := (hgr2.block g (Nat.lt_of_lt_of_le hgl hb1.size) (fun e => by have := Option.some.inj e; omega)).trans ((hb1.block g hgl).trans hg')
  obtain ⟨W3, hr3, hN3, hgr3⟩ := run_copy_lefs (w := W2.drew) (g := w.heap.size) (off := (i + 1) * 2) (dLen := n - i) (b := g) (o := i * 2) (sLen := n - i) (k := n - i) (xs := LV (ys.drop i)) (cur := splice ROW (i * 2) (LC x)) hN2 (fun j v hj => by
      have hjl := (List.getElem?_eq_some_iff.1 hj).1
      rw [hdl] at hjl
      rw [LV_drop_get, ← hcy _ (by omega)] at hj
      exact cellsL_at hg2 (i * 2) j v hj) (by simp) hdl (LV_oneCell _) (by rw [splice_len (by show i * 2 + 2 ≤ _; omega), hdl]; omega)
  obtain ⟨l1, l2⟩ := insL_grow (x := x) hn (Nat.le_of_lt hin) hRt (show (n + 1) * 2 ≤ ROW.length by omega)
  have hel : (ys.take i ++ [x] ++ ys.drop i).length = n + 1 := by simp only [List.length_append, List.length_take, List.length_drop, List.length_cons, List.length_nil]; omega
  have END : Hid (InsLPost w lo (.slice (some ⟨g, 0, none⟩) n cap) x ys i (.returned (.slice (some ⟨w.heap.size, 0, none⟩) (n + 1) G)) W3) := by
    refine ⟨_, rfl, ⟨by rw [LV_length], .inr ⟨w.heap.size, G, _, by rw [hel], hlo, hN3, by rw [hel]; exact hGn, hGm, by simp only [List.size_toArray]; rw [l2, hRl], ?_⟩⟩, ?_⟩
    · rw [hel]
      exact l1
    · have g1 := hb1.size
      have g2 := hgr2.size
      exact ⟨hgr3.os.trans (hgr2.os.trans hb1.os), hgr3.tape.trans (hgr2.tape.trans hb1.tape), hgr3.output.trans (hgr2.output.trans hb1.output), Nat.le_trans g1 (Nat.le_trans g2 hgr3.size), fun k hk _ => (hgr3.block k (Nat.lt_of_lt_of_le hk (Nat.le_trans g1 g2)) (fun e => by have := Option.some.inj e; omega)).trans ((hgr2.block k (Nat.lt_of_lt_of_le hk g1) (fun e => by have := Option.some.inj e; omega)).trans (hb1.block k hk))⟩
  have HR1 : Hid (∀ ty, (Builtin.append_ #[24, 3] ty #[.slice (some ⟨g, 0, none⟩) i cap, .int .i64 ((n : Int) + 1 - (i : Int))]).run Tryd.prog w = .ok (.slice (some ⟨w.heap.size, 0, none⟩) (n + 1) G) W1) := fun ty => by rw [show (n : Int) + 1 - (i : Int) = ((n + 1 - i : Nat) : Int) by omega]; exact hrz ty
  have HR2 : Hid (∀ ty dCap sCap, (Builtin.copy_ #[24, 24] ty #[.slice (some ⟨w.heap.size, i * 2, none⟩) (n + 1 - i) dCap, .slice (some ⟨h, 0, none⟩) 1 sCap]).run Tryd.prog W1 = .ok (goInt 1) W2) := hr2
  have HR3 : Hid (∀ ty dCap sCap, (Builtin.copy_ #[24, 24] ty #[.slice (some ⟨w.heap.size, (i + 1) * 2, none⟩) (n - i) dCap, .slice (some ⟨g, i * 2, none⟩) (n - i) sCap]).run Tryd.prog W2.drew = .ok (goInt ((n - i : Nat) : Int)) W3) := hr3
  unfold maxLen at hGm
  have hz2b : ((i : Int) == (n : Int)) = false := by simp; omega
  have hz2c : ¬ ((i : Int) = (n : Int)) := by omega
  have hc0 : ¬ cap = i := by omega
  have hG0 : ¬ G = i := by omega
  have hG1 : ¬ G = i + 1 := by omega
  have hr0 : (cap : Int) < (n : Int) + 1 := by omega
  have h1n : (i : Int) + 1 ≤ (n : Int) + 1 := by omega
  have h1i : (i : Int) ≤ (n : Int) := by omega
  have h1i2 : (i : Int) ≤ (n : Int) + 1 := by omega
  have hw1 : IntKind.i64.wrap ((i : Int) + 1) = (i : Int) + 1 := by rw [IntKind.wrap_i64]; omega
  have hw2 : IntKind.i64.wrap ((n : Int) + 1 - (i : Int)) = (n : Int) + 1 - (i : Int) := by rw [IntKind.wrap_i64]; omega
  have h0n : (0 : Int) ≤ (n : Int) + 1 := by omega
  have h0i : (0 : Int) ≤ (i : Int) + 1 := by omega
  have hsb : n + 1 - (i + 1) = n - i := by omega
  have mixed : Tryd.prog.follows Departure.mixedOrders = true := by kernel_rfl
  clear hr2 hr3 hrz hN1 hN2 hN3 hgr2 hgr3 hb1 hh1 hg2 l1 l2 hct hg' hg hh hz hold hG hROW hRl hW1 hGn hn hdl htl hcy hel hRt
  go_enter Tryd.func42, Tryd.ntmps42
  go_wp2_with (first
    | (at_builtin; refine Lib.wpList_append_run _ rfl _ _ _ _ rfl _ _ rfl rfl _ _ (HR1.out _) ?_)
    | (simp only [HR2.out]))
  go_region_law_o (refine step_copy_runI rfl _ _ 24 24 rfl (.slice (some ⟨w.heap.size, (i + 1) * 2, none⟩) (n - i) (G - (i + 1))) (.slice (some ⟨g, i * 2, none⟩) (n - i) (cap - i)) (by simp [Act.eval, Act.put]) (by simp [Act.eval, Act.put]) (HR3.out _ _ _) ?_)
  go_wp2
  go_ret
  exact END.out
/-- slices.Insert of one Leaf. -/
theorem insL_any (v : Value) (lo h i : Nat) (x : Lef) (ys : List Lef) (w : World) (hv : OwnL w lo v ys) (hl : ys.length ≤ 300) (hi : i ≤ ys.length) (hlo : lo ≤ w.heap.size) (hh : w.heap[h]? = some (.cells (LC x).toArray 42 (0, 0))) (hne : v.ownBlock ≠ some h) :
    Calls Tryd.prog 42 #[v, .int .i64 (i : Int), .slice (some ⟨h, 0, none⟩) 1 1] w fun e w' => InsLPost w lo v x ys i e w' := by
  by_cases h0 : i = ys.length
  · subst h0
    exact insL_end v lo h x ys w hv hl hlo hh
  · rcases hv.2 with ⟨-, h1⟩ | ⟨g, cap, cur, rfl, hb, hg, hc1, hc2, hcs, hct⟩
    · omega
    · by_cases hr : ys.length + 1 ≤ cap
      · exact insL_room g cap ys.length lo h i cur x ys w rfl (by omega) hl hb hg hr hc2 hcs hct (fun e => hne (by rw [e]; rfl)) hh
      · exact insL_full g cap ys.length lo h i cur x ys w rfl (by omega) hl hlo hg hc1 (by omega) hct hh
end Go.Proofs.YtmfopbkhlekhkaaDoor
