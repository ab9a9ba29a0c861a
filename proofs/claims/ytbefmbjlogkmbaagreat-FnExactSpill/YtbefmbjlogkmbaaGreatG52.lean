/- The contract of slices.Insert at tables: one table ahead of all. The contract of the program's TreeOk of a tree. -/
import Derived.Shelf.Spec.SlicesInsert
import Derived.Lib.AppendZerosOnto
import Derived.Maps.AppendAt
import Derived.Lib.Overlaps
import Derived.Shelf.RegionOpenPlain
import Derived.Test.YtbefmbjlogkmbaaGreatTreUnp
namespace Go.Proofs.YtbefmbjlogkmbaaGreat
set_option maxHeartbeats 16000000
set_option maxRecDepth 100000
open Go.RowKit Go.Lib
theorem run_copy_tabs {w : World} {g off dLen b o sLen k : Nat} {xs cur : List Value} (hg : w.heap[g]? = some (.cells cur.toArray 72 (0, 0))) (hc : ∀ j v, xs[j]? = some v → w.cell? ((⟨b, o, none⟩ : Addr).add j) = some v) (hmin : Nat.min sLen dLen = k) (hxl : xs.length = k * 4) (h1 : ∀ u ∈ xs, u.oneCell' = true) (hfit : off + xs.length ≤ cur.length) :
    ∃ w', (∀ ty dCap sCap, (Builtin.copy_ #[31, 31] ty #[.slice (some ⟨g, off, none⟩) dLen dCap, .slice (some ⟨b, o, none⟩) sLen sCap]).run Tryz.prog w = .ok (goInt k) w') ∧ w'.heap[g]? = some (.cells (splice cur off xs).toArray 72 (0, 0)) ∧ w.grownBy w' (some g) := by
  obtain ⟨i0, hi, hz0, hz1, hz2⟩ := info_parts Tryz.infoT72
  have hl := run_loadCells_list (P := Tryz.prog) w ⟨b, o, none⟩ xs hc
  have hst := run_storeCells_at Tryz.prog g off 72 xs 0 cur.toArray w hg (by simpa using hfit) h1
  refine ⟨_, fun ty dCap sCap => ?_, setRow_heap w g cur.toArray _ _ _ hg, ⟨rfl, rfl, rfl, by simp [World.setRow], fun k _ hk => setRow_other w g k _ (fun e => hk (by simp [e]))⟩⟩
  rw [hxl] at hl
  simp [Builtin.copy_, run_underlying Tryz.underlying31, Builtin.lenOf, Builtin.firstCells, sizeOf, typeInfo, hi, hz1, hmin, hl, hst, splice]
theorem ins_shift {cur xs tc : List Value} {n : Nat} (hx : cur.take (n * 4) = xs) (hl : (n + 1) * 4 ≤ cur.length) (ht : tc.length = 4) : (splice (splice cur 4 xs) 0 tc).take ((n + 1) * 4) = tc ++ xs ∧ (splice (splice cur 4 xs) 0 tc).length = cur.length := by
  have hxl : xs.length = n * 4 := by rw [← hx, List.length_take]; omega
  have e : splice (splice cur 4 xs) 0 tc = tc ++ xs ++ cur.drop (4 + xs.length) := by
    unfold splice
    rw [ht, List.take_zero, List.nil_append, List.drop_append, List.drop_eq_nil_of_le (by rw [List.length_take]; omega), List.length_take, List.nil_append, show 0 + 4 - min 4 cur.length = 0 by omega, List.drop_zero, List.append_assoc]
  rw [e]
  constructor
  · rw [List.take_append_of_le_length (by rw [List.length_append]; omega), List.take_of_length_le (by rw [List.length_append]; omega)]
  · rw [List.length_append, List.length_append, List.length_drop]
    omega
theorem ins_grow {cur xs tc : List Value} {n : Nat} (hxl : xs.length = n * 4) (hl : (n + 1) * 4 ≤ cur.length) (ht : tc.length = 4) : (splice (splice cur 0 tc) 4 xs).take ((n + 1) * 4) = tc ++ xs ∧ (splice (splice cur 0 tc) 4 xs).length = cur.length := by
  have e0 : splice cur 0 tc = tc ++ cur.drop 4 := by
    unfold splice
    rw [ht, List.take_zero, List.nil_append]
  have e : splice (splice cur 0 tc) 4 xs = tc ++ xs ++ (tc ++ cur.drop 4).drop (4 + xs.length) := by
    rw [e0]
    unfold splice
    rw [List.take_append_of_le_length (by omega), List.take_of_length_le (by omega), List.append_assoc]
  rw [e]
  constructor
  · rw [List.take_append_of_le_length (by rw [List.length_append]; omega), List.take_of_length_le (by rw [List.length_append]; omega)]
  · rw [List.length_append, List.length_append, List.length_drop, List.length_append, List.length_drop]
    omega
def InsPost (w : World) (lo : Nat) (v : Value) (t : TV) (ys : List TV) (e : Ending) (w' : World) : Prop :=
  ∃ v', e = .returned v' ∧ OwnT w' lo v' (t :: ys) ∧ w.grownBy w' v.ownBlock ∧ (v'.ownBlock = v.ownBlock ∨ v'.ownBlock = some w.heap.size)
theorem TC_len (t : TV) : (TC t).length = 4 := rfl
theorem cells_at {w : World} {h : Nat} {xs : List Value} (hh : w.heap[h]? = some (.cells xs.toArray 72 (0, 0))) : ∀ j v, xs[j]? = some v → w.cell? ((⟨h, 0, none⟩ : Addr).add j) = some v := by
  intro j v hj
  rw [Addr.add_lit]
  simp [World.cell?, hh, hj]
theorem ins_none (v : Value) (lo h : Nat) (t : TV) (w : World) (hv : OwnT w lo v []) (hlo : lo ≤ w.heap.size) (hh : w.heap[h]? = some (.cells (TC t).toArray 72 (0, 0))) (h1t : ∀ u ∈ TC t, u.oneCell' = true) :
    Calls Tryz.prog 48 #[v, .int .i64 0, .slice (some ⟨h, 0, none⟩) 1 1] w fun e w' => InsPost w lo v t [] e w' := by
  obtain ⟨i0, hi, hz0, hz1, hz2⟩ := info_parts Tryz.infoT72
  have hca := cells_at hh
  obtain ⟨v', w', hrun, r1, r2, -, r3⟩ := run_append_own_at (P := Tryz.prog) w lo 31 31 72 i0 _ 4 80 Tryz.underlying31 hi hz0 hz1 hz2 rfl (by decide) v 0 [] hv ⟨h, 0, none⟩ 1 1 (TC t) rfl hca h1t (by unfold maxLen; omega) (by omega) hlo
  have END : Hid (InsPost w lo v t [] (.returned v') w') := ⟨v', rfl, by simpa [OwnT, TVs] using r1, r2, r3⟩
  have HR : Hid ((Builtin.append_ #[31, 31] 31 #[v, .slice (some ⟨h, 0, none⟩) 1 1]).run Tryz.prog w = .ok v' w') := hrun
  clear r1 r2 r3 hrun hca hh
  rcases hv.2 with ⟨rfl, -⟩ | ⟨g, cap, cur, rfl, -, -, -, hc2, -⟩
  · go_enter Tryz.func48, Tryz.ntmps48
    go_wp2_with (at_builtin; refine Lib.wpList_append_run _ rfl _ _ _ _ rfl _ _ rfl rfl _ _ HR.out ?_)
    go_ret
    exact END.out
  · unfold maxLen at hc2
    go_enter Tryz.func48, Tryz.ntmps48
    go_wp2_with (at_builtin; refine Lib.wpList_append_run _ rfl _ _ _ _ rfl _ _ rfl rfl _ _ HR.out ?_)
    all_goals go_ret
    all_goals exact END.out
theorem ins_room (g cap n lo h : Nat) (cur : Array Value) (t : TV) (ys : List TV) (w : World) (hn : n = ys.length) (hn0 : 0 < n) (hn6 : n ≤ 6) (hlg : lo ≤ g) (hg : w.heap[g]? = some (.cells cur 72 (0, 0))) (hroom : n + 1 ≤ cap) (hcm : cap ≤ maxLen) (hcs : cur.size = cap * 4) (hct : cur.toList.take (n * 4) = TVs ys) (hne : h ≠ g) (hh : w.heap[h]? = some (.cells (TC t).toArray 72 (0, 0))) (h1t : ∀ u ∈ TC t, u.oneCell' = true) (h1y : ∀ u ∈ TVs ys, u.oneCell' = true) :
    Calls Tryz.prog 48 #[.slice (some ⟨g, 0, none⟩) n cap, .int .i64 0, .slice (some ⟨h, 0, none⟩) 1 1] w fun e w' => InsPost w lo (.slice (some ⟨g, 0, none⟩) n cap) t ys e w' := by
  obtain ⟨i0, hi, hz0, hz1, hz2⟩ := info_parts Tryz.infoT72
  have hg' : w.heap[g]? = some (.cells cur.toList.toArray 72 (0, 0)) := hg
  have hyl : (TVs ys).length = n * 4 := by rw [TVs_length, hn]
  have hcl : cur.toList.length = cap * 4 := by simpa using hcs
  have hsz : ∀ w, (Go.sizeOf 72).run Tryz.prog w = .ok 4 w := fun w => by simp [Go.sizeOf, typeInfo, hi, hz1]
  have hov : ∀ lb cb, (callFunc 77 #[.slice (some ⟨h, 0, none⟩) 1 1, .slice (some ⟨g, 4, none⟩) lb cb]).run Tryz.prog w = .ok (.value (.bool false)) w := fun lb cb => by
    rw [run_callFunc_extern Tryz.func77 (by kernel_rfl) (by kernel_rfl) (by kernel_rfl) (e := Extern.SlicesOverlaps.overlaps #[31, 31] #[4]) (by kernel_rfl),
      Lib.run_overlaps_apart w 31 4 72 Tryz.underlying31 4 hsz ⟨h, 0, none⟩ ⟨g, 4, none⟩ 1 1 lb cb hne 72 72 4 (cap * 4) (by simp [World.shape?, hh, TC]) (by simp [World.shape?, hg, hcs]) (by omega) (by simp [World.frozen?, hh]) (by simp [World.frozen?, hh])]
    rfl
  obtain ⟨W1, hr1, hg1, hgr1⟩ := run_copy_tabs (w := w.drew) (g := g) (off := 4) (dLen := n) (b := g) (o := 0) (sLen := n + 1) (k := n) (xs := TVs ys) (cur := cur.toList) hg' (fun j v hj => by
      have hj2 := hj
      rw [← hct, List.getElem?_take] at hj2
      split at hj2
      · exact cells_at (w := w) hg' j v hj2
      · cases hj2) (by simp only [Nat.min_def]; split <;> omega) hyl h1y (by omega)
  have hh1 : W1.heap[h]? = some (.cells (TC t).toArray 72 (0, 0)) := (hgr1.block h (Array.getElem?_eq_some_iff.1 hh).1 (fun e => hne (Option.some.inj e))).trans hh
  obtain ⟨W2, hr2, hg2, hgr2⟩ := run_copy_tabs (w := W1) (g := g) (off := 0) (dLen := n + 1) (b := h) (o := 0) (sLen := 1) (k := 1) (xs := TC t) hg1 (cells_at hh1) (by simp only [Nat.min_def]; split <;> omega) rfl h1t (by simp only [splice, List.length_append, List.length_take, List.length_drop, TC_len]; omega)
  obtain ⟨l1, l2⟩ := ins_shift (tc := TC t) hct (show (n + 1) * 4 ≤ cur.toList.length by omega) rfl
  have END : Hid (InsPost w lo (.slice (some ⟨g, 0, none⟩) n cap) t ys (.returned (.slice (some ⟨g, 0, none⟩) (n + 1) cap)) W2) := by
    refine ⟨_, rfl, ⟨by rw [TVs_length], .inr ⟨g, cap, _, by rw [List.length_cons, hn], hlg, hg2, by rw [List.length_cons, ← hn]; exact hroom, hcm, by simp only [List.size_toArray]; rw [l2, hcl], ?_⟩⟩, ?_, .inl rfl⟩
    · rw [List.length_cons, ← hn, TVs_cons]
      exact l1
    · exact (⟨rfl, rfl, rfl, Nat.le_refl _, fun _ _ _ => rfl⟩ : w.grownBy w.drew (some g)).trans (hgr1.trans hgr2)
  have HR1 : Hid (∀ ty dCap sCap, (Builtin.copy_ #[31, 31] ty #[.slice (some ⟨g, 4, none⟩) n dCap, .slice (some ⟨g, 0, none⟩) (n + 1) sCap]).run Tryz.prog w.drew = .ok (goInt n) W1) := hr1
  have HR2 : Hid (∀ ty dCap sCap, (Builtin.copy_ #[31, 31] ty #[.slice (some ⟨g, 0, none⟩) (n + 1) dCap, .slice (some ⟨h, 0, none⟩) 1 sCap]).run Tryz.prog W1 = .ok (goInt 1) W2) := hr2
  unfold maxLen at hcm
  have hz2 : ¬ ((0 : Int) = (n : Int)) := by omega
  have hz2b : (0 == (n : Int)) = false := by simp; omega
  have hc1 : ¬ cap = 1 := by omega
  have hc0 : ¬ cap = 0 := by omega
  have hr0 : ¬ (cap : Int) < (n : Int) + 1 := by omega
  have h1n : (1 : Int) ≤ (n : Int) + 1 := by omega
  have hw1 : IntKind.i64.wrap (1 : Int) = 1 := by decide
  have h0n : (0 : Int) ≤ (n : Int) + 1 := by omega
  have mixed : Tryz.prog.follows Departure.mixedOrders = true := by kernel_rfl
  clear hr1 hr2 hg1 hg2 hgr1 hgr2 hh1 l1 l2 h1t h1y hct hg' hg hh hyl hcl hcs hsz hn
  go_enter Tryz.func48, Tryz.ntmps48
  go_wp2_with (simp only [hov])
  go_region_law_o (refine step_copy_runI rfl _ _ 31 31 rfl (.slice (some ⟨g, 4, none⟩) n (cap - 1)) (.slice (some ⟨g, 0, none⟩) (n + 1) cap) (by simp [Act.eval, Act.put]) (by simp [Act.eval, Act.put]) (HR1.out _ _ _) ?_)
  go_wp2_with (simp only [HR2.out])
  go_ret
  exact END.out
theorem zeros_len (z : Value) (k m : Nat) (hz : z.cells.size = m) : (Builtin.zeroCells z.cells k).size = k * m := by
  unfold Builtin.zeroCells
  simp [hz]
theorem ins_full (g cap n lo h : Nat) (cur : Array Value) (t : TV) (ys : List TV) (w : World) (hn : n = ys.length) (hn0 : 0 < n) (hn6 : n ≤ 6) (hlo : lo ≤ w.heap.size) (hg : w.heap[g]? = some (.cells cur 72 (0, 0))) (hnc : n ≤ cap) (hroom : cap < n + 1) (hct : cur.toList.take (n * 4) = TVs ys) (hh : w.heap[h]? = some (.cells (TC t).toArray 72 (0, 0))) (h1t : ∀ u ∈ TC t, u.oneCell' = true) (h1y : ∀ u ∈ TVs ys, u.oneCell' = true) :
    Calls Tryz.prog 48 #[.slice (some ⟨g, 0, none⟩) n cap, .int .i64 0, .slice (some ⟨h, 0, none⟩) 1 1] w fun e w' => InsPost w lo (.slice (some ⟨g, 0, none⟩) n cap) t ys e w' := by
  obtain ⟨i0, hi, hz0, hz1, hz2⟩ := info_parts Tryz.infoT72
  have hg' : w.heap[g]? = some (.cells cur.toList.toArray 72 (0, 0)) := hg
  have hyl : (TVs ys).length = n * 4 := by rw [TVs_length, hn]
  have hgl : g < w.heap.size := (Array.getElem?_eq_some_iff.1 hg).1
  have hhl : h < w.heap.size := (Array.getElem?_eq_some_iff.1 hh).1
  obtain ⟨z, hz⟩ : ∃ z : Value, i0.zero = some z ∧ z.cells.size = 4 := ⟨_, hz0, rfl⟩
  have hold : (Builtin.firstCells i0.size 0 (.slice (some ⟨g, 0, none⟩) 0 cap)).run Tryz.prog w.drew = .ok ([] : List Value).toArray w.drew := run_firstCells_some w.drew i0.size 0 ⟨g, 0, none⟩ 0 cap [] (by simp) (fun j v hj => by simp at hj)
  have hrz := fun ty => Lib.run_append_grow_zeros (P := Tryz.prog) w 31 3 ty 72 i0 z .i64 .i64 Tryz.underlying31 Tryz.underlying3 hi hz.1 (some ⟨g, 0, none⟩) 0 cap [] hold (n + 1) (by omega) (by rw [hz1]; omega) (by omega) (by omega) (by rw [hz2]; omega) (by rw [hz2]; exact growslice_fits (by omega) (by omega))
  rw [Nat.zero_add] at hrz
  have hGn : n + 1 ≤ grownCap w (n + 1) cap 72 := grownCap_ge w _ _ _
  have hGm : grownCap w (n + 1) cap 72 ≤ maxLen := grownCap_le_maxLen w (n + 1) cap 72 (by unfold maxLen; omega)
  obtain ⟨G, hG⟩ : ∃ G, G = grownCap w (n + 1) cap 72 := ⟨_, rfl⟩
  rw [← hG] at hrz hGn hGm
  obtain ⟨ROW, hROW⟩ : ∃ ROW : List Value, ROW = (([] : List Value).toArray ++ Builtin.zeroCells z.cells (n + 1) ++ Builtin.zeroCells z.cells (G - (n + 1))).toList := ⟨_, rfl⟩
  have hRl : ROW.length = G * 4 := by
    rw [hROW, Array.length_toList, Array.size_append, Array.size_append, zeros_len z _ 4 hz.2, zeros_len z _ 4 hz.2]
    simp
    omega
  rw [show ([] : List Value).toArray ++ Builtin.zeroCells z.cells (n + 1) ++ Builtin.zeroCells z.cells (G - (n + 1)) = ROW.toArray by rw [hROW]] at hrz
  obtain ⟨W1, hW1⟩ : ∃ W1, W1 = w.drew.alloc (.cells ROW.toArray 72) := ⟨_, rfl⟩
  rw [← hW1] at hrz
  have hN1 : W1.heap[w.heap.size]? = some (.cells ROW.toArray 72 (0, 0)) := by rw [hW1]; exact heap_alloc_new w.drew _
  have hb1 : Below w.heap.size w W1 := by rw [hW1]; exact ((Below.refl _ w).drew).alloc (Nat.le_refl _) _
  have hh1 : W1.heap[h]? = some (.cells (TC t).toArray 72 (0, 0)) := (hb1.block h hhl).trans hh
  obtain ⟨W2, hr2, hN2, hgr2⟩ := run_copy_tabs (w := W1) (g := w.heap.size) (off := 0) (dLen := n + 1) (b := h) (o := 0) (sLen := 1) (k := 1) (xs := TC t) hN1 (cells_at hh1) (by simp only [Nat.min_def]; split <;> omega) rfl h1t (by rw [TC_len]; omega)
  have hg2 : W2.drew.heap[g]? = some (.cells cur.toList.toArray 72 (0, 0)) := (hgr2.block g (Nat.lt_of_lt_of_le hgl hb1.size) (fun e => by have := Option.some.inj e; omega)).trans ((hb1.block g hgl).trans hg')
  obtain ⟨W3, hr3, hN3, hgr3⟩ := run_copy_tabs (w := W2.drew) (g := w.heap.size) (off := 4) (dLen := n) (b := g) (o := 0) (sLen := n) (k := n) (xs := TVs ys) (cur := splice ROW 0 (TC t)) hN2 (fun j v hj => by
      have hj2 := hj
      rw [← hct, List.getElem?_take] at hj2
      split at hj2
      · exact cells_at hg2 j v hj2
      · cases hj2) (by simp) hyl h1y (by simp only [splice, List.length_append, List.length_take, List.length_drop, TC_len]; omega)
  obtain ⟨l1, l2⟩ := ins_grow (cur := ROW) (tc := TC t) hyl (show (n + 1) * 4 ≤ ROW.length by omega) rfl
  have END : Hid (InsPost w lo (.slice (some ⟨g, 0, none⟩) n cap) t ys (.returned (.slice (some ⟨w.heap.size, 0, none⟩) (n + 1) G)) W3) := by
    refine ⟨_, rfl, ⟨by rw [TVs_length], .inr ⟨w.heap.size, G, _, by rw [List.length_cons, hn], hlo, hN3, by rw [List.length_cons, ← hn]; exact hGn, hGm, by simp only [List.size_toArray]; rw [l2, hRl], ?_⟩⟩, ?_, .inr rfl⟩
    · rw [List.length_cons, ← hn, TVs_cons]
      exact l1
    · have g1 := hb1.size
      have g2 := hgr2.size
      exact ⟨hgr3.os.trans (hgr2.os.trans hb1.os), hgr3.tape.trans (hgr2.tape.trans hb1.tape), hgr3.output.trans (hgr2.output.trans hb1.output), Nat.le_trans g1 (Nat.le_trans g2 hgr3.size), fun k hk _ => (hgr3.block k (Nat.lt_of_lt_of_le hk (Nat.le_trans g1 g2)) (fun e => by have := Option.some.inj e; omega)).trans ((hgr2.block k (Nat.lt_of_lt_of_le hk g1) (fun e => by have := Option.some.inj e; omega)).trans (hb1.block k hk))⟩
  have HR1 : Hid (∀ ty, (Builtin.append_ #[31, 3] ty #[.slice (some ⟨g, 0, none⟩) 0 cap, .int .i64 ((n : Int) + 1)]).run Tryz.prog w = .ok (.slice (some ⟨w.heap.size, 0, none⟩) (n + 1) G) W1) := fun ty => by rw [show (n : Int) + 1 = ((n + 1 : Nat) : Int) by omega]; exact hrz ty
  have HR2 : Hid (∀ ty dCap sCap, (Builtin.copy_ #[31, 31] ty #[.slice (some ⟨w.heap.size, 0, none⟩) (n + 1) dCap, .slice (some ⟨h, 0, none⟩) 1 sCap]).run Tryz.prog W1 = .ok (goInt 1) W2) := hr2
  have HR3 : Hid (∀ ty dCap sCap, (Builtin.copy_ #[31, 31] ty #[.slice (some ⟨w.heap.size, 4, none⟩) n dCap, .slice (some ⟨g, 0, none⟩) n sCap]).run Tryz.prog W2.drew = .ok (goInt n) W3) := hr3
  unfold maxLen at hGm
  have hz2b : (0 == (n : Int)) = false := by simp; omega
  have hz2c : ¬ ((0 : Int) = (n : Int)) := by omega
  have hc0 : ¬ cap = 0 := by omega
  have hG0 : ¬ G = 0 := by omega
  have hG1 : ¬ G = 1 := by omega
  have hr0 : (cap : Int) < (n : Int) + 1 := by omega
  have h1n : (1 : Int) ≤ (n : Int) + 1 := by omega
  have hw1 : IntKind.i64.wrap (1 : Int) = 1 := by decide
  have h0n : (0 : Int) ≤ (n : Int) + 1 := by omega
  have mixed : Tryz.prog.follows Departure.mixedOrders = true := by kernel_rfl
  clear hr2 hr3 hrz hN1 hN2 hN3 hgr2 hgr3 hb1 hh1 hg2 l1 l2 h1t h1y hct hg' hg hh hyl hz hold hG hROW hRl hW1 hGn hn
  go_enter Tryz.func48, Tryz.ntmps48
  go_wp2_with (first
    | (at_builtin; refine Lib.wpList_append_run _ rfl _ _ _ _ rfl _ _ rfl rfl _ _ (HR1.out _) ?_)
    | (simp only [HR2.out]))
  go_region_law_o (refine step_copy_runI rfl _ _ 31 31 rfl (.slice (some ⟨w.heap.size, 4, none⟩) n (G - 1)) (.slice (some ⟨g, 0, none⟩) n cap) (by simp [Act.eval, Act.put]) (by simp [Act.eval, Act.put]) (HR3.out _ _ _) ?_)
  go_wp2
  go_ret
  exact END.out
theorem insT_any (v : Value) (lo h : Nat) (t : TV) (ys : List TV) (w : World) (hv : OwnT w lo v ys) (hl : ys.length ≤ 6) (hlo : lo ≤ w.heap.size) (hh : w.heap[h]? = some (.cells (TC t).toArray 72 (0, 0))) (hne : v.ownBlock ≠ some h) (h1t : ∀ u ∈ TC t, u.oneCell' = true) (h1y : ∀ u ∈ TVs ys, u.oneCell' = true) :
    Calls Tryz.prog 48 #[v, .int .i64 0, .slice (some ⟨h, 0, none⟩) 1 1] w fun e w' => InsPost w lo v t ys e w' := by
  by_cases h0 : ys.length = 0
  · obtain rfl := List.eq_nil_of_length_eq_zero h0
    exact ins_none v lo h t w hv hlo hh h1t
  · rcases hv.2 with ⟨-, h1⟩ | ⟨g, cap, cur, rfl, hb, hg, hc1, hc2, hcs, hct⟩
    · exact absurd h1 h0
    · by_cases hr : ys.length + 1 ≤ cap
      · exact ins_room g cap ys.length lo h cur t ys w rfl (by omega) hl hb hg hr hc2 hcs hct (fun e => hne (by rw [e]; rfl)) hh h1t h1y
      · exact ins_full g cap ys.length lo h cur t ys w rfl (by omega) hl hlo hg hc1 (by omega) hct hh h1t h1y
open Go.RowKit
theorem implTreeOk_any (X : TrX) (w : World) (hx : RdTr w X) (hf : FitTr X) :
    Calls Tryz.prog 32 #[.agg #[X.vm, X.vy, X.vo, .int .i64 X.seq, X.vs]] w fun e w' => e = .returned (.bool (treeOk X.tre)) ∧ Below w.heap.size w w' := by
  have ht0 := treAt_new w X 33
  have b0 := below1 w (.cells #[X.vm, X.vy, X.vo, .int .i64 X.seq, X.vs] 33)
  have HU : Hid (Calls _ _ _ _ _) := unpackedTree_any X _ (hx.below b0) hf
  unfold UnpTPost at HU
  generalize treeOk X.tre = ok at HU ⊢
  obtain ⟨q0, q1, q2, q3, q4⟩ := id ht0
  go_enter Tryz.func32, Tryz.ntmps32
  go_wp2_with fail
  refine HU.out.mono ?_
  rintro e w1 ⟨u, ps, rfl, -, -, hb1⟩
  have b1 := b0.trans (hb1.mono b0.size)
  clear HU ht0 q0 q1 q2 q3 q4 hb1
  go_wp2
  go_ret
  exact ⟨rfl, b1⟩
end Go.Proofs.YtbefmbjlogkmbaaGreat
