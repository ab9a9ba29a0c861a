/- The contract of slices.Delete of one Leaf, and of the program's copy of Leafs. -/
-- UNF Gen
import Derived.Test.YtmfopbkhlekhkaaDoorLefMath
import Derived.Lib.SliceRun
namespace Go.Proofs.YtmfopbkhlekhkaaDoor
open Go.RowKit
/-- Cells of a row are written one behind the other. -/
def setC (xs : List Value) : Nat → List Value → List Value
  | _, [] => xs
  | o, v :: r => setC (xs.set o v) (o + 1) r
theorem setC_eq : ∀ (vs : List Value) (o : Nat) (xs : List Value), o + vs.length ≤ xs.length → setC xs o vs = xs.take o ++ vs ++ xs.drop (o + vs.length)
  | [], o, xs, _ => by simp [setC]
  | v :: r, o, xs, h => by
    have h' : o + (r.length + 1) ≤ xs.length := by simpa using h
    have ho : o < xs.length := by omega
    unfold setC
    rw [setC_eq r (o + 1) (xs.set o v) (by rw [List.length_set]; omega)]
    have e1 : (xs.set o v).take (o + 1) = xs.take o ++ [v] := by
      rw [List.take_succ_eq_append_getElem (by rw [List.length_set]; exact ho), List.take_set_of_le (Nat.le_refl _)]
      simp
    have e2 : (xs.set o v).drop (o + 1 + r.length) = xs.drop (o + (r.length + 1)) := by
      rw [List.drop_set_of_lt (by omega), show o + 1 + r.length = o + (r.length + 1) by omega]
    rw [e1, e2]
    simp
theorem rowC_set {B e s g n cap : Nat} : ∀ (vs : List Value) (o : Nat) (w : World) (xs : List Value), w.ownsRow B e s (.slice (some ⟨g, 0, none⟩) n cap) n xs → (w.setCells g o vs).ownsRow B e s (.slice (some ⟨g, 0, none⟩) n cap) n (setC xs o vs) ∧ w.grownBy (w.setCells g o vs) (some g)
  | [], _, w, _, h => ⟨h, ⟨rfl, rfl, rfl, Nat.le_refl _, fun _ _ _ => rfl⟩⟩
  | v :: r, o, w, xs, h => by
    have h1 := h.stored o v
    have h2 := rowC_set r (o + 1) _ _ h1.1
    refine ⟨h2.1, ?_⟩
    obtain ⟨a1, a2, a3, a4, a5⟩ := h1.2
    obtain ⟨b1, b2, b3, b4, b5⟩ := h2.2
    exact ⟨b1.trans a1, b2.trans a2, b3.trans a3, Nat.le_trans a4 b4, fun k hk hn => (b5 k (Nat.lt_of_lt_of_le hk a4) hn).trans (a5 k hk hn)⟩
theorem rowC_wide {w : World} {B e s g n cap : Nat} {xs : List Value} (h : w.ownsRow B e s (.slice (some ⟨g, 0, none⟩) n cap) n xs) : ∃ ys, w.ownsRow B e s (.slice (some ⟨g, 0, none⟩) cap cap) cap ys ∧ ys.take (n * s) = xs ∧ ys.length = cap * s := by
  rcases h.2 with ⟨h', _⟩ | ⟨g', cap', cur, h', hb, hg, hnc, hcm, hcs, htake⟩
  · simp at h'
  · simp only [Value.slice.injEq, Option.some.injEq, Addr.mk.injEq, and_true, true_and] at h'
    obtain ⟨rfl, rfl⟩ := h'
    have hl : cur.toList.length = cap * s := by rw [Array.length_toList, hcs]
    refine ⟨cur.toList, ⟨hl, .inr ⟨g, cap, cur, rfl, hb, hg, Nat.le_refl _, hcm, hcs, ?_⟩⟩, htake, hl⟩
    rw [List.take_of_length_le (by rw [hl]; exact Nat.le_refl _)]
theorem rowC_cut {w : World} {B e s g N m cap : Nat} {xs : List Value} (h : w.ownsRow B e s (.slice (some ⟨g, 0, none⟩) N cap) N xs) (hm : m ≤ N) : w.ownsRow B e s (.slice (some ⟨g, 0, none⟩) m cap) m (xs.take (m * s)) := by
  rcases h.2 with ⟨h', _⟩ | ⟨g', cap', cur, h', hb, hg, hnc, hcm, hcs, htake⟩
  · simp at h'
  · simp only [Value.slice.injEq, Option.some.injEq, Addr.mk.injEq, and_true, true_and] at h'
    obtain ⟨rfl, rfl⟩ := h'
    have hl := h.1
    have hms : m * s ≤ N * s := Nat.mul_le_mul_right _ hm
    refine ⟨by rw [List.length_take, hl]; omega, .inr ⟨g, cap, cur, rfl, hb, hg, by omega, hcm, hcs, ?_⟩⟩
    rw [← htake, List.take_take]
    congr 1
    omega
theorem LV_take (bs : List Lef) (i : Nat) : (LV bs).take (i * 2) = LV (bs.take i) := by
  induction bs generalizing i with
  | nil => simp [LV]
  | cons a r ih =>
    cases i with
    | zero => simp [LV]
    | succ i =>
      rw [LV_cons, List.take_succ_cons, LV_cons, show (i + 1) * 2 = (LC a).length + i * 2 by simp [LC]; omega, List.take_length_add_append, ih]
theorem delL_list {bs : List Lef} {i : Nat} (hi : i < bs.length) {ys : List Value} {cap : Nat} (hl : ys.length = cap * 2) (hn : bs.length ≤ cap) (ht : ys.take (bs.length * 2) = LV bs) (zs : List Value) (hz : zs.length = 2) :
    ((setC (setC ys (i * 2) (LV (bs.drop (i + 1)))) ((bs.length - 1) * 2) zs)).take ((bs.length - 1) * 2) = LV (bs.eraseIdx i) := by
  have hd : (LV (bs.drop (i + 1))).length = (bs.length - (i + 1)) * 2 := by rw [LV_length, List.length_drop]
  have e1 : setC ys (i * 2) (LV (bs.drop (i + 1))) = ys.take (i * 2) ++ LV (bs.drop (i + 1)) ++ ys.drop (i * 2 + (LV (bs.drop (i + 1))).length) := setC_eq _ _ _ (by rw [hd, hl]; omega)
  have e2 : ys.take (i * 2) = LV (bs.take i) := by
    have : (ys.take (bs.length * 2)).take (i * 2) = ys.take (i * 2) := by rw [List.take_take]; congr 1; omega
    rw [← this, ht, LV_take]
  have hti : (ys.take (i * 2)).length = i * 2 := by rw [List.length_take, hl]; omega
  have hl2 : (setC ys (i * 2) (LV (bs.drop (i + 1)))).length = cap * 2 := by
    rw [e1, List.length_append, List.length_append, hti, hd, List.length_drop, hl]; omega
  rw [setC_eq _ _ _ (by rw [hl2, hz]; omega), List.take_append_of_le_length (by rw [List.length_append, List.length_take, hl2]; omega), List.take_append_of_le_length (by rw [List.length_take, hl2]; omega), List.take_take, Nat.min_self, e1,
    List.take_append_of_le_length (by rw [List.length_append, hti, hd]; omega), List.take_of_length_le (by rw [List.length_append, hti, hd]; omega), e2, ← LV_append, List.eraseIdx_eq_take_drop_succ]
/-- What slices.Delete leaves: one Leaf less in the same row. -/
def DelLPost (w : World) (B : Nat) (v : Value) (bs : List Lef) (i : Nat) (e : Ending) (w' : World) : Prop :=
  ∃ u, e = .returned u ∧ OwnL w' B u (bs.eraseIdx i) ∧ u.ownBlock = v.ownBlock ∧ w.grownBy w' v.ownBlock
theorem run_clear_lef (w : World) (ty : TypeId) (b o c : Nat) (hc : ∀ j, j < 2 → (w.cell? ⟨b, o + j, none⟩).isSome = true) (hf : ∀ j, j < 2 → w.frozen? ⟨b, o + j, none⟩ = false) :
    (Builtin.clear_ #[24] ty #[.slice (some ⟨b, o, none⟩) 1 c]).run Tryd.prog w = .ok (.tuple #[]) (w.setCells b o [.int .i64 0, .int .i64 0]) := by
  have hzc : (Builtin.zeroCells (Value.agg #[.int .i64 0, .int .i64 0]).cells 1).toList = [.int .i64 0, .int .i64 0] := by kernel_rfl
  have hst := run_storeCells_cells (P := Tryd.prog) b o [.int .i64 0, .int .i64 0] 0 w (by simpa using hc) (by simpa using hf) (by intro v hv'; simp at hv'; subst hv'; rfl)
  simp only [Nat.add_zero] at hst
  simp [Builtin.clear_, run_underlying Tryd.underlying24, hzc, hst]
set_option maxHeartbeats 2000000 in
set_option maxRecDepth 100000 in
theorem delL_any (v : Value) (bs : List Lef) (B i : Nat) (w : World) (ho : OwnL w B v bs) (hi : i < bs.length) :
    Calls Tryd.prog 41 #[v, .int .i64 (i : Int), .int .i64 ((i : Int) + 1)] w fun e w' => DelLPost w B v bs i e w' := by
  obtain ⟨i0, hi0, hz0, hz1, hz2⟩ := info_parts Tryd.infoL42
  rcases ho.2 with ⟨_, h0⟩ | ⟨g, cap, cur, hv, _, _, hnc, hcm, _, _⟩
  · omega
  subst hv
  unfold maxLen at hcm
  have hgl : g < w.heap.size := (World.ownsRow.lt ho g rfl).2
  obtain ⟨ys, hw0, hyt, hyl⟩ := rowC_wide ho
  obtain ⟨n, hn⟩ : ∃ n, n = bs.length := ⟨_, rfl⟩
  have HN : Hid (n = bs.length) := hn
  rw [← hn] at hnc hi ho hyt ⊢
  obtain ⟨news, hnews⟩ : ∃ news, news = LV (bs.drop (i + 1)) := ⟨_, rfl⟩
  have hlen : news.length = (n - (i + 1)) * 2 := by rw [hnews, LV_length, List.length_drop, hn]
  have cells : ∀ j, j < cap * 2 → w.cell? ⟨g, j, none⟩ = ys[j]? := fun j hj => World.ownsRow.cellAt hw0 j (by omega)
  have frz : ∀ j, w.frozen? ⟨g, j, none⟩ = false := fun j => hw0.frozenAt j
  obtain ⟨A, hA, HSRC⟩ : ∃ A : Addr, (if cap = i + 1 then some (⟨g, 0, none⟩ : Addr) else some ⟨g, (i + 1) * 2, none⟩) = some A ∧ Hid (∀ t u, news[t]? = some u → w.drew.cell? (A.add t) = some u) := by
    by_cases h : cap = i + 1
    · refine ⟨⟨g, 0, none⟩, by simp [h], fun t u hu => ?_⟩
      have h0 : news.length = 0 := by rw [hlen]; omega
      rw [List.length_eq_zero_iff.1 h0] at hu
      simp at hu
    · refine ⟨⟨g, (i + 1) * 2, none⟩, by simp [h], fun t u hu => ?_⟩
      have ht : t < (n - (i + 1)) * 2 := by
        have := (List.getElem?_eq_some_iff.1 hu).1
        rwa [hlen] at this
      rw [Addr.add_lit]
      show w.cell? _ = _
      rw [cells _ (by omega), ← hu, hnews]
      have e : (LV bs)[(i + 1) * 2 + t]? = (LV (bs.drop (i + 1)))[t]? := by
        have h3 : LV bs = LV (bs.take (i + 1)) ++ LV (bs.drop (i + 1)) := by rw [← LV_append, List.take_append_drop]
        rw [h3, List.getElem?_append_right (by rw [LV_length, List.length_take]; omega), LV_length, List.length_take]
        congr 1
        omega
      rw [← e, ← hyt, List.getElem?_take_of_lt (by omega)]
  have S1 : Hid (news.length = (n - (i + 1)) * 2) := hlen
  have S2 : Hid (∀ u ∈ news, u.oneCell' = true) := by unfold Hid; rw [hnews]; exact LV_oneCell _
  have S3 : Hid (∀ t, t < news.length → (w.drew.cell? ⟨g, 0 + i * 2 + t, none⟩).isSome = true ∧ w.drew.frozen? ⟨g, 0 + i * 2 + t, none⟩ = false) := by
    intro t ht
    rw [hlen] at ht
    refine ⟨?_, frz _⟩
    show (w.cell? _).isSome = true
    rw [cells _ (by omega), List.getElem?_eq_getElem (by omega)]
    rfl
  obtain ⟨r1, r2⟩ := rowC_set news (0 + i * 2) w.drew ys (by exact hw0)
  obtain ⟨W1, hW1⟩ : ∃ W1, W1 = w.drew.setCells g (0 + i * 2) news := ⟨_, rfl⟩
  rw [← hW1] at r1 r2
  have HW1 : Hid (w.drew.setCells g (0 + i * 2) news = W1) := hW1.symm
  obtain ⟨q1, q2⟩ := rowC_set [.int .i64 0, .int .i64 0] ((n - 1) * 2) W1 _ r1
  have HGL1 : Hid (g < W1.heap.size) := (World.ownsRow.lt r1 g rfl).2
  have hpl : (setC ys (0 + i * 2) news).length = cap * 2 := r1.1
  have HEND : Hid (DelLPost w B (.slice (some ⟨g, 0, none⟩) n cap) bs i (.returned (.slice (some ⟨g, 0, none⟩) (n - 1) cap)) (W1.setCells g ((n - 1) * 2) [.int .i64 0, .int .i64 0])) := by
    refine ⟨_, rfl, ?_, rfl, ?_⟩
    · have c := rowC_cut q1 (m := n - 1) (by omega)
      have el : (bs.eraseIdx i).length = n - 1 := by rw [List.length_eraseIdx_of_lt (by omega), hn]
      unfold OwnL
      rw [el]
      have := delL_list (bs := bs) (i := i) (by omega) hyl (by omega) (by rw [← hn]; exact hyt) [.int .i64 0, .int .i64 0] rfl
      rw [← hn, ← hnews] at this
      rw [show 0 + i * 2 = i * 2 by omega] at c
      rw [this] at c
      exact c
    · obtain ⟨a1, a2, a3, a4, a5⟩ := r2
      obtain ⟨b1, b2, b3, b4, b5⟩ := q2
      exact ⟨b1.trans a1, b2.trans a2, b3.trans a3, Nat.le_trans a4 b4, fun k hk hne => (b5 k (Nat.lt_of_lt_of_le hk a4) hne).trans (a5 k hk hne)⟩
  have hcl : ∀ ty, (Builtin.clear_ #[24] ty #[.slice (some ⟨g, (n - 1) * 2, none⟩) 1 (cap - (n - 1))]).run Tryd.prog W1 = .ok (.tuple #[]) (W1.setCells g ((n - 1) * 2) [.int .i64 0, .int .i64 0]) := fun ty =>
    run_clear_lef W1 ty g ((n - 1) * 2) (cap - (n - 1)) (fun t ht => by
      rw [World.ownsRow.cellAt r1 _ (by omega), List.getElem?_eq_getElem (by omega)]
      rfl) (fun t _ => r1.frozenAt _)
  clear r1 r2 q1 q2 hpl hw0 hyt hyl cells frz hnews hlen hW1
  have hic : i ≤ cap := by omega
  have hjc : i + 1 ≤ cap := by omega
  have hin : i + 1 ≤ n := by omega
  have hsum : i + (n - (i + 1)) = n - 1 := by omega
  have hone : n - (n - 1) = 1 := by omega
  have hn1 : n - 1 ≤ n := by omega
  have hn2 : cap ≠ n - 1 := by omega
  have hz1' : (0 : Int) ≤ (i : Int) + 1 := by omega
  have hz2' : (i : Int) + 1 ≤ (n : Int) := by omega
  clear hn ho
  go_enter Tryd.func41, Tryd.ntmps41
  go_wp2_with fail
  refine wp_region_noPanic ?_
  refine wp_region_held_drew (S := fun w' => g < w'.heap.size) (by kernel_rfl) hgl (fun hH => ?_)
  refine tkG 0 20 hH ?_
  try simp only [Act.put, List.setIfInBounds_toArray, List.set_cons_zero, List.set_cons_succ]
  refine tkG 1 21 hH ?_
  try simp only [Act.put, List.setIfInBounds_toArray, List.set_cons_zero, List.set_cons_succ]
  refine tkG 2 22 hH ?_
  try simp only [Act.put, List.setIfInBounds_toArray, List.set_cons_zero, List.set_cons_succ]
  refine tkG 3 23 hH ?_
  try simp only [Act.put, List.setIfInBounds_toArray, List.set_cons_zero, List.set_cons_succ]
  refine tkG 4 24 hH ?_
  try simp only [Act.put, List.setIfInBounds_toArray, List.set_cons_zero, List.set_cons_succ]
  refine tkG 5 25 hH ?_
  try simp only [Act.put, List.setIfInBounds_toArray, List.set_cons_zero, List.set_cons_succ]
  refine wpAnyH_ready (rs := [6]) (by kernel_rfl) (by simp) ?_
  refine AllReadyH.cons rfl (fun K hK => ?_) AllReadyH.nil
  refine step_append_room rfl (.tmp 22) (.tmp 25) 24 rfl 42 i0 2 Tryd.underlying24 hi0 hz1 g 0 i cap (by simp [Act.eval]) A (n - (i + 1)) (cap - (i + 1)) news (by simp [Act.eval]; try exact hA) S1.out HSRC.out S2.out (by omega) S3.out ?_
  rw [HW1.out, hsum]
  refine hK.out _ _ HGL1.out (fun h2 => ?_)
  clear hK K hH
  simp only [Act.put, List.setIfInBounds_toArray]
  refine tkG 7 0 h2 ?_
  simp only [Act.put]
  refine wpAnyH_done (by kernel_rfl) ?_ _
  refine NoPanic.normal ?_
  go_wp2
  go_ret
  exact HEND.out
set_option maxHeartbeats 1000000 in
set_option maxRecDepth 100000 in
theorem copiedLefs_any (v : Value) (bs : List Lef) (w : World) (hr : RdL w v bs) (hl : bs.length ≤ 1000000000) :
    Calls Tryd.prog 39 #[v] w fun e w' => ∃ u, e = .returned u ∧ OwnL w' w.heap.size u bs ∧ Below w.heap.size w w' := by
  have hoi := ownL_none w
  have b0 := below1 w (.cells #[] 42)
  have hr0 := hr.below b0
  go_enter Tryd.func39, Tryd.ntmps39
  go_wp2_with (at_builtin; (refine wpList_append_lefs rfl _ _ rfl w.heap.size _ _ [] bs rfl rfl hoi hr0 (by simp; omega) (by simp) ?_))
  intro u w1 ho hg
  have b1 : Below w.heap.size w w1 := b0.grown hg (by simp) (fun k hk => by have : w.heap.size = k := Option.some.inj hk; omega)
  clear hoi b0 hr0 hg
  go_wp2
  go_ret
  exact ⟨u, rfl, ho, b1⟩
end Go.Proofs.YtmfopbkhlekhkaaDoor
