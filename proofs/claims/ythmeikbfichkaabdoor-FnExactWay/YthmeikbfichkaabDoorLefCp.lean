/- The contracts of the law's measure, copy and comparison of Leafs. -/
-- UNF Gen
import Derived.Test.YthmeikbfichkaabDoorLefBase
import Derived.Deep.RegionHeld3
namespace Go.Proofs.YthmeikbfichkaabDoor
open Go.RowKit
theorem made_LV (n : Nat) : (madeCells #[.int .i64 0, .int .i64 0] (n * 2)).toList = LV (List.replicate n zeroL) := by
  apply List.ext_getElem?
  intro j
  by_cases hj : j < n * 2
  · have h1 : j / 2 < n := by omega
    have h2 := LV_get (List.replicate n zeroL) (j / 2) (by rw [List.length_replicate]; exact h1) (j % 2) (by omega)
    rw [show j / 2 * 2 + j % 2 = j by omega] at h2
    rw [h2, nthL_eq (by rw [List.length_replicate]; exact h1), List.getElem_replicate]
    have h3 : j % 2 = 0 ∨ j % 2 = 1 := by omega
    rcases h3 with h | h <;> simp [madeCells, hj, h, LC, zeroL]
  · rw [List.getElem?_eq_none (by rw [Array.length_toList, size_madeCells]; omega), List.getElem?_eq_none (by rw [LV_length, List.length_replicate]; omega)]
theorem LV_setAt : ∀ (es : List Lef) (k : Nat), k < es.length → ∀ (j : Nat), j < 2 → ∀ (u : Value) (e' : Lef), (LC (nthL es k)).set j u = LC e' → (LV es).set (k * 2 + j) u = LV (es.set k e')
  | [], k, h, _, _, _, _, _ => by simp at h
  | a :: r, 0, _, j, hj, u, e', h => by
    rw [nthL_zero] at h
    rw [LV_cons, Nat.zero_mul, Nat.zero_add, List.set_append_left _ _ (by simp [LC]; exact hj), h, List.set_cons_zero, LV_cons]
  | a :: r, k + 1, hk, j, hj, u, e', h => by
    rw [nthL_succ] at h
    rw [LV_cons, List.set_append_right _ _ (by simp [LC]; omega), List.set_cons_succ, LV_cons, ← LV_setAt r k (by simpa using hk) j hj u e' h]
    congr 2
    simp [LC]; omega
theorem ownL_store {w : World} {base g cap n : Nat} {es : List Lef} (ho : w.ownsRow base 42 2 (.slice (some ⟨g, 0, none⟩) n cap) n (LV es)) {k j : Nat} (hk : k < es.length) (hj : j < 2) {u : Value} {e' : Lef} (h : (LC (nthL es k)).set j u = LC e') :
    (w.setCell ⟨g, k * 2 + j, none⟩ u).ownsRow base 42 2 (.slice (some ⟨g, 0, none⟩) n cap) n (LV (es.set k e')) := by
  have := (ho.stored (k * 2 + j) u).1
  rwa [LV_setAt es k hk j hj u e' h] at this
theorem nthL_set_same {es : List Lef} {k : Nat} (hk : k < es.length) (e : Lef) : nthL (es.set k e) k = e := by
  rw [nthL_eq (by rw [List.length_set]; exact hk), List.getElem_set_self]
/-- A whole entry stored. -/
theorem ownL_store2 {w : World} {base g cap n : Nat} {es : List Lef} (ho : w.ownsRow base 42 2 (.slice (some ⟨g, 0, none⟩) n cap) n (LV es)) {k : Nat} (hk : k < es.length) (x : Lef) :
    ((w.setCell ⟨g, k * 2, none⟩ (.int .i64 x.pl)).setCell ⟨g, k * 2 + 1, none⟩ (.int .i64 x.va)).ownsRow base 42 2 (.slice (some ⟨g, 0, none⟩) n cap) n (LV (es.set k x)) := by
  have h0 := ownL_store ho hk (j := 0) (by omega) (u := .int .i64 x.pl) (e' := { nthL es k with pl := x.pl }) rfl
  have h1 := ownL_store h0 (k := k) (j := 1) (by rw [List.length_set]; exact hk) (by omega) (u := .int .i64 x.va) (e' := x) (by rw [nthL_set_same hk]; rfl)
  rw [List.set_set] at h1
  exact h1
theorem cpL_step (bs : List Lef) (z : Lef) (k : Nat) (h : k < bs.length) : (bs.take k ++ List.replicate (bs.length - k) z).set k (nthL bs k) = bs.take (k + 1) ++ List.replicate (bs.length - (k + 1)) z := by
  have hl : (bs.take k).length = k := by rw [List.length_take]; omega
  rw [List.set_append_right _ _ (by omega), hl, Nat.sub_self]
  obtain ⟨m, hm⟩ : ∃ m, bs.length - k = m + 1 := ⟨bs.length - k - 1, by omega⟩
  have hm2 : bs.length - (k + 1) = m := by omega
  rw [hm, hm2, List.replicate_succ, List.set_cons_zero, List.take_succ_eq_append_getElem h, List.append_assoc, List.singleton_append, nthL_eq h]
theorem cpL_len (bs : List Lef) (z : Lef) (k : Nat) (h : k ≤ bs.length) : (bs.take k ++ List.replicate (bs.length - k) z).length = bs.length := by
  rw [List.length_append, List.length_take, List.length_replicate]; omega
set_option maxHeartbeats 1000000 in
set_option maxRecDepth 100000 in
theorem toLeaf_any (x : Lef) (w : World) :
    Calls Tryd.prog 24 #[.agg #[.int .i64 x.pl, .int .i64 x.va]] w fun e w' => e = .returned (.agg #[.int .i64 x.pl, .int .i64 x.va]) ∧ Below w.heap.size w w' := by
  go_enter Tryd.func24, Tryd.ntmps24
  go_wp2
  refine bodyPost_ret (v := .agg #[.int .i64 x.pl, .int .i64 x.va]) (by simp [results, Tryd.results24, go_sem]) rfl ⟨rfl, (below2 _ _ _).alloc (by simp; omega) _⟩
set_option maxHeartbeats 1000000 in
set_option maxRecDepth 100000 in
theorem toLefs_any (v : Value) (bs : List Lef) (w : World) (hr : RdL w v bs) (hs : bs.length ≤ 1073741824) :
    Calls Tryd.prog 8 #[v] w fun e w' => ∃ u, e = .returned u ∧ OwnL w' w.heap.size u bs ∧ Below w.heap.size w w' := by
  obtain ⟨i0, hi, hz0, hz1, hz2⟩ := info_parts Tryd.infoL42
  obtain ⟨a, cap, hv, hl, hm, _⟩ := id hr
  unfold maxLen at hm
  subst hv
  go_enter Tryd.func8, Tryd.ntmps8
  go_wp2_with (at_make; (refine wpList_make_full _ rfl _ _ 26 rfl w.heap.size 42 i0 _ 2 Tryd.underlying26 hi hz0 hz1 .i64 .i64 (bs.length : Int) (bs.length : Int) bs.length rfl rfl rfl rfl ?c1 ?c2 ?c3 ?_))
  case c1 => rw [hz2]; omega
  case c2 => unfold maxLen; omega
  case c3 => omega
  intro w1 ho1 hg1
  rw [made_LV] at ho1
  have hb1 : Below w.heap.size w w1 := (Below.refl _ _).grown hg1 (Nat.le_refl _) (fun k hk => by cases hk)
  clear hg1
  go_wp2
  go_loopw [4] (fun i wr => ∃ k : Nat, k ≤ bs.length ∧ i = .int .i64 k ∧ wr.ownsRow w.heap.size 42 2 (.slice (some ⟨w.heap.size, 0, none⟩) bs.length bs.length) bs.length (LV (bs.take k ++ List.replicate (bs.length - k) zeroL)) ∧ Below w.heap.size w wr) (fun i _ => bs.length - (intOf i).toNat)
  case atStart => exact ⟨0, Nat.zero_le _, rfl, by simpa using ho1, hb1⟩
  case round =>
    obtain ⟨k, hk, rfl, ho, hb⟩ := hrel
    clear ho1 hb1
    by_cases hlt : k < bs.length
    · obtain ⟨b, off, rfl, hc⟩ := (hr.below hb).at rfl k hlt
      obtain ⟨x, hx⟩ : ∃ x, x = nthL bs k := ⟨_, rfl⟩
      rw [← hx] at hc
      have HX : Hid (x = nthL bs k) := hx
      clear hx
      obtain ⟨c0, c1⟩ := hc
      go_wp2_with fail
      refine (toLeaf_any x _).mono ?_
      rintro e w1 ⟨rfl, hb1⟩
      have ho1 := own_below ho hb1
      have hlen := cpL_len bs zeroL k hk
      obtain ⟨d0, d1⟩ := ownL_cell ho1 hlen.symm k hlt
      have f0 := ho1.frozenAt (k * 2)
      have f1 := ho1.frozenAt (k * 2 + 1)
      have R1 := ownL_store2 ho1 (k := k) (by rw [hlen]; exact hlt) x
      rw [HX.out, cpL_step bs zeroL k hlt, ← HX.out] at R1
      have R2 := hb.trans (hb1.mono hb.size)
      have H1 : Hid (World.ownsRow _ _ _ _ _ _ _) := R1
      clear ho ho1 hb hb1 R1
      go_wp2
      go_roundw
      case rel => exact ⟨k + 1, by omega, by go_num, H1.out, (R2.setCell (Nat.le_refl _) _).setCell (Nat.le_refl _) _⟩
      case measure => simp [intOf]; omega
    · have hke : k = bs.length := by omega
      subst hke
      have H1 : OwnL wr w.heap.size (.slice (some ⟨w.heap.size, 0, none⟩) bs.length bs.length) bs := by unfold OwnL; simpa using ho
      clear ho
      go_wp2
      go_ret
      exact ⟨_, rfl, H1, hb⟩
/-- What the measure of Leafs leaves: a number below 0, or there are few. -/
def SzLs (w : World) (es : List Lef) (e : Ending) (w' : World) : Prop :=
  w' = w ∧ ∃ z : Int, e = .returned (.int .i64 z) ∧ (z = -1 ∨ 0 ≤ z ∧ es.length ≤ 1048576)
set_option maxHeartbeats 1000000 in
set_option maxRecDepth 100000 in
theorem szLefs_any (v : Value) (es : List Lef) (w : World) (hr : RdL w v es) :
    Calls Tryd.prog 6 #[v, .int .i64 1048576] w fun e w' => SzLs w es e w' := by
  obtain ⟨a, cap, hv, hl, hm, _⟩ := id hr
  unfold maxLen at hm
  subst hv
  by_cases hbig : 1048576 < es.length
  · go_enter Tryd.func6, Tryd.ntmps6
    go_wp2
    go_ret
    exact ⟨rfl, -1, rfl, .inl rfl⟩
  · go_enter Tryd.func6, Tryd.ntmps6
    go_wp2
    go_ret
    exact ⟨rfl, _, rfl, .inr ⟨by omega, by omega⟩⟩
set_option maxHeartbeats 1000000 in
set_option maxRecDepth 100000 in
theorem eqLeaf_same (x : Lef) (w : World) :
    Calls Tryd.prog 29 #[.agg #[.int .i64 x.pl, .int .i64 x.va], .agg #[.int .i64 x.pl, .int .i64 x.va]] w fun e w' => e = .returned (.bool true) ∧ Below w.heap.size w w' := by
  have h1 : (x.pl != x.pl) = false := by simp
  have h2 : (x.va != x.va) = false := by simp
  go_enter Tryd.func29, Tryd.ntmps29
  go_wp2
  go_ret
  exact ⟨rfl, below2 _ _ _⟩
set_option maxHeartbeats 1000000 in
set_option maxRecDepth 100000 in
theorem eqLefs_same (va vb : Value) (es : List Lef) (w : World) (ha : RdL w va es) (hb : RdL w vb es) :
    Calls Tryd.prog 11 #[va, vb] w fun e w' => e = .returned (.bool true) ∧ Below w.heap.size w w' := by
  obtain ⟨aa, ca, hva, hla, hma, _⟩ := id ha
  obtain ⟨ab, cb, hvb, hlb, hmb, _⟩ := id hb
  subst hva
  subst hvb
  unfold maxLen at hma hmb
  have hne : ((es.length : Int) != (es.length : Int)) = false := by simp
  go_enter Tryd.func11, Tryd.ntmps11
  go_wp2
  go_loopw [5] (fun i wr => ∃ k : Nat, k ≤ es.length ∧ i = .int .i64 k ∧ Below w.heap.size w wr) (fun i _ => es.length - (intOf i).toNat)
  case atStart => exact ⟨0, Nat.zero_le _, rfl, Below.refl _ _⟩
  case round =>
    obtain ⟨k, hk, rfl, hbw⟩ := hrel
    by_cases hlt : k < es.length
    · obtain ⟨b1, o1, rfl, hc1⟩ := (ha.below hbw).at rfl k hlt
      obtain ⟨b2, o2, rfl, hc2⟩ := (hb.below hbw).at rfl k hlt
      obtain ⟨x, hx⟩ : ∃ x, x = nthL es k := ⟨_, rfl⟩
      rw [← hx] at hc1 hc2
      clear hx
      go_wp2_with fail
      refine wp_region_noPanic ?_
      refine wp_region_held_drew (S := fun w' => (w'.cell? ⟨b1, o1 + k * 2, none⟩ = some (.int .i64 x.pl) ∧ w'.cell? ⟨b1, o1 + k * 2 + 1, none⟩ = some (.int .i64 x.va)) ∧ (w'.cell? ⟨b2, o2 + k * 2, none⟩ = some (.int .i64 x.pl) ∧ w'.cell? ⟨b2, o2 + k * 2 + 1, none⟩ = some (.int .i64 x.va))) (by kernel_rfl) ⟨hc1, hc2⟩ (fun hH => ?_)
      refine tkG 0 17 hH ?_
      try simp only [Act.put, List.setIfInBounds_toArray, List.set_cons_zero, List.set_cons_succ]
      refine tkG 1 18 hH ?_
      try simp only [Act.put, List.setIfInBounds_toArray, List.set_cons_zero, List.set_cons_succ]
      refine tkG 2 19 hH ?_
      try simp only [Act.put, List.setIfInBounds_toArray, List.set_cons_zero, List.set_cons_succ]
      refine tkG 3 20 hH ?_
      try simp only [Act.put, List.setIfInBounds_toArray, List.set_cons_zero, List.set_cons_succ]
      refine tkG 4 21 hH ?_
      try simp only [Act.put, List.setIfInBounds_toArray, List.set_cons_zero, List.set_cons_succ]
      refine tkG 5 22 hH ?_
      try simp only [Act.put, List.setIfInBounds_toArray, List.set_cons_zero, List.set_cons_succ]
      refine tkG 6 23 hH ?_
      try simp only [Act.put, List.setIfInBounds_toArray, List.set_cons_zero, List.set_cons_succ]
      refine tkG 7 24 hH ?_
      try simp only [Act.put, List.setIfInBounds_toArray, List.set_cons_zero, List.set_cons_succ]
      refine wpAnyH_ready (rs := [8]) (by kernel_rfl) (by simp) ?_
      refine AllReadyH.cons rfl (fun K hK => ?_) AllReadyH.nil
      go_simp
      refine (eqLeaf_same x _).mono ?_
      rintro e w1 ⟨rfl, hb1⟩
      refine hK.out _ _ ⟨LefAt.below (w := wr.drew) (e := x) hH.1 hb1, LefAt.below (w := wr.drew) (e := x) hH.2 hb1⟩ (fun hA => ?_)
      clear hK K
      try simp only [Act.put, List.setIfInBounds_toArray, List.set_cons_zero, List.set_cons_succ]
      refine tkG 9 26 hA ?_
      try simp only [Act.put, List.setIfInBounds_toArray, List.set_cons_zero, List.set_cons_succ]
      refine wpAnyH_done (by kernel_rfl) ?_ _
      refine NoPanic.normal ?_
      have bz := hbw.drew.trans (hb1.mono hbw.size)
      clear hH hA hc1 hc2
      go_wp2
      go_roundw
      case rel => exact ⟨k + 1, by omega, by go_num, bz⟩
      case measure => simp [intOf]; omega
    · go_wp2
      go_ret
      exact ⟨rfl, hbw⟩
end Go.Proofs.YthmeikbfichkaabDoor
