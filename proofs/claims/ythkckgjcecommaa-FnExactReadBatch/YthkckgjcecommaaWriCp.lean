/- The contracts of the law's measure, copy and comparison of writes. -/
-- UNF WriAt
import Derived.Test.YthkckgjcecommaaWriBase
import Derived.Deep.RegionHeld3
namespace Go.Proofs.Ythkckgjcecommaa
open Go.RowKit
theorem made_WV (n : Nat) : (madeCells #[.string ⟨#[]⟩, .string ⟨#[]⟩, .bool false] (n * 3)).toList = WV (List.replicate n zeroW) := by
  apply List.ext_getElem?
  intro j
  by_cases hj : j < n * 3
  · have h1 : j / 3 < n := by omega
    have h2 := WV_get (List.replicate n zeroW) (j / 3) (by rw [List.length_replicate]; exact h1) (j % 3) (by omega)
    rw [show j / 3 * 3 + j % 3 = j by omega] at h2
    rw [h2, nthW_eq (by rw [List.length_replicate]; exact h1), List.getElem_replicate]
    have h3 : j % 3 = 0 ∨ j % 3 = 1 ∨ j % 3 = 2 := by omega
    rcases h3 with h | h | h <;> simp [madeCells, hj, h, WC, zeroW]
  · rw [List.getElem?_eq_none (by rw [Array.length_toList, size_madeCells]; omega), List.getElem?_eq_none (by rw [WV_length, List.length_replicate]; omega)]
theorem WV_setAt : ∀ (es : List Wri) (k : Nat), k < es.length → ∀ (j : Nat), j < 3 → ∀ (u : Value) (e' : Wri), (WC (nthW es k)).set j u = WC e' → (WV es).set (k * 3 + j) u = WV (es.set k e')
  | [], k, h, _, _, _, _, _ => by simp at h
  | a :: r, 0, _, j, hj, u, e', h => by
    rw [nthW_zero] at h
    rw [WV_cons, Nat.zero_mul, Nat.zero_add, List.set_append_left _ _ (by simp [WC]; exact hj), h, List.set_cons_zero, WV_cons]
  | a :: r, k + 1, hk, j, hj, u, e', h => by
    rw [nthW_succ] at h
    rw [WV_cons, List.set_append_right _ _ (by simp [WC]; omega), List.set_cons_succ, WV_cons, ← WV_setAt r k (by simpa using hk) j hj u e' h]
    congr 2
    simp [WC]; omega
theorem ownW_store {w : World} {base g cap n : Nat} {es : List Wri} (ho : w.ownsRow base 37 3 (.slice (some ⟨g, 0, none⟩) n cap) n (WV es)) {k j : Nat} (hk : k < es.length) (hj : j < 3) {u : Value} {e' : Wri} (h : (WC (nthW es k)).set j u = WC e') :
    (w.setCell ⟨g, k * 3 + j, none⟩ u).ownsRow base 37 3 (.slice (some ⟨g, 0, none⟩) n cap) n (WV (es.set k e')) := by
  have := (ho.stored (k * 3 + j) u).1
  rwa [WV_setAt es k hk j hj u e' h] at this
theorem nthW_set_same {es : List Wri} {k : Nat} (hk : k < es.length) (e : Wri) : nthW (es.set k e) k = e := by
  rw [nthW_eq (by rw [List.length_set]; exact hk), List.getElem_set_self]
/-- A whole entry stored. -/
theorem ownW_store3 {w : World} {base g cap n : Nat} {es : List Wri} (ho : w.ownsRow base 37 3 (.slice (some ⟨g, 0, none⟩) n cap) n (WV es)) {k : Nat} (hk : k < es.length) (x : Wri) :
    (((w.setCell ⟨g, k * 3, none⟩ (.string x.key)).setCell ⟨g, k * 3 + 1, none⟩ (.string x.val)).setCell ⟨g, k * 3 + 2, none⟩ (.bool x.gone)).ownsRow base 37 3 (.slice (some ⟨g, 0, none⟩) n cap) n (WV (es.set k x)) := by
  have h0 := ownW_store ho hk (j := 0) (by omega) (u := .string x.key) (e' := { nthW es k with key := x.key }) rfl
  have h1 := ownW_store h0 (k := k) (j := 1) (by rw [List.length_set]; exact hk) (by omega) (u := .string x.val) (e' := { nthW es k with key := x.key, val := x.val }) (by rw [nthW_set_same hk]; rfl)
  rw [List.set_set] at h1
  have h2 := ownW_store h1 (k := k) (j := 2) (by rw [List.length_set]; exact hk) (by omega) (u := .bool x.gone) (e' := x) (by rw [nthW_set_same hk]; rfl)
  rw [List.set_set] at h2
  exact h2
theorem cpW_step (bs : List Wri) (z : Wri) (k : Nat) (h : k < bs.length) : (bs.take k ++ List.replicate (bs.length - k) z).set k (nthW bs k) = bs.take (k + 1) ++ List.replicate (bs.length - (k + 1)) z := by
  have hl : (bs.take k).length = k := by rw [List.length_take]; omega
  rw [List.set_append_right _ _ (by omega), hl, Nat.sub_self]
  obtain ⟨m, hm⟩ : ∃ m, bs.length - k = m + 1 := ⟨bs.length - k - 1, by omega⟩
  have hm2 : bs.length - (k + 1) = m := by omega
  rw [hm, hm2, List.replicate_succ, List.set_cons_zero, List.take_succ_eq_append_getElem h, List.append_assoc, List.singleton_append, nthW_eq h]
theorem cpW_len (bs : List Wri) (z : Wri) (k : Nat) (h : k ≤ bs.length) : (bs.take k ++ List.replicate (bs.length - k) z).length = bs.length := by
  rw [List.length_append, List.length_take, List.length_replicate]; omega
set_option maxHeartbeats 1000000 in
set_option maxRecDepth 100000 in
theorem toWrite_any (x : Wri) (w : World) :
    Calls Try.prog 17 #[.agg #[.string x.key, .string x.val, .bool x.gone]] w fun e w' => e = .returned (.agg #[.string x.key, .string x.val, .bool x.gone]) ∧ Below w.heap.size w w' := by
  go_enter Try.func17, Try.ntmps17
  go_wp2
  refine bodyPost_ret (v := .agg #[.string x.key, .string x.val, .bool x.gone]) (by simp [results, Try.results17, go_sem]) rfl ⟨rfl, (below2 _ _ _).alloc (by simp; omega) _⟩
set_option maxHeartbeats 1000000 in
set_option maxRecDepth 100000 in
theorem toWris_any (v : Value) (bs : List Wri) (w : World) (hr : RdW w v bs) (hs : bs.length ≤ 1073741824) :
    Calls Try.prog 7 #[v] w fun e w' => ∃ u, e = .returned u ∧ OwnW w' w.heap.size u bs ∧ Below w.heap.size w w' := by
  obtain ⟨i0, hi, hz0, hz1, hz2⟩ := info_parts Try.infoW37
  obtain ⟨a, cap, hv, hl, hm, _⟩ := id hr
  unfold maxLen at hm
  subst hv
  go_enter Try.func7, Try.ntmps7
  go_wp2_with (at_make; (refine wpList_make_full _ rfl _ _ 25 rfl w.heap.size 37 i0 _ 3 Try.underlying25 hi hz0 hz1 .i64 .i64 (bs.length : Int) (bs.length : Int) bs.length rfl rfl rfl rfl ?c1 ?c2 ?c3 ?_))
  case c1 => rw [hz2]; omega
  case c2 => unfold maxLen; omega
  case c3 => omega
  intro w1 ho1 hg1
  rw [made_WV] at ho1
  have hb1 : Below w.heap.size w w1 := (Below.refl _ _).grown hg1 (Nat.le_refl _) (fun k hk => by cases hk)
  clear hg1
  go_wp2
  go_loopw [4] (fun i wr => ∃ k : Nat, k ≤ bs.length ∧ i = .int .i64 k ∧ wr.ownsRow w.heap.size 37 3 (.slice (some ⟨w.heap.size, 0, none⟩) bs.length bs.length) bs.length (WV (bs.take k ++ List.replicate (bs.length - k) zeroW)) ∧ Below w.heap.size w wr) (fun i _ => bs.length - (intOf i).toNat)
  case atStart => exact ⟨0, Nat.zero_le _, rfl, by simpa using ho1, hb1⟩
  case round =>
    obtain ⟨k, hk, rfl, ho, hb⟩ := hrel
    clear ho1 hb1
    by_cases hlt : k < bs.length
    · obtain ⟨b, off, rfl, hc⟩ := (hr.below hb).at rfl k hlt
      obtain ⟨x, hx⟩ : ∃ x, x = nthW bs k := ⟨_, rfl⟩
      rw [← hx] at hc
      have HX : Hid (x = nthW bs k) := hx
      clear hx
      obtain ⟨c0, c1, c2⟩ := hc
      go_wp2_with fail
      refine (toWrite_any x _).mono ?_
      rintro e w1 ⟨rfl, hb1⟩
      have ho1 := own_below ho hb1
      have hlen := cpW_len bs zeroW k hk
      obtain ⟨d0, d1, d2⟩ := ownW_cell ho1 hlen.symm k hlt
      have f0 := ho1.frozenAt (k * 3)
      have f1 := ho1.frozenAt (k * 3 + 1)
      have f2 := ho1.frozenAt (k * 3 + 2)
      have R1 := ownW_store3 ho1 (k := k) (by rw [hlen]; exact hlt) x
      rw [HX.out, cpW_step bs zeroW k hlt, ← HX.out] at R1
      have R2 := hb.trans (hb1.mono hb.size)
      have H1 : Hid (World.ownsRow _ _ _ _ _ _ _) := R1
      clear ho ho1 hb hb1 R1
      go_wp2
      go_roundw
      case rel => exact ⟨k + 1, by omega, by go_num, H1.out, ((R2.setCell (Nat.le_refl _) _).setCell (Nat.le_refl _) _).setCell (Nat.le_refl _) _⟩
      case measure => simp [intOf]; omega
    · have hke : k = bs.length := by omega
      subst hke
      have H1 : OwnW wr w.heap.size (.slice (some ⟨w.heap.size, 0, none⟩) bs.length bs.length) bs := by unfold OwnW; simpa using ho
      clear ho
      go_wp2
      go_ret
      exact ⟨_, rfl, H1, hb⟩
/-- What the measure of an entry leaves: a number below 0, or its texts are small. -/
def SzW (w : World) (x : Wri) (e : Ending) (w' : World) : Prop :=
  Below w.heap.size w w' ∧ ∃ z : Int, e = .returned (.int .i64 z) ∧ (z = -1 ∨ 0 ≤ z ∧ z ≤ 1048576 ∧ x.key.size ≤ 1048576 ∧ x.val.size ≤ 1048576)
set_option maxHeartbeats 1000000 in
set_option maxRecDepth 100000 in
theorem szWrite_any (x : Wri) (l : Int) (w : World) (hl0 : 0 ≤ l) (hl1 : l ≤ 1048576) (hk : x.key.size ≤ maxLen) (hv : x.val.size ≤ maxLen) :
    Calls Try.prog 14 #[.agg #[.string x.key, .string x.val, .bool x.gone], .int .i64 l] w fun e w' => SzW w x e w' := by
  unfold maxLen at hk hv
  by_cases h1 : l - (x.key.size : Int) < 0
  · go_enter Try.func14, Try.ntmps14
    go_wp2
    go_ret
    exact ⟨below1 _ _, -1, rfl, .inl rfl⟩
  · by_cases h2 : l - (x.key.size : Int) - (x.val.size : Int) < 0
    · go_enter Try.func14, Try.ntmps14
      go_wp2
      go_ret
      exact ⟨below1 _ _, -1, rfl, .inl rfl⟩
    · go_enter Try.func14, Try.ntmps14
      go_wp2
      go_ret
      exact ⟨below1 _ _, _, rfl, .inr ⟨by omega, by omega, by omega, by omega⟩⟩
/-- What the measure of a slice of entries leaves. -/
def SzWs (w : World) (es : List Wri) (e : Ending) (w' : World) : Prop :=
  Below w.heap.size w w' ∧ ∃ z : Int, e = .returned (.int .i64 z) ∧ (z = -1 ∨ 0 ≤ z ∧ z ≤ 1048576 ∧ es.length ≤ 1048576 ∧ ∀ x ∈ es, x.key.size ≤ 1048576 ∧ x.val.size ≤ 1048576)
set_option maxHeartbeats 1000000 in
set_option maxRecDepth 100000 in
theorem szWris_any (v : Value) (es : List Wri) (w : World) (hr : RdW w v es) (hsz : ∀ x ∈ es, x.key.size ≤ maxLen ∧ x.val.size ≤ maxLen) :
    Calls Try.prog 5 #[v, .int .i64 1048576] w fun e w' => SzWs w es e w' := by
  obtain ⟨a, cap, hv, hl, hm, _⟩ := id hr
  unfold maxLen at hm
  subst hv
  have HSZ : Hid (∀ x ∈ es, x.key.size ≤ maxLen ∧ x.val.size ≤ maxLen) := hsz
  clear hsz
  by_cases hbig : 1048576 < es.length
  · go_enter Try.func5, Try.ntmps5
    go_wp2
    go_ret
    exact ⟨Below.refl _ _, -1, rfl, .inl rfl⟩
  · go_enter Try.func5, Try.ntmps5
    go_wp2
    go_loopw [1, 5] (fun l i wr => ∃ (k : Nat) (x : Int), k ≤ es.length ∧ i = .int .i64 k ∧ l = .int .i64 x ∧ 0 ≤ x ∧ x ≤ 1048576 ∧ Hid (∀ j, j < k → (nthW es j).key.size ≤ 1048576 ∧ (nthW es j).val.size ≤ 1048576) ∧ Below w.heap.size w wr) (fun _ i _ => es.length - (intOf i).toNat)
    case atStart => exact ⟨0, _, Nat.zero_le _, rfl, rfl, by omega, by omega, (fun j h => absurd h (Nat.not_lt_zero _)), Below.refl _ _⟩
    case round =>
      obtain ⟨k, x, hk, rfl, rfl, hx0, hx1, HJ, hb⟩ := hrel
      by_cases hlt : k < es.length
      · obtain ⟨b, off, rfl, hc⟩ := (hr.below hb).at rfl k hlt
        have hsk := HSZ.out _ (List.getElem_mem hlt)
        rw [← nthW_eq hlt] at hsk
        obtain ⟨y, hy⟩ : ∃ y, y = nthW es k := ⟨_, rfl⟩
        rw [← hy] at hc hsk
        have HY : Hid (y = nthW es k) := hy
        clear hy
        obtain ⟨c0, c1, c2⟩ := hc
        go_wp2_with fail
        refine (szWrite_any y x _ hx0 hx1 hsk.1 hsk.2).mono ?_
        rintro e w1 ⟨hb1, z, rfl, hz⟩
        have bz := hb.trans (hb1.mono hb.size)
        rcases hz with hz | ⟨hz0, hz1, hz2, hz3⟩
        · subst hz
          go_wp2
          go_ret
          exact ⟨bz, -1, rfl, .inl rfl⟩
        · have HJ2 : Hid (∀ j, j < k + 1 → (nthW es j).key.size ≤ 1048576 ∧ (nthW es j).val.size ≤ 1048576) := by
            intro j hj
            by_cases hjk : j = k
            · subst hjk; rw [← HY.out]; exact ⟨hz2, hz3⟩
            · exact HJ.out j (by omega)
          clear hz2 hz3 hb hb1
          go_wp2
          go_roundw
          case rel => exact ⟨k + 1, _, by omega, by go_num, rfl, hz0, hz1, HJ2, bz⟩
          case measure => simp [intOf]; omega
      · have hke : k = es.length := by omega
        subst hke
        go_wp2
        go_ret
        refine ⟨hb, x, rfl, .inr ⟨hx0, hx1, by omega, fun s hs => ?_⟩⟩
        obtain ⟨j, hj, rfl⟩ := List.getElem_of_mem hs
        rw [← nthW_eq hj]
        exact HJ.out j hj
set_option maxHeartbeats 1000000 in
set_option maxRecDepth 100000 in
theorem eqWrite_same (x : Wri) (w : World) :
    Calls Try.prog 20 #[.agg #[.string x.key, .string x.val, .bool x.gone], .agg #[.string x.key, .string x.val, .bool x.gone]] w fun e w' => e = .returned (.bool true) ∧ Below w.heap.size w w' := by
  have h2 : (x.gone != x.gone) = false := by simp
  go_enter Try.func20, Try.ntmps20
  go_wp2
  go_ret
  exact ⟨rfl, below2 _ _ _⟩
set_option maxHeartbeats 1000000 in
set_option maxRecDepth 100000 in
theorem eqWris_same (va vb : Value) (es : List Wri) (w : World) (ha : RdW w va es) (hb : RdW w vb es) :
    Calls Try.prog 9 #[va, vb] w fun e w' => e = .returned (.bool true) ∧ Below w.heap.size w w' := by
  obtain ⟨aa, ca, hva, hla, hma, _⟩ := id ha
  obtain ⟨ab, cb, hvb, hlb, hmb, _⟩ := id hb
  subst hva
  subst hvb
  unfold maxLen at hma hmb
  have hne : ((es.length : Int) != (es.length : Int)) = false := by simp
  go_enter Try.func9, Try.ntmps9
  go_wp2
  go_loopw [5] (fun i wr => ∃ k : Nat, k ≤ es.length ∧ i = .int .i64 k ∧ Below w.heap.size w wr) (fun i _ => es.length - (intOf i).toNat)
  case atStart => exact ⟨0, Nat.zero_le _, rfl, Below.refl _ _⟩
  case round =>
    obtain ⟨k, hk, rfl, hbw⟩ := hrel
    by_cases hlt : k < es.length
    · obtain ⟨b1, o1, rfl, hc1⟩ := (ha.below hbw).at rfl k hlt
      obtain ⟨b2, o2, rfl, hc2⟩ := (hb.below hbw).at rfl k hlt
      obtain ⟨x, hx⟩ : ∃ x, x = nthW es k := ⟨_, rfl⟩
      rw [← hx] at hc1 hc2
      clear hx
      go_wp2_with fail
      refine wp_region_noPanic ?_
      refine wp_region_held_drew (S := fun w' => (w'.cell? ⟨b1, o1 + k * 3, none⟩ = some (.string x.key) ∧ w'.cell? ⟨b1, o1 + k * 3 + 1, none⟩ = some (.string x.val) ∧ w'.cell? ⟨b1, o1 + k * 3 + 2, none⟩ = some (.bool x.gone)) ∧ (w'.cell? ⟨b2, o2 + k * 3, none⟩ = some (.string x.key) ∧ w'.cell? ⟨b2, o2 + k * 3 + 1, none⟩ = some (.string x.val) ∧ w'.cell? ⟨b2, o2 + k * 3 + 2, none⟩ = some (.bool x.gone))) (by kernel_rfl) ⟨hc1, hc2⟩ (fun hH => ?_)
      refine tkA 0 17 hH ?_
      try simp only [Act.put, List.setIfInBounds_toArray, List.set_cons_zero, List.set_cons_succ]
      refine tkA 1 18 hH ?_
      try simp only [Act.put, List.setIfInBounds_toArray, List.set_cons_zero, List.set_cons_succ]
      refine tkA 2 19 hH ?_
      try simp only [Act.put, List.setIfInBounds_toArray, List.set_cons_zero, List.set_cons_succ]
      refine tkA 3 20 hH ?_
      try simp only [Act.put, List.setIfInBounds_toArray, List.set_cons_zero, List.set_cons_succ]
      refine tkA 4 21 hH ?_
      try simp only [Act.put, List.setIfInBounds_toArray, List.set_cons_zero, List.set_cons_succ]
      refine tkA 5 22 hH ?_
      try simp only [Act.put, List.setIfInBounds_toArray, List.set_cons_zero, List.set_cons_succ]
      refine tkA 6 23 hH ?_
      try simp only [Act.put, List.setIfInBounds_toArray, List.set_cons_zero, List.set_cons_succ]
      refine tkA 7 24 hH ?_
      try simp only [Act.put, List.setIfInBounds_toArray, List.set_cons_zero, List.set_cons_succ]
      refine wpAnyH_ready (rs := [8]) (by kernel_rfl) (by simp) ?_
      refine AllReadyH.cons rfl (fun K hK => ?_) AllReadyH.nil
      go_simp
      refine (eqWrite_same x _).mono ?_
      rintro e w1 ⟨rfl, hb1⟩
      refine hK.out _ _ ⟨WriAt.below (w := wr.drew) (e := x) hH.1 hb1, WriAt.below (w := wr.drew) (e := x) hH.2 hb1⟩ (fun hA => ?_)
      clear hK K
      try simp only [Act.put, List.setIfInBounds_toArray, List.set_cons_zero, List.set_cons_succ]
      refine tkA 9 26 hA ?_
      try simp only [Act.put, List.setIfInBounds_toArray, List.set_cons_zero, List.set_cons_succ]
      refine wpAnyH_done (by kernel_rfl) ?_ _
      refine NoPanic.normal ?_
      have bz := hbw.drew.trans (hb1.mono hbw.size)
      clear hH hA hc1 hc2
      go_wp2
      go_roundw
      case rel => exact ⟨k + 1, by omega, by go_num, bz⟩
      case measure => simp [intOf]; omega
    · go_wp2
      go_ret
      exact ⟨rfl, hbw⟩
end Go.Proofs.Ythkckgjcecommaa
