/- The contracts of the law's measure, copy and comparison of Offers. -/
-- UNF Gen
import Derived.Test.YteohiicaiilicaaOffBase
import Derived.Deep.RegionHeld3
namespace Go.Proofs.Yteohiicaiilicaa
open Go.RowKit
theorem made_OV (n : Nat) : (madeCells #[.int .i64 0, .string ⟨#[]⟩] (n * 2)).toList = OV (List.replicate n zeroO) := by
  apply List.ext_getElem?
  intro j
  by_cases hj : j < n * 2
  · have h1 : j / 2 < n := by omega
    have h2 := OV_get (List.replicate n zeroO) (j / 2) (by rw [List.length_replicate]; exact h1) (j % 2) (by omega)
    rw [show j / 2 * 2 + j % 2 = j by omega] at h2
    rw [h2, nthO_eq (by rw [List.length_replicate]; exact h1), List.getElem_replicate]
    have h3 : j % 2 = 0 ∨ j % 2 = 1 := by omega
    rcases h3 with h | h <;> simp [madeCells, hj, h, OC, zeroO]
  · rw [List.getElem?_eq_none (by rw [Array.length_toList, size_madeCells]; omega), List.getElem?_eq_none (by rw [OV_length, List.length_replicate]; omega)]
theorem OV_setAt : ∀ (es : List Off) (k : Nat), k < es.length → ∀ (j : Nat), j < 2 → ∀ (u : Value) (e' : Off), (OC (nthO es k)).set j u = OC e' → (OV es).set (k * 2 + j) u = OV (es.set k e')
  | [], k, h, _, _, _, _, _ => by simp at h
  | a :: r, 0, _, j, hj, u, e', h => by
    rw [nthO_zero] at h
    rw [OV_cons, Nat.zero_mul, Nat.zero_add, List.set_append_left _ _ (by simp [OC]; exact hj), h, List.set_cons_zero, OV_cons]
  | a :: r, k + 1, hk, j, hj, u, e', h => by
    rw [nthO_succ] at h
    rw [OV_cons, List.set_append_right _ _ (by simp [OC]; omega), List.set_cons_succ, OV_cons, ← OV_setAt r k (by simpa using hk) j hj u e' h]
    congr 2
    simp [OC]; omega
theorem ownO_store {w : World} {base g cap n : Nat} {es : List Off} (ho : w.ownsRow base 26 2 (.slice (some ⟨g, 0, none⟩) n cap) n (OV es)) {k j : Nat} (hk : k < es.length) (hj : j < 2) {u : Value} {e' : Off} (h : (OC (nthO es k)).set j u = OC e') :
    (w.setCell ⟨g, k * 2 + j, none⟩ u).ownsRow base 26 2 (.slice (some ⟨g, 0, none⟩) n cap) n (OV (es.set k e')) := by
  have := (ho.stored (k * 2 + j) u).1
  rwa [OV_setAt es k hk j hj u e' h] at this
theorem nthO_set_same {es : List Off} {k : Nat} (hk : k < es.length) (e : Off) : nthO (es.set k e) k = e := by
  rw [nthO_eq (by rw [List.length_set]; exact hk), List.getElem_set_self]
/-- A whole entry stored. -/
theorem ownO_store2 {w : World} {base g cap n : Nat} {es : List Off} (ho : w.ownsRow base 26 2 (.slice (some ⟨g, 0, none⟩) n cap) n (OV es)) {k : Nat} (hk : k < es.length) (x : Off) :
    ((w.setCell ⟨g, k * 2, none⟩ (.int .i64 x.fee)).setCell ⟨g, k * 2 + 1, none⟩ (.string x.text)).ownsRow base 26 2 (.slice (some ⟨g, 0, none⟩) n cap) n (OV (es.set k x)) := by
  have h0 := ownO_store ho hk (j := 0) (by omega) (u := .int .i64 x.fee) (e' := { nthO es k with fee := x.fee }) rfl
  have h1 := ownO_store h0 (k := k) (j := 1) (by rw [List.length_set]; exact hk) (by omega) (u := .string x.text) (e' := x) (by rw [nthO_set_same hk]; rfl)
  rw [List.set_set] at h1
  exact h1
theorem cpO_step (bs : List Off) (z : Off) (k : Nat) (h : k < bs.length) : (bs.take k ++ List.replicate (bs.length - k) z).set k (nthO bs k) = bs.take (k + 1) ++ List.replicate (bs.length - (k + 1)) z := by
  have hl : (bs.take k).length = k := by rw [List.length_take]; omega
  rw [List.set_append_right _ _ (by omega), hl, Nat.sub_self]
  obtain ⟨m, hm⟩ : ∃ m, bs.length - k = m + 1 := ⟨bs.length - k - 1, by omega⟩
  have hm2 : bs.length - (k + 1) = m := by omega
  rw [hm, hm2, List.replicate_succ, List.set_cons_zero, List.take_succ_eq_append_getElem h, List.append_assoc, List.singleton_append, nthO_eq h]
theorem cpO_len (bs : List Off) (z : Off) (k : Nat) (h : k ≤ bs.length) : (bs.take k ++ List.replicate (bs.length - k) z).length = bs.length := by
  rw [List.length_append, List.length_take, List.length_replicate]; omega
set_option maxHeartbeats 1000000 in
set_option maxRecDepth 100000 in
theorem toOffer_any (x : Off) (w : World) :
    Calls Try.prog 26 #[.agg #[.int .i64 x.fee, .string x.text]] w fun e w' => e = .returned (.agg #[.int .i64 x.fee, .string x.text]) ∧ Below w.heap.size w w' := by
  go_enter Try.func26, Try.ntmps26
  go_wp2
  refine bodyPost_ret (v := .agg #[.int .i64 x.fee, .string x.text]) (by simp [results, Try.results26, go_sem]) rfl ⟨rfl, (below2 _ _ _).alloc (by simp; omega) _⟩
set_option maxHeartbeats 1000000 in
set_option maxRecDepth 100000 in
theorem toOffs_any (v : Value) (bs : List Off) (w : World) (hr : RdO w v bs) (hs : bs.length ≤ 1073741824) :
    Calls Try.prog 23 #[v] w fun e w' => ∃ u, e = .returned u ∧ OwnO w' w.heap.size u bs ∧ Below w.heap.size w w' := by
  obtain ⟨i0, hi, hz0, hz1, hz2⟩ := info_parts Try.infoO26
  obtain ⟨a, cap, hv, hl, hm, _⟩ := id hr
  unfold maxLen at hm
  subst hv
  go_enter Try.func23, Try.ntmps23
  go_wp2_with (at_make; (refine wpList_make_full _ rfl _ _ 24 rfl w.heap.size 26 i0 _ 2 Try.underlying24 hi hz0 hz1 .i64 .i64 (bs.length : Int) (bs.length : Int) bs.length rfl rfl rfl rfl ?c1 ?c2 ?c3 ?_))
  case c1 => rw [hz2]; omega
  case c2 => unfold maxLen; omega
  case c3 => omega
  intro w1 ho1 hg1
  rw [made_OV] at ho1
  have hb1 : Below w.heap.size w w1 := (Below.refl _ _).grown hg1 (Nat.le_refl _) (fun k hk => by cases hk)
  clear hg1
  go_wp2
  go_loopw [4] (fun i wr => ∃ k : Nat, k ≤ bs.length ∧ i = .int .i64 k ∧ wr.ownsRow w.heap.size 26 2 (.slice (some ⟨w.heap.size, 0, none⟩) bs.length bs.length) bs.length (OV (bs.take k ++ List.replicate (bs.length - k) zeroO)) ∧ Below w.heap.size w wr) (fun i _ => bs.length - (intOf i).toNat)
  case atStart => exact ⟨0, Nat.zero_le _, rfl, by simpa using ho1, hb1⟩
  case round =>
    obtain ⟨k, hk, rfl, ho, hb⟩ := hrel
    clear ho1 hb1
    by_cases hlt : k < bs.length
    · obtain ⟨b, off, rfl, hc⟩ := (hr.below hb).at rfl k hlt
      obtain ⟨x, hx⟩ : ∃ x, x = nthO bs k := ⟨_, rfl⟩
      rw [← hx] at hc
      have HX : Hid (x = nthO bs k) := hx
      clear hx
      obtain ⟨c0, c1⟩ := hc
      go_wp2_with fail
      refine (toOffer_any x _).mono ?_
      rintro e w1 ⟨rfl, hb1⟩
      have ho1 := own_below ho hb1
      have hlen := cpO_len bs zeroO k hk
      obtain ⟨d0, d1⟩ := ownO_cell ho1 hlen.symm k hlt
      have f0 := ho1.frozenAt (k * 2)
      have f1 := ho1.frozenAt (k * 2 + 1)
      have R1 := ownO_store2 ho1 (k := k) (by rw [hlen]; exact hlt) x
      rw [HX.out, cpO_step bs zeroO k hlt, ← HX.out] at R1
      have R2 := hb.trans (hb1.mono hb.size)
      have H1 : Hid (World.ownsRow _ _ _ _ _ _ _) := R1
      clear ho ho1 hb hb1 R1
      go_wp2
      go_roundw
      case rel => exact ⟨k + 1, by omega, by go_num, H1.out, (R2.setCell (Nat.le_refl _) _).setCell (Nat.le_refl _) _⟩
      case measure => simp [intOf]; omega
    · have hke : k = bs.length := by omega
      subst hke
      have H1 : OwnO wr w.heap.size (.slice (some ⟨w.heap.size, 0, none⟩) bs.length bs.length) bs := by unfold OwnO; simpa using ho
      clear ho
      go_wp2
      go_ret
      exact ⟨_, rfl, H1, hb⟩
set_option maxHeartbeats 1000000 in
set_option maxRecDepth 100000 in
theorem szOffer_any (x : Off) (l : Int) (w : World) (hl0 : 0 ≤ l) (hl1 : l ≤ 1048576) (hk : x.text.size ≤ maxLen) :
    Calls Try.prog 25 #[.agg #[.int .i64 x.fee, .string x.text], .int .i64 l] w fun e w' => Below w.heap.size w w' ∧ ∃ z : Int, e = .returned (.int .i64 z) ∧ (z = -1 ∨ 0 ≤ z ∧ z ≤ l) := by
  unfold maxLen at hk
  by_cases h1 : l - (x.text.size : Int) < 0
  · go_enter Try.func25, Try.ntmps25
    go_wp2
    go_ret
    exact ⟨below1 _ _, -1, rfl, .inl rfl⟩
  · go_enter Try.func25, Try.ntmps25
    go_wp2
    go_ret
    exact ⟨below1 _ _, _, rfl, .inr ⟨by omega, by omega⟩⟩
/-- What the measure of a row of patches leaves. -/
def SzOs (w : World) (es : List Off) (l : Int) (e : Ending) (w' : World) : Prop :=
  Below w.heap.size w w' ∧ ∃ z : Int, e = .returned (.int .i64 z) ∧ (z = -1 ∨ 0 ≤ z ∧ z + es.length ≤ l)
set_option maxHeartbeats 1000000 in
set_option maxRecDepth 100000 in
theorem szOffs_at (v : Value) (es : List Off) (l : Int) (w : World) (hr : RdO w v es) (hsz : ∀ x ∈ es, x.text.size ≤ maxLen) (hl0 : 0 ≤ l) (hl1 : l ≤ 1048576) :
    Calls Try.prog 22 #[v, .int .i64 l] w fun e w' => SzOs w es l e w' := by
  obtain ⟨a, cap, hv, hl, hm, _⟩ := id hr
  unfold maxLen at hm
  subst hv
  have HSZ : Hid (∀ x ∈ es, x.text.size ≤ maxLen) := hsz
  clear hsz
  by_cases hbig : l - (es.length : Int) < 0
  · go_enter Try.func22, Try.ntmps22
    go_wp2
    go_ret
    exact ⟨Below.refl _ _, -1, rfl, .inl rfl⟩
  · go_enter Try.func22, Try.ntmps22
    go_wp2
    go_loopw [1, 5] (fun z i wr => ∃ (k : Nat) (x : Int), k ≤ es.length ∧ i = .int .i64 k ∧ z = .int .i64 x ∧ 0 ≤ x ∧ x ≤ l - (es.length : Int) ∧ Below w.heap.size w wr) (fun _ i _ => es.length - (intOf i).toNat)
    case atStart => exact ⟨0, _, Nat.zero_le _, rfl, rfl, by omega, by omega, Below.refl _ _⟩
    case round =>
      obtain ⟨k, x, hk, rfl, rfl, hx0, hx1, hb⟩ := hrel
      by_cases hlt : k < es.length
      · obtain ⟨b, off, rfl, hc⟩ := (hr.below hb).at rfl k hlt
        have hsk := HSZ.out _ (List.getElem_mem hlt)
        rw [← nthO_eq hlt] at hsk
        generalize nthO es k = y at hc hsk
        obtain ⟨c0, c1⟩ := hc
        go_wp2_with fail
        refine (szOffer_any y x _ hx0 (by omega) hsk).mono ?_
        rintro e w1 ⟨hb1, z, rfl, hz⟩
        have bz := hb.trans (hb1.mono hb.size)
        rcases hz with hz | ⟨hz0, hz1⟩
        · subst hz
          go_wp2
          go_ret
          exact ⟨bz, -1, rfl, .inl rfl⟩
        · clear hb hb1
          go_wp2
          go_roundw
          case rel => exact ⟨k + 1, _, by omega, by go_num, rfl, hz0, by omega, bz⟩
          case measure => simp [intOf]; omega
      · go_wp2
        go_ret
        exact ⟨hb, x, rfl, .inr ⟨hx0, by omega⟩⟩
set_option maxHeartbeats 1000000 in
set_option maxRecDepth 100000 in
theorem eqOffer_same (x : Off) (w : World) :
    Calls Try.prog 29 #[.agg #[.int .i64 x.fee, .string x.text], .agg #[.int .i64 x.fee, .string x.text]] w fun e w' => e = .returned (.bool true) ∧ Below w.heap.size w w' := by
  have h2 : (x.fee != x.fee) = false := by simp
  go_enter Try.func29, Try.ntmps29
  go_wp2
  go_ret
  exact ⟨rfl, below2 _ _ _⟩
set_option maxHeartbeats 1000000 in
set_option maxRecDepth 100000 in
theorem eqOffs_same (va vb : Value) (es : List Off) (w : World) (ha : RdO w va es) (hb : RdO w vb es) :
    Calls Try.prog 24 #[va, vb] w fun e w' => e = .returned (.bool true) ∧ Below w.heap.size w w' := by
  obtain ⟨aa, ca, hva, hla, hma, _⟩ := id ha
  obtain ⟨ab, cb, hvb, hlb, hmb, _⟩ := id hb
  subst hva
  subst hvb
  unfold maxLen at hma hmb
  have hne : ((es.length : Int) != (es.length : Int)) = false := by simp
  go_enter Try.func24, Try.ntmps24
  go_wp2
  go_loopw [5] (fun i wr => ∃ k : Nat, k ≤ es.length ∧ i = .int .i64 k ∧ Below w.heap.size w wr) (fun i _ => es.length - (intOf i).toNat)
  case atStart => exact ⟨0, Nat.zero_le _, rfl, Below.refl _ _⟩
  case round =>
    obtain ⟨k, hk, rfl, hbw⟩ := hrel
    by_cases hlt : k < es.length
    · obtain ⟨b1, o1, rfl, hc1⟩ := (ha.below hbw).at rfl k hlt
      obtain ⟨b2, o2, rfl, hc2⟩ := (hb.below hbw).at rfl k hlt
      obtain ⟨x, hx⟩ : ∃ x, x = nthO es k := ⟨_, rfl⟩
      rw [← hx] at hc1 hc2
      clear hx
      go_wp2_with fail
      refine wp_region_noPanic ?_
      refine wp_region_held_drew (S := fun w' => (w'.cell? ⟨b1, o1 + k * 2, none⟩ = some (.int .i64 x.fee) ∧ w'.cell? ⟨b1, o1 + k * 2 + 1, none⟩ = some (.string x.text)) ∧ (w'.cell? ⟨b2, o2 + k * 2, none⟩ = some (.int .i64 x.fee) ∧ w'.cell? ⟨b2, o2 + k * 2 + 1, none⟩ = some (.string x.text))) (by kernel_rfl) ⟨hc1, hc2⟩ (fun hH => ?_)
      refine tkG 0 17 hH ?_
      try simp only [Act.put, List.setIfInBounds_toArray, List.set_cons_zero, List.set_cons_succ]
      refine tkG 1 18 hH ?_
      try simp only [Act.put, List.setIfInBounds_toArray, List.set_cons_zero, List.set_cons_succ]
      refine tkG 2 19 hH ?_
      try simp only [Act.put, List.setIfInBounds_toArray, List.set_cons_zero, List.set_cons_succ]
      refine tkG 3 20 hH ?_
      try simp only [Act.put, List.setIfInBounds_toArray, List.set_cons_zero, List.set_cons_succ]
      refine tkG 4 21 hH ?_
      try simp only [Act.put, List.setIfInBounds_toArray, List.set_cons_zero, List.set_cons_succ]
      refine tkG 5 22 hH ?_
      try simp only [Act.put, List.setIfInBounds_toArray, List.set_cons_zero, List.set_cons_succ]
      refine tkG 6 23 hH ?_
      try simp only [Act.put, List.setIfInBounds_toArray, List.set_cons_zero, List.set_cons_succ]
      refine tkG 7 24 hH ?_
      try simp only [Act.put, List.setIfInBounds_toArray, List.set_cons_zero, List.set_cons_succ]
      refine wpAnyH_ready (rs := [8]) (by kernel_rfl) (by simp) ?_
      refine AllReadyH.cons rfl (fun K hK => ?_) AllReadyH.nil
      go_simp
      refine (eqOffer_same x _).mono ?_
      rintro e w1 ⟨rfl, hb1⟩
      refine hK.out _ _ ⟨OffAt.below (w := wr.drew) (e := x) hH.1 hb1, OffAt.below (w := wr.drew) (e := x) hH.2 hb1⟩ (fun hA => ?_)
      clear hK K
      try simp only [Act.put, List.setIfInBounds_toArray, List.set_cons_zero, List.set_cons_succ]
      refine tkG 9 26 hA ?_
      try simp only [Act.put, List.setIfInBounds_toArray, List.set_cons_zero, List.set_cons_succ]
      refine wpAnyH_done (by kernel_rfl) ?_ _
      refine NoPanic.normal ?_
      have bz := hbw.drew.trans (hb1.mono hbw.size)
      clear hH hA hc1 hc2
      go_wp2
      go_roundw
      case rel => exact ⟨k + 1, by omega, by go_num, bz⟩
      case measure => simp [intOf]; omega
    · go_wp2
      go_ret
      exact ⟨rfl, hbw⟩
end Go.Proofs.Yteohiicaiilicaa
