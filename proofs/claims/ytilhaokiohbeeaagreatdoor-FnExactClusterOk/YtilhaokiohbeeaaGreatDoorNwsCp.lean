/- The contracts of the law's measure, copy and comparison of Newss. -/
import Derived.Test.YtilhaokiohbeeaaGreatDoorG08
import Derived.Deep.RegionHeld3
-- UNF Gen
namespace Go.Proofs.YtilhaokiohbeeaaGreatDoor
open Go.RowKit
theorem made_NwV (n : Nat) : (madeCells #[.int .i64 0, .int .i64 0] (n * 2)).toList = NwV (List.replicate n zeroNw) := by
  apply List.ext_getElem?
  intro j
  by_cases hj : j < n * 2
  · have h1 : j / 2 < n := by omega
    have h2 := NwV_get (List.replicate n zeroNw) (j / 2) (by rw [List.length_replicate]; exact h1) (j % 2) (by omega)
    rw [show j / 2 * 2 + j % 2 = j by omega] at h2
    rw [h2, nthNw_eq (by rw [List.length_replicate]; exact h1), List.getElem_replicate]
    have h3 : j % 2 = 0 ∨ j % 2 = 1 := by omega
    rcases h3 with h | h <;> simp [madeCells, hj, h, NwC, zeroNw]
  · rw [List.getElem?_eq_none (by rw [Array.length_toList, size_madeCells]; omega), List.getElem?_eq_none (by rw [NwV_length, List.length_replicate]; omega)]
theorem NwV_setAt : ∀ (es : List Nws) (k : Nat), k < es.length → ∀ (j : Nat), j < 2 → ∀ (u : Value) (e' : Nws), (NwC (nthNw es k)).set j u = NwC e' → (NwV es).set (k * 2 + j) u = NwV (es.set k e')
  | [], k, h, _, _, _, _, _ => by simp at h
  | a :: r, 0, _, j, hj, u, e', h => by
    rw [nthNw_zero] at h
    rw [NwV_cons, Nat.zero_mul, Nat.zero_add, List.set_append_left _ _ (by simp [NwC]; exact hj), h, List.set_cons_zero, NwV_cons]
  | a :: r, k + 1, hk, j, hj, u, e', h => by
    rw [nthNw_succ] at h
    rw [NwV_cons, List.set_append_right _ _ (by simp [NwC]; omega), List.set_cons_succ, NwV_cons, ← NwV_setAt r k (by simpa using hk) j hj u e' h]
    congr 2
    simp [NwC]; omega
theorem ownNw_store {w : World} {base g cap n : Nat} {es : List Nws} (ho : w.ownsRow base 128 2 (.slice (some ⟨g, 0, none⟩) n cap) n (NwV es)) {k j : Nat} (hk : k < es.length) (hj : j < 2) {u : Value} {e' : Nws} (h : (NwC (nthNw es k)).set j u = NwC e') :
    (w.setCell ⟨g, k * 2 + j, none⟩ u).ownsRow base 128 2 (.slice (some ⟨g, 0, none⟩) n cap) n (NwV (es.set k e')) := by
  have := (ho.stored (k * 2 + j) u).1
  rwa [NwV_setAt es k hk j hj u e' h] at this
theorem nthNw_set_same {es : List Nws} {k : Nat} (hk : k < es.length) (e : Nws) : nthNw (es.set k e) k = e := by
  rw [nthNw_eq (by rw [List.length_set]; exact hk), List.getElem_set_self]
/-- A whole entry stored. -/
theorem ownNw_store2 {w : World} {base g cap n : Nat} {es : List Nws} (ho : w.ownsRow base 128 2 (.slice (some ⟨g, 0, none⟩) n cap) n (NwV es)) {k : Nat} (hk : k < es.length) (x : Nws) :
    ((w.setCell ⟨g, k * 2, none⟩ (.int .i64 x.vw)).setCell ⟨g, k * 2 + 1, none⟩ (.int .i64 x.sv)).ownsRow base 128 2 (.slice (some ⟨g, 0, none⟩) n cap) n (NwV (es.set k x)) := by
  have h0 := ownNw_store ho hk (j := 0) (by omega) (u := .int .i64 x.vw) (e' := { nthNw es k with vw := x.vw }) rfl
  have h1 := ownNw_store h0 (k := k) (j := 1) (by rw [List.length_set]; exact hk) (by omega) (u := .int .i64 x.sv) (e' := x) (by rw [nthNw_set_same hk]; rfl)
  rw [List.set_set] at h1
  exact h1
theorem cpNw_step (bs : List Nws) (z : Nws) (k : Nat) (h : k < bs.length) : (bs.take k ++ List.replicate (bs.length - k) z).set k (nthNw bs k) = bs.take (k + 1) ++ List.replicate (bs.length - (k + 1)) z := by
  have hl : (bs.take k).length = k := by rw [List.length_take]; omega
  rw [List.set_append_right _ _ (by omega), hl, Nat.sub_self]
  obtain ⟨m, hm⟩ : ∃ m, bs.length - k = m + 1 := ⟨bs.length - k - 1, by omega⟩
  have hm2 : bs.length - (k + 1) = m := by omega
  rw [hm, hm2, List.replicate_succ, List.set_cons_zero, List.take_succ_eq_append_getElem h, List.append_assoc, List.singleton_append, nthNw_eq h]
theorem cpNw_len (bs : List Nws) (z : Nws) (k : Nat) (h : k ≤ bs.length) : (bs.take k ++ List.replicate (bs.length - k) z).length = bs.length := by
  rw [List.length_append, List.length_take, List.length_replicate]; omega
set_option maxHeartbeats 1000000 in
set_option maxRecDepth 100000 in
theorem toNews_any (x : Nws) (w : World) :
    Calls Tryz.prog 186 #[.agg #[.int .i64 x.vw, .int .i64 x.sv]] w fun e w' => e = .returned (.agg #[.int .i64 x.vw, .int .i64 x.sv]) ∧ Below w.heap.size w w' := by
  go_enter Tryz.func186, Tryz.ntmps186
  go_wp2
  refine bodyPost_ret (v := .agg #[.int .i64 x.vw, .int .i64 x.sv]) (by simp [results, Tryz.results186, go_sem]) rfl ⟨rfl, (below2 _ _ _).alloc (by simp; omega) _⟩
set_option maxHeartbeats 1000000 in
set_option maxRecDepth 100000 in
theorem toNewss_any (v : Value) (bs : List Nws) (w : World) (hr : RdNw w v bs) (hs : bs.length ≤ 1073741824) :
    Calls Tryz.prog 109 #[v] w fun e w' => ∃ u, e = .returned u ∧ OwnNw w' w.heap.size u bs ∧ Below w.heap.size w w' := by
  obtain ⟨i0, hi, hz0, hz1, hz2⟩ := info_parts Tryz.infoNw128
  obtain ⟨a, cap, hv, hl, hm, _⟩ := id hr
  unfold maxLen at hm
  subst hv
  go_enter Tryz.func109, Tryz.ntmps109
  go_wp2_with (at_make; (refine wpList_make_full _ rfl _ _ 29 rfl w.heap.size 128 i0 _ 2 Tryz.underlying29 hi hz0 hz1 .i64 .i64 (bs.length : Int) (bs.length : Int) bs.length rfl rfl rfl rfl ?c1 ?c2 ?c3 ?_))
  case c1 => rw [hz2]; omega
  case c2 => unfold maxLen; omega
  case c3 => omega
  intro w1 ho1 hg1
  rw [made_NwV] at ho1
  have hb1 : Below w.heap.size w w1 := (Below.refl _ _).grown hg1 (Nat.le_refl _) (fun k hk => by cases hk)
  clear hg1
  go_wp2
  go_loopw [4] (fun i wr => ∃ k : Nat, k ≤ bs.length ∧ i = .int .i64 k ∧ wr.ownsRow w.heap.size 128 2 (.slice (some ⟨w.heap.size, 0, none⟩) bs.length bs.length) bs.length (NwV (bs.take k ++ List.replicate (bs.length - k) zeroNw)) ∧ Below w.heap.size w wr) (fun i _ => bs.length - (intOf i).toNat)
  case atStart => exact ⟨0, Nat.zero_le _, rfl, by simpa using ho1, hb1⟩
  case round =>
    obtain ⟨k, hk, rfl, ho, hb⟩ := hrel
    clear ho1 hb1
    by_cases hlt : k < bs.length
    · obtain ⟨b, off, rfl, hc⟩ := (hr.below hb).at rfl k hlt
      obtain ⟨x, hx⟩ : ∃ x, x = nthNw bs k := ⟨_, rfl⟩
      rw [← hx] at hc
      have HX : Hid (x = nthNw bs k) := hx
      clear hx
      obtain ⟨c0, c1⟩ := hc
      go_wp2_with fail
      refine (toNews_any x _).mono ?_
      rintro e w1 ⟨rfl, hb1⟩
      have ho1 := own_below ho hb1
      have hlen := cpNw_len bs zeroNw k hk
      obtain ⟨d0, d1⟩ := ownNw_cell ho1 hlen.symm k hlt
      have f0 := ho1.frozenAt (k * 2)
      have f1 := ho1.frozenAt (k * 2 + 1)
      have R1 := ownNw_store2 ho1 (k := k) (by rw [hlen]; exact hlt) x
      rw [HX.out, cpNw_step bs zeroNw k hlt, ← HX.out] at R1
      have R2 := hb.trans (hb1.mono hb.size)
      have H1 : Hid (World.ownsRow _ _ _ _ _ _ _) := R1
      clear ho ho1 hb hb1 R1
      go_wp2
      go_roundw
      case rel => exact ⟨k + 1, by omega, by go_num, H1.out, (R2.setCell (Nat.le_refl _) _).setCell (Nat.le_refl _) _⟩
      case measure => simp [intOf]; omega
    · have hke : k = bs.length := by omega
      subst hke
      have H1 : OwnNw wr w.heap.size (.slice (some ⟨w.heap.size, 0, none⟩) bs.length bs.length) bs := by unfold OwnNw; simpa using ho
      clear ho
      go_wp2
      go_ret
      exact ⟨_, rfl, H1, hb⟩
/-- What the measure of Newss leaves: a number below 0, or there are few. -/
def SzNws (w : World) (es : List Nws) (e : Ending) (w' : World) : Prop :=
  w' = w ∧ ∃ z : Int, e = .returned (.int .i64 z) ∧ (z = -1 ∨ 0 ≤ z ∧ es.length ≤ 1048576)
set_option maxHeartbeats 1000000 in
set_option maxRecDepth 100000 in
theorem szNewss_any (v : Value) (es : List Nws) (w : World) (hr : RdNw w v es) :
    Calls Tryz.prog 103 #[v, .int .i64 1048576] w fun e w' => SzNws w es e w' := by
  obtain ⟨a, cap, hv, hl, hm, _⟩ := id hr
  unfold maxLen at hm
  subst hv
  by_cases hbig : 1048576 < es.length
  · go_enter Tryz.func103, Tryz.ntmps103
    go_wp2
    go_ret
    exact ⟨rfl, -1, rfl, .inl rfl⟩
  · go_enter Tryz.func103, Tryz.ntmps103
    go_wp2
    go_ret
    exact ⟨rfl, _, rfl, .inr ⟨by omega, by omega⟩⟩
set_option maxHeartbeats 1000000 in
set_option maxRecDepth 100000 in
theorem eqNews_same (x : Nws) (w : World) :
    Calls Tryz.prog 188 #[.agg #[.int .i64 x.vw, .int .i64 x.sv], .agg #[.int .i64 x.vw, .int .i64 x.sv]] w fun e w' => e = .returned (.bool true) ∧ Below w.heap.size w w' := by
  have h1 : (x.vw != x.vw) = false := by simp
  have h2 : (x.sv != x.sv) = false := by simp
  go_enter Tryz.func188, Tryz.ntmps188
  go_wp2
  go_ret
  exact ⟨rfl, below2 _ _ _⟩
set_option maxHeartbeats 1000000 in
set_option maxRecDepth 100000 in
theorem eqNewss_same (va vb : Value) (es : List Nws) (w : World) (ha : RdNw w va es) (hb : RdNw w vb es) :
    Calls Tryz.prog 116 #[va, vb] w fun e w' => e = .returned (.bool true) ∧ Below w.heap.size w w' := by
  obtain ⟨aa, ca, hva, hla, hma, _⟩ := id ha
  obtain ⟨ab, cb, hvb, hlb, hmb, _⟩ := id hb
  subst hva
  subst hvb
  unfold maxLen at hma hmb
  have hne : ((es.length : Int) != (es.length : Int)) = false := by simp
  go_enter Tryz.func116, Tryz.ntmps116
  go_wp2
  go_loopw [5] (fun i wr => ∃ k : Nat, k ≤ es.length ∧ i = .int .i64 k ∧ Below w.heap.size w wr) (fun i _ => es.length - (intOf i).toNat)
  case atStart => exact ⟨0, Nat.zero_le _, rfl, Below.refl _ _⟩
  case round =>
    obtain ⟨k, hk, rfl, hbw⟩ := hrel
    by_cases hlt : k < es.length
    · obtain ⟨b1, o1, rfl, hc1⟩ := (ha.below hbw).at rfl k hlt
      obtain ⟨b2, o2, rfl, hc2⟩ := (hb.below hbw).at rfl k hlt
      obtain ⟨x, hx⟩ : ∃ x, x = nthNw es k := ⟨_, rfl⟩
      rw [← hx] at hc1 hc2
      clear hx
      go_wp2_with fail
      refine wp_region_noPanic ?_
      refine wp_region_held_drew (S := fun w' => (w'.cell? ⟨b1, o1 + k * 2, none⟩ = some (.int .i64 x.vw) ∧ w'.cell? ⟨b1, o1 + k * 2 + 1, none⟩ = some (.int .i64 x.sv)) ∧ (w'.cell? ⟨b2, o2 + k * 2, none⟩ = some (.int .i64 x.vw) ∧ w'.cell? ⟨b2, o2 + k * 2 + 1, none⟩ = some (.int .i64 x.sv))) (by kernel_rfl) ⟨hc1, hc2⟩ (fun hH => ?_)
      refine tkG 0 17 hH ?_
      try simp only [Act.put, List.setIfInBounds_toArray, List.set_cons_zero, List.set_cons_succ]
      refine tkG 1 18 hH ?_
      try simp only [Act.put, List.setIfInBounds_toArray, List.set_cons_zero, List.set_cons_succ]
      refine tkG 2 19 hH ?_
      try simp only [Act.put, List.setIfInBounds_toArray, List.set_cons_zero, List.set_cons_succ]
      refine tkG 3 20 hH ?_
      try simp only [Act.put, List.setIfInBounds_toArray, List.set_cons_zero, List.set_cons_succ]
      refine tkG 4 21 hH ?_
      try simp only [Act.put, List.setIfInBounds_toArray, List.set_cons_zero, List.set_cons_succ]
      refine tkG 5 22 hH ?_
      try simp only [Act.put, List.setIfInBounds_toArray, List.set_cons_zero, List.set_cons_succ]
      refine tkG 6 23 hH ?_
      try simp only [Act.put, List.setIfInBounds_toArray, List.set_cons_zero, List.set_cons_succ]
      refine tkG 7 24 hH ?_
      try simp only [Act.put, List.setIfInBounds_toArray, List.set_cons_zero, List.set_cons_succ]
      refine wpAnyH_ready (rs := [8]) (by kernel_rfl) (by simp) ?_
      refine AllReadyH.cons rfl (fun K hK => ?_) AllReadyH.nil
      go_simp
      refine (eqNews_same x _).mono ?_
      rintro e w1 ⟨rfl, hb1⟩
      refine hK.out _ _ ⟨NwsAt.below (w := wr.drew) (e := x) hH.1 hb1, NwsAt.below (w := wr.drew) (e := x) hH.2 hb1⟩ (fun hA => ?_)
      clear hK K
      try simp only [Act.put, List.setIfInBounds_toArray, List.set_cons_zero, List.set_cons_succ]
      refine tkG 9 26 hA ?_
      try simp only [Act.put, List.setIfInBounds_toArray, List.set_cons_zero, List.set_cons_succ]
      refine wpAnyH_done (by kernel_rfl) ?_ _
      refine NoPanic.normal ?_
      have bz := hbw.drew.trans (hb1.mono hbw.size)
      clear hH hA hc1 hc2
      go_wp2
      go_roundw
      case rel => exact ⟨k + 1, by omega, by go_num, bz⟩
      case measure => simp [intOf]; omega
    · go_wp2
      go_ret
      exact ⟨rfl, hbw⟩
end Go.Proofs.YtilhaokiohbeeaaGreatDoor
