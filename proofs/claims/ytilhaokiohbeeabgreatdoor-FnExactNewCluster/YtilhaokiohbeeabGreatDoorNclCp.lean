/- The contract of the law's comparison of Replicas without lists. -/
-- UNF Gen
import Derived.Test.YtilhaokiohbeeabGreatDoorNclBase
import Derived.Test.YtilhaokiohbeeabGreatDoorNrpEq
import Derived.Deep.RegionHeld3
namespace Go.Proofs.YtilhaokiohbeeabGreatDoor
open Go.RowKit
theorem NcV_setAt : ∀ (es : List Ncr) (k : Nat), k < es.length → ∀ (j : Nat), j < 14 → ∀ (u : Value) (e' : Ncr), (NcC (nthNc es k)).set j u = NcC e' → (NcV es).set (k * 14 + j) u = NcV (es.set k e')
  | [], k, h, _, _, _, _, _ => by simp at h
  | a :: r, 0, _, j, hj, u, e', h => by
    rw [nthNc_zero] at h
    rw [NcV_cons, Nat.zero_mul, Nat.zero_add, List.set_append_left _ _ (by simp [NcC]; exact hj), h, List.set_cons_zero, NcV_cons]
  | a :: r, k + 1, hk, j, hj, u, e', h => by
    rw [nthNc_succ] at h
    rw [NcV_cons, List.set_append_right _ _ (by simp [NcC]; omega), List.set_cons_succ, NcV_cons, ← NcV_setAt r k (by simpa using hk) j hj u e' h]
    congr 2
    simp [NcC]; omega
theorem ownNc_store {w : World} {base g cap n : Nat} {es : List Ncr} (ho : w.ownsRow base 81 14 (.slice (some ⟨g, 0, none⟩) n cap) n (NcV es)) {k j : Nat} (hk : k < es.length) (hj : j < 14) {u : Value} {e' : Ncr} (h : (NcC (nthNc es k)).set j u = NcC e') :
    (w.setCell ⟨g, k * 14 + j, none⟩ u).ownsRow base 81 14 (.slice (some ⟨g, 0, none⟩) n cap) n (NcV (es.set k e')) := by
  have := (ho.stored (k * 14 + j) u).1
  rwa [NcV_setAt es k hk j hj u e' h] at this
theorem nthNc_set_same {es : List Ncr} {k : Nat} (hk : k < es.length) (e : Ncr) : nthNc (es.set k e) k = e := by
  rw [nthNc_eq (by rw [List.length_set]; exact hk), List.getElem_set_self]
/-- All eight numbers stored. -/
theorem ownNc_store2 {w : World} {base g cap n : Nat} {es : List Ncr} (ho : w.ownsRow base 81 14 (.slice (some ⟨g, 0, none⟩) n cap) n (NcV es)) {k : Nat} (hk : k < es.length) (x : Ncr) :
    ((((((((w.setCell ⟨g, k * 14, none⟩ (.int .i64 x.idn)).setCell ⟨g, k * 14 + 1, none⟩ (.int .i64 x.n)).setCell ⟨g, k * 14 + 2, none⟩ (.int .i64 x.vw)).setCell ⟨g, k * 14 + 3, none⟩ (.int .i64 x.vo)).setCell ⟨g, k * 14 + 4, none⟩ (.int .i64 x.lo)).setCell ⟨g, k * 14 + 5, none⟩ (.int .i64 x.pr)).setCell ⟨g, k * 14 + 6, none⟩ (.int .i64 x.hv)).setCell ⟨g, k * 14 + 7, none⟩ (.int .i64 x.hn)).ownsRow base 81 14 (.slice (some ⟨g, 0, none⟩) n cap) n (NcV (es.set k x)) := by
  have h0 := ownNc_store ho hk (j := 0) (by omega) (u := .int .i64 x.idn) (e' := { nthNc es k with idn := x.idn }) rfl
  have h1 := ownNc_store h0 (k := k) (j := 1) (by rw [List.length_set]; exact hk) (by omega) (u := .int .i64 x.n) (e' := { nthNc es k with idn := x.idn, n := x.n }) (by rw [nthNc_set_same hk]; rfl)
  rw [List.set_set] at h1
  have h2 := ownNc_store h1 (k := k) (j := 2) (by rw [List.length_set]; exact hk) (by omega) (u := .int .i64 x.vw) (e' := { nthNc es k with idn := x.idn, n := x.n, vw := x.vw }) (by rw [nthNc_set_same hk]; rfl)
  rw [List.set_set] at h2
  have h3 := ownNc_store h2 (k := k) (j := 3) (by rw [List.length_set]; exact hk) (by omega) (u := .int .i64 x.vo) (e' := { nthNc es k with idn := x.idn, n := x.n, vw := x.vw, vo := x.vo }) (by rw [nthNc_set_same hk]; rfl)
  rw [List.set_set] at h3
  have h4 := ownNc_store h3 (k := k) (j := 4) (by rw [List.length_set]; exact hk) (by omega) (u := .int .i64 x.lo) (e' := { nthNc es k with idn := x.idn, n := x.n, vw := x.vw, vo := x.vo, lo := x.lo }) (by rw [nthNc_set_same hk]; rfl)
  rw [List.set_set] at h4
  have h5 := ownNc_store h4 (k := k) (j := 5) (by rw [List.length_set]; exact hk) (by omega) (u := .int .i64 x.pr) (e' := { nthNc es k with idn := x.idn, n := x.n, vw := x.vw, vo := x.vo, lo := x.lo, pr := x.pr }) (by rw [nthNc_set_same hk]; rfl)
  rw [List.set_set] at h5
  have h6 := ownNc_store h5 (k := k) (j := 6) (by rw [List.length_set]; exact hk) (by omega) (u := .int .i64 x.hv) (e' := { nthNc es k with idn := x.idn, n := x.n, vw := x.vw, vo := x.vo, lo := x.lo, pr := x.pr, hv := x.hv }) (by rw [nthNc_set_same hk]; rfl)
  rw [List.set_set] at h6
  have h7 := ownNc_store h6 (k := k) (j := 7) (by rw [List.length_set]; exact hk) (by omega) (u := .int .i64 x.hn) (e' := x) (by rw [nthNc_set_same hk]; rfl)
  rw [List.set_set] at h7
  exact h7
set_option maxHeartbeats 1000000 in
set_option maxRecDepth 100000 in
theorem eqReplicas_nil (va vb : Value) (es : List Ncr) (w : World) (ha : RdNc w va es) (hb : RdNc w vb es) :
    Calls Tryz.prog 35 #[va, vb] w fun e w' => e = .returned (.bool true) ∧ Below w.heap.size w w' := by
  obtain ⟨aa, ca, hva, hla, hma, _⟩ := id ha
  obtain ⟨ab, cb, hvb, hlb, hmb, _⟩ := id hb
  subst hva
  subst hvb
  unfold maxLen at hma hmb
  have hne : ((es.length : Int) != (es.length : Int)) = false := by simp
  go_enter Tryz.func35, Tryz.ntmps35
  go_wp2
  go_loopw [5] (fun i wr => ∃ k : Nat, k ≤ es.length ∧ i = .int .i64 k ∧ Below w.heap.size w wr) (fun i _ => es.length - (intOf i).toNat)
  case atStart => exact ⟨0, Nat.zero_le _, rfl, Below.refl _ _⟩
  case round =>
    obtain ⟨k, hk, rfl, hbw⟩ := hrel
    by_cases hlt : k < es.length
    · obtain ⟨b1, o1, rfl, hc1⟩ := (ha.below hbw).at rfl k hlt
      obtain ⟨b2, o2, rfl, hc2⟩ := (hb.below hbw).at rfl k hlt
      obtain ⟨x, hx⟩ : ∃ x, x = nthNc es k := ⟨_, rfl⟩
      rw [← hx] at hc1 hc2
      clear hx
      go_wp2_with fail
      refine wp_region_noPanic ?_
      refine wp_region_held_drew (S := fun w' => (w'.cell? ⟨b1, o1 + k * 14, none⟩ = some (.int .i64 x.idn) ∧ w'.cell? ⟨b1, o1 + k * 14 + 1, none⟩ = some (.int .i64 x.n) ∧ w'.cell? ⟨b1, o1 + k * 14 + 2, none⟩ = some (.int .i64 x.vw) ∧ w'.cell? ⟨b1, o1 + k * 14 + 3, none⟩ = some (.int .i64 x.vo) ∧ w'.cell? ⟨b1, o1 + k * 14 + 4, none⟩ = some (.int .i64 x.lo) ∧ w'.cell? ⟨b1, o1 + k * 14 + 5, none⟩ = some (.int .i64 x.pr) ∧ w'.cell? ⟨b1, o1 + k * 14 + 6, none⟩ = some (.int .i64 x.hv) ∧ w'.cell? ⟨b1, o1 + k * 14 + 7, none⟩ = some (.int .i64 x.hn) ∧ w'.cell? ⟨b1, o1 + k * 14 + 8, none⟩ = some (.slice none 0 0) ∧ w'.cell? ⟨b1, o1 + k * 14 + 9, none⟩ = some (.slice none 0 0) ∧ w'.cell? ⟨b1, o1 + k * 14 + 10, none⟩ = some (.slice none 0 0) ∧ w'.cell? ⟨b1, o1 + k * 14 + 11, none⟩ = some (.slice none 0 0) ∧ w'.cell? ⟨b1, o1 + k * 14 + 12, none⟩ = some (.slice none 0 0) ∧ w'.cell? ⟨b1, o1 + k * 14 + 13, none⟩ = some (.slice none 0 0)) ∧ (w'.cell? ⟨b2, o2 + k * 14, none⟩ = some (.int .i64 x.idn) ∧ w'.cell? ⟨b2, o2 + k * 14 + 1, none⟩ = some (.int .i64 x.n) ∧ w'.cell? ⟨b2, o2 + k * 14 + 2, none⟩ = some (.int .i64 x.vw) ∧ w'.cell? ⟨b2, o2 + k * 14 + 3, none⟩ = some (.int .i64 x.vo) ∧ w'.cell? ⟨b2, o2 + k * 14 + 4, none⟩ = some (.int .i64 x.lo) ∧ w'.cell? ⟨b2, o2 + k * 14 + 5, none⟩ = some (.int .i64 x.pr) ∧ w'.cell? ⟨b2, o2 + k * 14 + 6, none⟩ = some (.int .i64 x.hv) ∧ w'.cell? ⟨b2, o2 + k * 14 + 7, none⟩ = some (.int .i64 x.hn) ∧ w'.cell? ⟨b2, o2 + k * 14 + 8, none⟩ = some (.slice none 0 0) ∧ w'.cell? ⟨b2, o2 + k * 14 + 9, none⟩ = some (.slice none 0 0) ∧ w'.cell? ⟨b2, o2 + k * 14 + 10, none⟩ = some (.slice none 0 0) ∧ w'.cell? ⟨b2, o2 + k * 14 + 11, none⟩ = some (.slice none 0 0) ∧ w'.cell? ⟨b2, o2 + k * 14 + 12, none⟩ = some (.slice none 0 0) ∧ w'.cell? ⟨b2, o2 + k * 14 + 13, none⟩ = some (.slice none 0 0))) (by kernel_rfl) ⟨hc1, hc2⟩ (fun hH => ?_)
      refine tkG 0 17 hH ?_
      try simp only [Act.put, List.setIfInBounds_toArray, List.set_cons_zero, List.set_cons_succ]
      refine tkG 1 18 hH ?_
      try simp only [Act.put, List.setIfInBounds_toArray, List.set_cons_zero, List.set_cons_succ]
      refine tkG 2 19 hH ?_
      try simp only [Act.put, List.setIfInBounds_toArray, List.set_cons_zero, List.set_cons_succ]
      refine tkG 3 20 hH ?_
      try simp only [Act.put, List.setIfInBounds_toArray, List.set_cons_zero, List.set_cons_succ]
      refine tkG 4 21 hH ?_
      try simp only [Act.put, List.setIfInBounds_toArray, List.set_cons_zero, List.set_cons_succ]
      refine tkG 5 22 hH ?_
      try simp only [Act.put, List.setIfInBounds_toArray, List.set_cons_zero, List.set_cons_succ]
      refine tkG 6 23 hH ?_
      try simp only [Act.put, List.setIfInBounds_toArray, List.set_cons_zero, List.set_cons_succ]
      refine tkG 7 24 hH ?_
      try simp only [Act.put, List.setIfInBounds_toArray, List.set_cons_zero, List.set_cons_succ]
      refine wpAnyH_ready (rs := [8]) (by kernel_rfl) (by simp) ?_
      refine AllReadyH.cons rfl (fun K hK => ?_) AllReadyH.nil
      go_simp
      refine (eqReplicaN_any x _).mono ?_
      rintro e w1 ⟨rfl, hb1⟩
      refine hK.out _ _ ⟨NcrAt.below (w := wr.drew) (e := x) hH.1 hb1, NcrAt.below (w := wr.drew) (e := x) hH.2 hb1⟩ (fun hA => ?_)
      clear hK K
      try simp only [Act.put, List.setIfInBounds_toArray, List.set_cons_zero, List.set_cons_succ]
      refine tkG 9 26 hA ?_
      try simp only [Act.put, List.setIfInBounds_toArray, List.set_cons_zero, List.set_cons_succ]
      refine wpAnyH_done (by kernel_rfl) ?_ _
      refine NoPanic.normal ?_
      have bz := hbw.drew.trans (hb1.mono hbw.size)
      clear hH hA hc1 hc2
      go_wp2
      go_roundw
      case rel => exact ⟨k + 1, by omega, by go_num, bz⟩
      case measure => simp [intOf]; omega
    · go_wp2
      go_ret
      exact ⟨rfl, hbw⟩
end Go.Proofs.YtilhaokiohbeeabGreatDoor
