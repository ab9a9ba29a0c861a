/- The contracts of the law's measure, copy and comparison of Votes. -/
-- UNF Gen
import Derived.Test.YtbnibnbmdbdibaaDoorVotBase
import Derived.Deep.RegionHeld3
namespace Go.Proofs.YtbnibnbmdbdibaaDoor
open Go.RowKit
theorem made_VoV (n : Nat) : (madeCells #[.int .i64 0, .int .i64 0, .int .i64 0, .int .i64 0] (n * 4)).toList = VoV (List.replicate n zeroVo) := by
  apply List.ext_getElem?
  intro j
  by_cases hj : j < n * 4
  · have h1 : j / 4 < n := by omega
    have h2 := VoV_get (List.replicate n zeroVo) (j / 4) (by rw [List.length_replicate]; exact h1) (j % 4) (by omega)
    rw [show j / 4 * 4 + j % 4 = j by omega] at h2
    rw [h2, nthVo_eq (by rw [List.length_replicate]; exact h1), List.getElem_replicate]
    have h3 : j % 4 = 0 ∨ j % 4 = 1 ∨ j % 4 = 2 ∨ j % 4 = 3 := by omega
    rcases h3 with h | h | h | h <;> simp [madeCells, hj, h, VoC, zeroVo]
  · rw [List.getElem?_eq_none (by rw [Array.length_toList, size_madeCells]; omega), List.getElem?_eq_none (by rw [VoV_length, List.length_replicate]; omega)]
theorem VoV_setAt : ∀ (es : List Vot) (k : Nat), k < es.length → ∀ (j : Nat), j < 4 → ∀ (u : Value) (e' : Vot), (VoC (nthVo es k)).set j u = VoC e' → (VoV es).set (k * 4 + j) u = VoV (es.set k e')
  | [], k, h, _, _, _, _, _ => by simp at h
  | a :: r, 0, _, j, hj, u, e', h => by
    rw [nthVo_zero] at h
    rw [VoV_cons, Nat.zero_mul, Nat.zero_add, List.set_append_left _ _ (by simp [VoC]; exact hj), h, List.set_cons_zero, VoV_cons]
  | a :: r, k + 1, hk, j, hj, u, e', h => by
    rw [nthVo_succ] at h
    rw [VoV_cons, List.set_append_right _ _ (by simp [VoC]; omega), List.set_cons_succ, VoV_cons, ← VoV_setAt r k (by simpa using hk) j hj u e' h]
    congr 2
    simp [VoC]; omega
theorem ownVo_store {w : World} {base g cap n : Nat} {es : List Vot} (ho : w.ownsRow base 35 4 (.slice (some ⟨g, 0, none⟩) n cap) n (VoV es)) {k j : Nat} (hk : k < es.length) (hj : j < 4) {u : Value} {e' : Vot} (h : (VoC (nthVo es k)).set j u = VoC e') :
    (w.setCell ⟨g, k * 4 + j, none⟩ u).ownsRow base 35 4 (.slice (some ⟨g, 0, none⟩) n cap) n (VoV (es.set k e')) := by
  have := (ho.stored (k * 4 + j) u).1
  rwa [VoV_setAt es k hk j hj u e' h] at this
theorem nthVo_set_same {es : List Vot} {k : Nat} (hk : k < es.length) (e : Vot) : nthVo (es.set k e) k = e := by
  rw [nthVo_eq (by rw [List.length_set]; exact hk), List.getElem_set_self]
/-- A whole entry stored. -/
theorem ownVo_store2 {w : World} {base g cap n : Nat} {es : List Vot} (ho : w.ownsRow base 35 4 (.slice (some ⟨g, 0, none⟩) n cap) n (VoV es)) {k : Nat} (hk : k < es.length) (x : Vot) :
    ((((w.setCell ⟨g, k * 4, none⟩ (.int .i64 x.vw)).setCell ⟨g, k * 4 + 1, none⟩ (.int .i64 x.nm)).setCell ⟨g, k * 4 + 2, none⟩ (.int .i64 x.sv)).setCell ⟨g, k * 4 + 3, none⟩ (.int .i64 x.tg)).ownsRow base 35 4 (.slice (some ⟨g, 0, none⟩) n cap) n (VoV (es.set k x)) := by
  have h0 := ownVo_store ho hk (j := 0) (by omega) (u := .int .i64 x.vw) (e' := { nthVo es k with vw := x.vw }) rfl
  have h1 := ownVo_store h0 (k := k) (j := 1) (by rw [List.length_set]; exact hk) (by omega) (u := .int .i64 x.nm) (e' := { nthVo es k with vw := x.vw, nm := x.nm }) (by rw [nthVo_set_same hk]; rfl)
  rw [List.set_set] at h1
  have h2 := ownVo_store h1 (k := k) (j := 2) (by rw [List.length_set]; exact hk) (by omega) (u := .int .i64 x.sv) (e' := { nthVo es k with vw := x.vw, nm := x.nm, sv := x.sv }) (by rw [nthVo_set_same hk]; rfl)
  rw [List.set_set] at h2
  have h3 := ownVo_store h2 (k := k) (j := 3) (by rw [List.length_set]; exact hk) (by omega) (u := .int .i64 x.tg) (e' := x) (by rw [nthVo_set_same hk]; rfl)
  rw [List.set_set] at h3
  exact h3
theorem cpVo_step (bs : List Vot) (z : Vot) (k : Nat) (h : k < bs.length) : (bs.take k ++ List.replicate (bs.length - k) z).set k (nthVo bs k) = bs.take (k + 1) ++ List.replicate (bs.length - (k + 1)) z := by
  have hl : (bs.take k).length = k := by rw [List.length_take]; omega
  rw [List.set_append_right _ _ (by omega), hl, Nat.sub_self]
  obtain ⟨m, hm⟩ : ∃ m, bs.length - k = m + 1 := ⟨bs.length - k - 1, by omega⟩
  have hm2 : bs.length - (k + 1) = m := by omega
  rw [hm, hm2, List.replicate_succ, List.set_cons_zero, List.take_succ_eq_append_getElem h, List.append_assoc, List.singleton_append, nthVo_eq h]
theorem cpVo_len (bs : List Vot) (z : Vot) (k : Nat) (h : k ≤ bs.length) : (bs.take k ++ List.replicate (bs.length - k) z).length = bs.length := by
  rw [List.length_append, List.length_take, List.length_replicate]; omega
set_option maxHeartbeats 1000000 in
set_option maxRecDepth 100000 in
theorem toVote_any (x : Vot) (w : World) :
    Calls Tryd.prog 35 #[.agg #[.int .i64 x.vw, .int .i64 x.nm, .int .i64 x.sv, .int .i64 x.tg]] w fun e w' => e = .returned (.agg #[.int .i64 x.vw, .int .i64 x.nm, .int .i64 x.sv, .int .i64 x.tg]) ∧ Below w.heap.size w w' := by
  go_enter Tryd.func35, Tryd.ntmps35
  go_wp2
  refine bodyPost_ret (v := .agg #[.int .i64 x.vw, .int .i64 x.nm, .int .i64 x.sv, .int .i64 x.tg]) (by simp [results, Tryd.results35, go_sem]) rfl ⟨rfl, (below2 _ _ _).alloc (by simp; omega) _⟩
/-- What the measure of Votes leaves: a number below 0, or there are few. -/
def SzVos (w : World) (es : List Vot) (e : Ending) (w' : World) : Prop :=
  w' = w ∧ ∃ z : Int, e = .returned (.int .i64 z) ∧ (z = -1 ∨ 0 ≤ z ∧ es.length ≤ 1048576)
set_option maxHeartbeats 1000000 in
set_option maxRecDepth 100000 in
theorem eqVote_same (x : Vot) (w : World) :
    Calls Tryd.prog 34 #[.agg #[.int .i64 x.vw, .int .i64 x.nm, .int .i64 x.sv, .int .i64 x.tg], .agg #[.int .i64 x.vw, .int .i64 x.nm, .int .i64 x.sv, .int .i64 x.tg]] w fun e w' => e = .returned (.bool true) ∧ Below w.heap.size w w' := by
  have h1 : (x.vw != x.vw) = false := by simp
  have h2 : (x.nm != x.nm) = false := by simp
  have h3 : (x.sv != x.sv) = false := by simp
  have h4 : (x.tg != x.tg) = false := by simp
  go_enter Tryd.func34, Tryd.ntmps34
  go_wp2
  go_ret
  exact ⟨rfl, below2 _ _ _⟩
end Go.Proofs.YtbnibnbmdbdibaaDoor
