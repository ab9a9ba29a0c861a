/- The contracts of the model's Put. -/
import Derived.Test.YtbefmbjlogkmbaaGreatG04
import Derived.Deep.RegionHeld3
namespace Go.Proofs.YtbefmbjlogkmbaaGreat
set_option maxHeartbeats 16000000
set_option maxRecDepth 100000
open Go.RowKit
theorem nth_take {es : List Ent} {k i : Nat} (h : i < k) (h2 : i < es.length) : nth (es.take k) i = nth es i := by
  rw [nth_eq (by rw [List.length_take]; omega), nth_eq h2, List.getElem_take]
theorem nth_drop {es : List Ent} {k i : Nat} (h : k + i < es.length) : nth (es.drop k) i = nth es (k + i) := by
  rw [nth_eq (by rw [List.length_drop]; omega), nth_eq h, List.getElem_drop]
theorem rdE_drop {w : World} {b off n cap k : Nat} {es : List Ent} (h : RdE w (.slice (some ⟨b, off, none⟩) n cap) es) (hk : k ≤ es.length) : RdE w (.slice (some ⟨b, off + k * 4, none⟩) (es.length - k) (cap - k)) (es.drop k) := by
  obtain ⟨a', cap', hv, h1, h2, h0, h3⟩ := h
  simp only [Value.slice.injEq] at hv
  obtain ⟨rfl, _, rfl⟩ := hv
  have hl : (es.drop k).length = es.length - k := List.length_drop
  refine ⟨_, _, by rw [hl], by omega, by omega, (fun h => by cases h), ?_⟩
  rcases h3 with rfl | ⟨b', off', ha, hc⟩
  · exact .inl (by simp)
  · cases ha
    refine .inr ⟨b, off + k * 4, rfl, fun i hi => ?_⟩
    rw [nth_drop (by omega), show off + k * 4 + i * 4 = off + (k + i) * 4 by omega]
    exact hc (k + i) (by omega)
theorem rdE_none {w : World} {ad : Option Addr} {cap : Nat} {es : List Ent} (h0 : ad = none → cap = 0) (hm : cap ≤ maxLen) (he : es = []) : RdE w (.slice ad 0 cap) es := by
  subst he; exact ⟨ad, cap, rfl, Nat.zero_le _, hm, h0, .inl rfl⟩
theorem rdE_cut {w : World} {b off n cap k : Nat} {es : List Ent} (h : RdE w (.slice (some ⟨b, off, none⟩) n cap) es) (hk : k ≤ es.length) : RdE w (.slice (if cap = k then some ⟨b, off, none⟩ else some ⟨b, off + k * 4, none⟩) (es.length - k) (cap - k)) (es.drop k) := by
  split
  · rename_i hck
    obtain ⟨a', cap', hv, h1, h2, h0, h3⟩ := h
    simp only [Value.slice.injEq] at hv
    obtain ⟨_, _, rfl⟩ := hv
    have hl : es.length - k = 0 := by omega
    rw [hl]
    exact rdE_none (fun h => by cases h) (by omega) (List.drop_eq_nil_of_le (by omega))
  · exact rdE_drop h hk
end Go.Proofs.YtbefmbjlogkmbaaGreat
