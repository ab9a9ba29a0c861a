/- The contracts of the laws' look at two lists of Leafs, and of the draw of what Set is asked. -/
-- UNF Gen
import Derived.Test.YtmfopbkhlekhkaaDoorLefDrw
import Derived.Test.YtmfopbkhlekhkaaDoorLefLik
import Derived.Deep.RegionHeld3
namespace Go.Proofs.YtmfopbkhlekhkaaDoor
open Go.RowKit
set_option maxHeartbeats 1000000 in
set_option maxRecDepth 100000 in
theorem likeLefs_same (va vb : Value) (es : List Lef) (w : World) (ha : RdL w va es) (hb : RdL w vb es) :
    Calls Tryd.prog 14 #[va, vb] w fun e w' => e = .returned (.bool true) ∧ ∃ n, w' = w.drewN n := by
  obtain ⟨aa, ca, hva, hla, hma, _⟩ := id ha
  obtain ⟨ab, cb, hvb, hlb, hmb, _⟩ := id hb
  subst hva
  subst hvb
  unfold maxLen at hma hmb
  have hne : ((es.length : Int) != (es.length : Int)) = false := by simp
  go_enter Tryd.func14, Tryd.ntmps14
  go_wp2
  go_loopw [5] (fun i wr => ∃ k : Nat, k ≤ es.length ∧ i = .int .i64 k ∧ ∃ n, wr = w.drewN n) (fun i _ => es.length - (intOf i).toNat)
  case atStart => exact ⟨0, Nat.zero_le _, rfl, 0, rfl⟩
  case round =>
    obtain ⟨k, hk, rfl, n, rfl⟩ := hrel
    by_cases hlt : k < es.length
    · obtain ⟨b1, o1, rfl, hc1⟩ := (ha.drewN n).at rfl k hlt
      obtain ⟨b2, o2, rfl, hc2⟩ := (hb.drewN n).at rfl k hlt
      obtain ⟨x, hx⟩ : ∃ x, x = nthL es k := ⟨_, rfl⟩
      rw [← hx] at hc1 hc2
      clear hx
      have hg : (x.pl != x.pl) = false := by simp
      have hg2 : (x.va != x.va) = false := by simp
      go_wp2_with fail
      refine wp_region_noPanic ?_
      refine wp_region_held_drew (S := fun w' => (w'.cell? ⟨b1, o1 + k * 2, none⟩ = some (.int .i64 x.pl) ∧ w'.cell? ⟨b1, o1 + k * 2 + 1, none⟩ = some (.int .i64 x.va)) ∧ (w'.cell? ⟨b2, o2 + k * 2, none⟩ = some (.int .i64 x.pl) ∧ w'.cell? ⟨b2, o2 + k * 2 + 1, none⟩ = some (.int .i64 x.va))) (by kernel_rfl) ⟨hc1, hc2⟩ (fun hH => ?_)
      refine tkG 0 17 hH ?_
      try simp only [Act.put, List.setIfInBounds_toArray, List.set_cons_zero, List.set_cons_succ]
      refine tkG 1 18 hH ?_
      try simp only [Act.put, List.setIfInBounds_toArray, List.set_cons_zero, List.set_cons_succ]
      refine tkG 2 19 hH ?_
      try simp only [Act.put, List.setIfInBounds_toArray, List.set_cons_zero, List.set_cons_succ]
      refine tkG 3 20 hH ?_
      try simp only [Act.put, List.setIfInBounds_toArray, List.set_cons_zero, List.set_cons_succ]
      refine tkG 4 21 hH ?_
      try simp only [Act.put, List.setIfInBounds_toArray, List.set_cons_zero, List.set_cons_succ]
      refine tkG 5 22 hH ?_
      try simp only [Act.put, List.setIfInBounds_toArray, List.set_cons_zero, List.set_cons_succ]
      refine tkG 6 23 hH ?_
      try simp only [Act.put, List.setIfInBounds_toArray, List.set_cons_zero, List.set_cons_succ]
      refine tkG 7 24 hH ?_
      try simp only [Act.put, List.setIfInBounds_toArray, List.set_cons_zero, List.set_cons_succ]
      refine tkG 8 25 hH ?_
      try simp only [Act.put, List.setIfInBounds_toArray, List.set_cons_zero, List.set_cons_succ]
      refine wpAnyH_done (by kernel_rfl) ?_ _
      refine NoPanic.normal ?_
      go_wp2
      go_roundw
      case rel => exact ⟨k + 1, by omega, by go_num, n + 1, rfl⟩
      case measure => simp [intOf]; omega
    · go_wp2
      go_ret
      exact ⟨rfl, n, rfl⟩
theorem likeLZ (va vb : Value) (es : List Lef) (w : World) (ha : RdL w va es) (hb : RdL w vb es) :
    Calls Tryd.prog 14 #[va, vb] w fun e w' => e = .returned (.bool true) ∧ Below w.heap.size w w' :=
  (likeLefs_same va vb es w ha hb).mono fun e w' ⟨a, q, b⟩ => ⟨a, by rw [b]; exact below_drewN (Below.refl _ _) q⟩
/-- What the draw of what Set is asked leaves. -/
def SetD (w : World) (e : Ending) (w' : World) : Prop := ∃ (u : Value) (es : List Lef) (p v : Int), e = .returned (.tuple #[u, .int .i64 p, .int .i64 v]) ∧ RdL w' u es ∧ es.length ≤ 257 ∧ I64 p ∧ I64 v ∧ Below w.heap.size w w'
set_option maxHeartbeats 4000000 in
set_option maxRecDepth 100000 in
theorem drawSet_any (v : Value) (bs : List UInt8) (w : World) (hr : Rd w v bs) (hb : bs.length ≤ 4096) :
    Calls Tryd.prog 8 #[v] w fun e w' => SetD w e w' := by
  go_enter Tryd.func8, Tryd.ntmps8
  go_wp2_with fail
  refine (l1New_any v bs _ hr hb).mono ?_
  rintro e w1 ⟨g, rfl, hc⟩
  have hgl := hc.lt
  go_wp2_with fail
  refine (l12Draw_any w _ g hc).mono ?_
  rintro e w2 ⟨u, es, rfl, ho, hl, K⟩
  clear hc hr
  go_wp2_with fail
  refine (l12DrawAt_any w _ g K.1).mono ?_
  rintro e w3 ⟨p, rfl, hp, K1⟩
  replace ho := ownL_g ho K1.2.1 hgl
  replace K := K.own K1.1 K1.2.1
  clear K1
  go_wp2_with fail
  refine (l12DrawValue_any w _ g K.1).mono ?_
  rintro e w4 ⟨q, rfl, hq, K1⟩
  replace ho := ownL_g ho K1.2.1 hgl
  have HE : SetD w (.returned (.tuple #[u, .int .i64 p, .int .i64 q])) w4 := ⟨u, es, p, q, rfl, ho.rd, hl, hp, hq, K1.1.bel⟩
  clear ho K K1
  go_wp2
  refine bodyPost_ret ?_ rfl HE
  simp [results, Tryd.results8, go_sem]
end Go.Proofs.YtmfopbkhlekhkaaDoor
