/- The contract of slices.Concat of rows of numbers. -/
-- UNF Gen
import Derived.Test.YtmfopbkhlekhkaaDoorNumBase
import Derived.Lib.AppendZeros
namespace Go.Proofs.YtmfopbkhlekhkaaDoor
open Go.RowKit
theorem zerosI_size (n : Nat) : (Builtin.zeroCells #[Value.int .i64 0] n).size = n := by simp [Builtin.zeroCells]
set_option maxHeartbeats 400000 in
set_option maxRecDepth 100000 in
theorem growI_any (n : Nat) (w : World) (h0 : 0 < n) (h1 : n ≤ 1000000000) :
    Calls Tryd.prog 75 #[.slice none 0 0, .int .i64 (n : Int)] w fun e w' => ∃ u, e = .returned u ∧ OwnI w' w.heap.size u [] ∧ Below w.heap.size w w' := by
  obtain ⟨i0, hi, hz0, hz1, hz2⟩ := info_parts Tryd.info2
  have hrun := Lib.run_append_nil_zeros (P := Tryd.prog) w 28 3 28 2 i0 (.int .i64 0) .i64 .i64 Tryd.underlying28 Tryd.underlying3 hi hz0 n h0 (by rw [hz1]; decide) (by omega) (by rw [hz2]; omega)
  have hge := grownCap_ge w n 0 2
  have hle := grownCap_le_maxLen w n 0 2 (by unfold maxLen; omega)
  have HB : Hid (Below w.heap.size w (w.drew.alloc (.cells (Builtin.zeroCells #[Value.int .i64 0] n ++ Builtin.zeroCells #[Value.int .i64 0] (grownCap w n 0 2 - n)) 2))) := (Below.refl _ _).drew.alloc (Nat.le_refl _) _
  have HO : Hid (OwnI (w.drew.alloc (.cells (Builtin.zeroCells #[Value.int .i64 0] n ++ Builtin.zeroCells #[Value.int .i64 0] (grownCap w n 0 2 - n)) 2)) w.heap.size (.slice (some ⟨w.heap.size, 0, none⟩) 0 (grownCap w n 0 2)) []) := by
    refine ⟨rfl, .inr ⟨w.heap.size, grownCap w n 0 2, _, rfl, Nat.le_refl _, (show (w.drew.heap.push _)[w.drew.heap.size]? = some _ from Array.getElem?_push_size), Nat.zero_le _, hle, ?_, by simp [IV]⟩⟩
    rw [Array.size_append, zerosI_size, zerosI_size]; omega
  change (Builtin.append_ #[28, 3] 28 #[.slice none 0 0, .int .i64 (n : Int)]).run Tryd.prog w = .ok (.slice (some ⟨w.heap.size, 0, none⟩) n (grownCap w n 0 2)) (w.drew.alloc (.cells (Builtin.zeroCells #[Value.int .i64 0] n ++ Builtin.zeroCells #[Value.int .i64 0] (grownCap w n 0 2 - n)) 2)) at hrun
  generalize grownCap w n 0 2 = cap at hrun hge hle HB HO
  unfold maxLen at hle
  go_enter Tryd.func75, Tryd.ntmps75
  go_wp2_with (at_builtin; refine Lib.wpList_append_run _ rfl _ _ _ _ rfl _ _ rfl rfl _ _ hrun ?_)
  go_ret
  exact ⟨_, rfl, HO.out, HB.out⟩
/-- Some rows of bytes, one behind the other. -/
def catI (ps : List (Value × List Int)) : List Int := ps.flatMap (·.2)
theorem catI_take {ps : List (Value × List Int)} {k : Nat} (h : k < ps.length) : catI (ps.take (k + 1)) = catI (ps.take k) ++ ps[k].2 := by
  unfold catI; rw [List.take_succ_eq_append_getElem h, List.flatMap_append, List.flatMap_singleton]
theorem catI_le (ps : List (Value × List Int)) (k : Nat) : (catI (ps.take k)).length ≤ (catI ps).length := by
  have h : catI ps = catI (ps.take k) ++ catI (ps.drop k) := by unfold catI; rw [← List.flatMap_append, List.take_append_drop]
  rw [h, List.length_append]; omega
set_option maxHeartbeats 1000000 in
set_option maxRecDepth 100000 in
theorem concatI_any (ps : List (Value × List Int)) (b off cap : Nat) (w : World) (hc : ∀ i (h : i < ps.length), w.cell? ⟨b, off + i, none⟩ = some ps[i].1) (ho : ∀ p ∈ ps, RdI w p.1 p.2) (hp : ps.length ≤ cap) (hm : cap ≤ 1000000000) (h0 : 0 < (catI ps).length) (h1 : (catI ps).length ≤ 1000000000) :
    Calls Tryd.prog 60 #[.slice (some ⟨b, off, none⟩) ps.length cap] w fun e w' => ∃ u, e = .returned u ∧ OwnI w' w.heap.size u (catI ps) ∧ Below w.heap.size w w' := by
  have HC : Hid (∀ i (h : i < ps.length), w.cell? ⟨b, off + i, none⟩ = some ps[i].1) := hc
  have HO : Hid (∀ p ∈ ps, RdI w p.1 p.2) := ho
  clear hc ho
  go_enter Tryd.func60, Tryd.ntmps60
  go_wp2
  go_loopw [3, 11] (fun s i wr => ∃ k : Nat, k ≤ ps.length ∧ i = .int .i64 k ∧ s = .int .i64 ((catI (ps.take k)).length : Int) ∧ wr = w) (fun _ i _ => ps.length - (intOf i).toNat)
  case atStart => exact ⟨0, Nat.zero_le _, rfl, rfl, rfl⟩
  case round =>
    obtain ⟨k, hk, rfl, rfl, hwr⟩ := hrel
    obtain rfl := hwr.symm
    by_cases hlt : k < ps.length
    · have hcell := HC.out k hlt
      have hob := HO.out _ (List.getElem_mem hlt)
      obtain ⟨aa, cc, hsh, -⟩ := id hob
      rw [hsh] at hcell
      have HT := congrArg List.length (catI_take hlt)
      rw [List.length_append] at HT
      have hle := catI_le ps (k + 1)
      generalize ps[k].2.length = m at HT hcell
      generalize hq : (catI (ps.take k)).length = q at HT ⊢
      have hlq : (q : Int) + (m : Int) ≤ 1000000000 := by omega
      have HQ : Hid ((q : Int) + (m : Int) = ((catI (ps.take (k + 1))).length : Int)) := by unfold Hid; rw [HT]; omega
      clear HT hle hob hsh hq
      go_wp2
      go_roundw
      case rel => exact ⟨k + 1, by omega, by go_num, by rw [← HQ.out], trivial⟩
      case measure => simp [intOf]; omega
    · have hke : k = ps.length := by omega
      subst hke
      rw [List.take_length]
      go_wp2_with fail
      refine (growI_any _ _ h0 h1).mono ?_
      rintro e w1 ⟨u1, rfl, ho1, hb1⟩
      go_wp2
      go_loopw [6, 27] (fun v i wr => ∃ k : Nat, k ≤ ps.length ∧ i = .int .i64 k ∧ OwnI wr w.heap.size v (catI (ps.take k)) ∧ Below w.heap.size w wr) (fun _ i _ => ps.length - (intOf i).toNat)
      case atStart => exact ⟨0, Nat.zero_le _, rfl, ho1, hb1⟩
      case round =>
        obtain ⟨k, hk, rfl, hov, hbv⟩ := hrel
        clear ho1 hb1
        by_cases hlt : k < ps.length
        · have hcell := (hbv.cell (World.block_lt_of_cell? w _ (HC.out k hlt))).trans (HC.out k hlt)
          have hob := HO.out _ (List.getElem_mem hlt)
          have hob2 := hob.below hbv
          have HT := catI_take hlt
          have hle := catI_le ps (k + 1)
          rw [HT, List.length_append] at hle
          generalize ps[k].1 = u at hcell hob2
          generalize ps[k].2 = zs at HT hob2 hle
          obtain ⟨aa, cc, hsh, -⟩ := id hob2
          subst hsh
          have HT2 : Hid (catI (ps.take (k + 1)) = catI (ps.take k) ++ zs) := HT
          clear hob HT
          generalize catI (ps.take k) = ys at hov hle HT2
          go_wp2_with (at_builtin; (refine wpList_append_ints rfl _ _ rfl w.heap.size _ _ ys zs rfl rfl hov hob2 (by omega) hbv.size ?_))
          intro v5 w5 ho5 hg5
          have b5 : Below w.heap.size w w5 := hbv.grown hg5 hbv.size (fun k hk => (World.ownsRow.lt hov k hk).1)
          rw [← HT2.out] at ho5
          clear hov hob2 hbv hg5 hle
          go_wp2
          go_roundw
          case rel => exact ⟨k + 1, by omega, by go_num, ho5, b5⟩
          case measure => simp [intOf]; omega
        · have hke : k = ps.length := by omega
          subst hke
          rw [List.take_length] at hov
          go_wp2
          go_ret
          exact ⟨_, rfl, hov, hbv⟩
end Go.Proofs.YtmfopbkhlekhkaaDoor
