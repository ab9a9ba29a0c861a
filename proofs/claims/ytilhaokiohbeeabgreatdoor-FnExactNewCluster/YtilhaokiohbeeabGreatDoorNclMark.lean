/- Marks in rows of Replicas without lists, and finding them again. -/
-- UNF Gen
import Derived.Test.YtilhaokiohbeeabGreatDoorNclCp
namespace Go.Proofs.YtilhaokiohbeeabGreatDoor
open Go.RowKit
def ncmk (k : Nat) : Ncr := ⟨(k : Int), (k : Int) + 1, (k : Int) + 2, (k : Int) + 3, (k : Int) + 4, (k : Int) + 5, (k : Int) + 6, (k : Int) + 7⟩
def ncmarks (k n : Nat) : List Ncr := (List.range n).map fun i => ncmk (k + 8 * i)
theorem ncmarks_length (k n : Nat) : (ncmarks k n).length = n := by simp [ncmarks]
theorem ncmarks_succ (k n : Nat) : ncmarks k (n + 1) = ncmarks k n ++ [ncmk (k + 8 * n)] := by simp [ncmarks, List.range_succ]
theorem ncmarks_nth (k n i : Nat) (h : i < n) : nthNc (ncmarks k n) i = ncmk (k + 8 * i) := by
  rw [nthNc_eq (by rw [ncmarks_length]; exact h)]; simp [ncmarks]
theorem ncmark_step (k i : Nat) (bs : List Ncr) (h : i < bs.length) : (ncmarks k i ++ bs.drop i).set i (ncmk (k + 8 * i)) = ncmarks k (i + 1) ++ bs.drop (i + 1) := by
  rw [ncmarks_succ, List.set_append_right _ _ (by rw [ncmarks_length]; omega), ncmarks_length, Nat.sub_self, List.drop_eq_getElem_cons h, List.set_cons_zero]
  simp
theorem ncgrown_set {w w1 : World} {g : Nat} {u : Value} {j : Nat} (hg : w.grownBy w1 (some g)) : w.grownBy (w1.setCell ⟨g, j, none⟩ u) (some g) :=
  ⟨hg.os, hg.tape, hg.output, by simpa using hg.size, fun k hk hn => (heap_setCell_other w1 ⟨g, j, none⟩ k u (fun e => hn (by simp [e]))).trans (hg.block k hk hn)⟩
theorem ncgrown_one (a : World) (row : Option Nat) : a.grownBy a row := ⟨rfl, rfl, rfl, Nat.le_refl _, fun _ _ _ => rfl⟩
set_option maxHeartbeats 8000000 in
set_option maxRecDepth 100000 in
theorem markReplicasN_any (v : Value) (bs : List Ncr) (base k : Nat) (w : World) (hk : k + 8 * bs.length ≤ 1073741824) (hown : OwnNc w base v bs) :
    Calls Tryz.prog 37 #[v, .int .i64 k] w fun e w' => e = .returned (.int .i64 ((k + 8 * bs.length : Nat) : Int)) ∧ OwnNc w' base v (ncmarks k bs.length) ∧ w.grownBy w' v.ownBlock := by
  obtain ⟨g, cap, hv⟩ | ⟨hv, h0⟩ : (∃ g cap, v = .slice (some ⟨g, 0, none⟩) bs.length cap) ∨ (v = .slice none 0 0 ∧ bs = []) := by
    rcases hown.2 with ⟨rfl, h0⟩ | ⟨g, cap, cur, rfl, _⟩
    · exact .inr ⟨rfl, List.length_eq_zero_iff.1 h0⟩
    · exact .inl ⟨g, cap, rfl⟩
  · subst hv
    go_enter Tryz.func37, Tryz.ntmps37
    go_wp2
    go_loopw [1, 5] (fun kk i wr => ∃ j : Nat, j ≤ bs.length ∧ i = .int .i64 j ∧ kk = .int .i64 ((k : Int) + 8 * (j : Int)) ∧ OwnNc wr base (.slice (some ⟨g, 0, none⟩) bs.length cap) (ncmarks k j ++ bs.drop j) ∧ w.grownBy wr (some g)) (fun _ i _ => bs.length - (intOf i).toNat)
    case atStart => exact ⟨0, Nat.zero_le _, rfl, by simp, by simpa [ncmarks] using hown, ncgrown_one _ _⟩
    case round =>
      obtain ⟨j, hj, rfl, rfl, ho, hg⟩ := hrel
      have hlen : (ncmarks k j ++ bs.drop j).length = bs.length := by simp [ncmarks_length]; omega
      by_cases hlt : j < bs.length
      · have ho1 : wr.ownsRow base 81 14 (.slice (some ⟨g, 0, none⟩) bs.length cap) bs.length (NcV (ncmarks k j ++ bs.drop j)) := by have h := ho; unfold OwnNc at h; rwa [hlen] at h
        obtain ⟨d0, d1, d2, d3, d4, d5, d6, d7, d8, d9, d10, d11, d12, d13⟩ := ownNc_cell ho1 hlen.symm j hlt
        have f0 := ho1.frozenAt (j * 14)
        have f1 := ho1.frozenAt (j * 14 + 1)
        have f2 := ho1.frozenAt (j * 14 + 2)
        have f3 := ho1.frozenAt (j * 14 + 3)
        have f4 := ho1.frozenAt (j * 14 + 4)
        have f5 := ho1.frozenAt (j * 14 + 5)
        have f6 := ho1.frozenAt (j * 14 + 6)
        have f7 := ho1.frozenAt (j * 14 + 7)
        have R1 := ownNc_store2 ho1 (k := j) (by omega) (ncmk (k + 8 * j))
        rw [ncmark_step k j bs hlt] at R1
        have R2 : World.ownsRow ((((((((wr.setCell ⟨g, j * 14, none⟩ (.int .i64 ((k : Int) + 8 * (j : Int)))).setCell ⟨g, j * 14 + 1, none⟩ (.int .i64 ((k : Int) + 8 * (j : Int) + 1))).setCell ⟨g, j * 14 + 2, none⟩ (.int .i64 ((k : Int) + 8 * (j : Int) + 2))).setCell ⟨g, j * 14 + 3, none⟩ (.int .i64 ((k : Int) + 8 * (j : Int) + 3))).setCell ⟨g, j * 14 + 4, none⟩ (.int .i64 ((k : Int) + 8 * (j : Int) + 4))).setCell ⟨g, j * 14 + 5, none⟩ (.int .i64 ((k : Int) + 8 * (j : Int) + 5))).setCell ⟨g, j * 14 + 6, none⟩ (.int .i64 ((k : Int) + 8 * (j : Int) + 6))).setCell ⟨g, j * 14 + 7, none⟩ (.int .i64 ((k : Int) + 8 * (j : Int) + 7))) base 81 14 (.slice (some ⟨g, 0, none⟩) bs.length cap) bs.length (NcV (ncmarks k (j + 1) ++ bs.drop (j + 1))) := by
          have e : ((k + 8 * j : Nat) : Int) = (k : Int) + 8 * (j : Int) := by omega
          have h := R1
          simp only [ncmk] at h
          rw [e] at h
          exact h
        have hl5 : (ncmarks k (j + 1) ++ bs.drop (j + 1)).length = bs.length := by simp [ncmarks_length]; omega
        obtain ⟨-, -, -, -, -, -, -, -, q0, q1, q2, q3, q4, q5⟩ := ownNc_cell R2 hl5.symm j hlt
        have G2 : w.grownBy ((((((((wr.setCell ⟨g, j * 14, none⟩ (.int .i64 ((k : Int) + 8 * (j : Int)))).setCell ⟨g, j * 14 + 1, none⟩ (.int .i64 ((k : Int) + 8 * (j : Int) + 1))).setCell ⟨g, j * 14 + 2, none⟩ (.int .i64 ((k : Int) + 8 * (j : Int) + 2))).setCell ⟨g, j * 14 + 3, none⟩ (.int .i64 ((k : Int) + 8 * (j : Int) + 3))).setCell ⟨g, j * 14 + 4, none⟩ (.int .i64 ((k : Int) + 8 * (j : Int) + 4))).setCell ⟨g, j * 14 + 5, none⟩ (.int .i64 ((k : Int) + 8 * (j : Int) + 5))).setCell ⟨g, j * 14 + 6, none⟩ (.int .i64 ((k : Int) + 8 * (j : Int) + 6))).setCell ⟨g, j * 14 + 7, none⟩ (.int .i64 ((k : Int) + 8 * (j : Int) + 7))) (some g) := (ncgrown_set (ncgrown_set (ncgrown_set (ncgrown_set (ncgrown_set (ncgrown_set (ncgrown_set (ncgrown_set hg))))))))
        have HR : Hid (World.ownsRow ((((((((wr.setCell ⟨g, j * 14, none⟩ (.int .i64 ((k : Int) + 8 * (j : Int)))).setCell ⟨g, j * 14 + 1, none⟩ (.int .i64 ((k : Int) + 8 * (j : Int) + 1))).setCell ⟨g, j * 14 + 2, none⟩ (.int .i64 ((k : Int) + 8 * (j : Int) + 2))).setCell ⟨g, j * 14 + 3, none⟩ (.int .i64 ((k : Int) + 8 * (j : Int) + 3))).setCell ⟨g, j * 14 + 4, none⟩ (.int .i64 ((k : Int) + 8 * (j : Int) + 4))).setCell ⟨g, j * 14 + 5, none⟩ (.int .i64 ((k : Int) + 8 * (j : Int) + 5))).setCell ⟨g, j * 14 + 6, none⟩ (.int .i64 ((k : Int) + 8 * (j : Int) + 6))).setCell ⟨g, j * 14 + 7, none⟩ (.int .i64 ((k : Int) + 8 * (j : Int) + 7))) base 81 14 (.slice (some ⟨g, 0, none⟩) bs.length cap) bs.length (NcV (ncmarks k (j + 1) ++ bs.drop (j + 1))) ∧ w.grownBy ((((((((wr.setCell ⟨g, j * 14, none⟩ (.int .i64 ((k : Int) + 8 * (j : Int)))).setCell ⟨g, j * 14 + 1, none⟩ (.int .i64 ((k : Int) + 8 * (j : Int) + 1))).setCell ⟨g, j * 14 + 2, none⟩ (.int .i64 ((k : Int) + 8 * (j : Int) + 2))).setCell ⟨g, j * 14 + 3, none⟩ (.int .i64 ((k : Int) + 8 * (j : Int) + 3))).setCell ⟨g, j * 14 + 4, none⟩ (.int .i64 ((k : Int) + 8 * (j : Int) + 4))).setCell ⟨g, j * 14 + 5, none⟩ (.int .i64 ((k : Int) + 8 * (j : Int) + 5))).setCell ⟨g, j * 14 + 6, none⟩ (.int .i64 ((k : Int) + 8 * (j : Int) + 6))).setCell ⟨g, j * 14 + 7, none⟩ (.int .i64 ((k : Int) + 8 * (j : Int) + 7))) (some g)) := ⟨R2, G2⟩
        have e1 : IntKind.i64.wrap ((k : Int) + 8 * (j : Int) + 1) = (k : Int) + 8 * (j : Int) + 1 := by rw [IntKind.wrap_i64]; omega
        have e2 : IntKind.i64.wrap ((k : Int) + 8 * (j : Int) + 2) = (k : Int) + 8 * (j : Int) + 2 := by rw [IntKind.wrap_i64]; omega
        have e3 : IntKind.i64.wrap ((k : Int) + 8 * (j : Int) + 3) = (k : Int) + 8 * (j : Int) + 3 := by rw [IntKind.wrap_i64]; omega
        have e4 : IntKind.i64.wrap ((k : Int) + 8 * (j : Int) + 4) = (k : Int) + 8 * (j : Int) + 4 := by rw [IntKind.wrap_i64]; omega
        have e5 : IntKind.i64.wrap ((k : Int) + 8 * (j : Int) + 5) = (k : Int) + 8 * (j : Int) + 5 := by rw [IntKind.wrap_i64]; omega
        have e6 : IntKind.i64.wrap ((k : Int) + 8 * (j : Int) + 6) = (k : Int) + 8 * (j : Int) + 6 := by rw [IntKind.wrap_i64]; omega
        have e7 : IntKind.i64.wrap ((k : Int) + 8 * (j : Int) + 7) = (k : Int) + 8 * (j : Int) + 7 := by rw [IntKind.wrap_i64]; omega
        have e8 : IntKind.i64.wrap ((k : Int) + 8 * (j : Int) + 8) = (k : Int) + 8 * (j : Int) + 8 := by rw [IntKind.wrap_i64]; omega
        have v1 : (k : Int) + 8 * (j : Int) + 1 + 1 = (k : Int) + 8 * (j : Int) + 2 := by omega
        have v2 : (k : Int) + 8 * (j : Int) + 2 + 1 = (k : Int) + 8 * (j : Int) + 3 := by omega
        have v3 : (k : Int) + 8 * (j : Int) + 3 + 1 = (k : Int) + 8 * (j : Int) + 4 := by omega
        have v4 : (k : Int) + 8 * (j : Int) + 4 + 1 = (k : Int) + 8 * (j : Int) + 5 := by omega
        have v5 : (k : Int) + 8 * (j : Int) + 5 + 1 = (k : Int) + 8 * (j : Int) + 6 := by omega
        have v6 : (k : Int) + 8 * (j : Int) + 6 + 1 = (k : Int) + 8 * (j : Int) + 7 := by omega
        have v7 : (k : Int) + 8 * (j : Int) + 7 + 1 = (k : Int) + 8 * (j : Int) + 8 := by omega
        clear ho ho1 R1 R2 G2 hg
        go_wp2_with fail
        generalize ((((((((wr.setCell ⟨g, j * 14, none⟩ (.int .i64 ((k : Int) + 8 * (j : Int)))).setCell ⟨g, j * 14 + 1, none⟩ (.int .i64 ((k : Int) + 8 * (j : Int) + 1))).setCell ⟨g, j * 14 + 2, none⟩ (.int .i64 ((k : Int) + 8 * (j : Int) + 2))).setCell ⟨g, j * 14 + 3, none⟩ (.int .i64 ((k : Int) + 8 * (j : Int) + 3))).setCell ⟨g, j * 14 + 4, none⟩ (.int .i64 ((k : Int) + 8 * (j : Int) + 4))).setCell ⟨g, j * 14 + 5, none⟩ (.int .i64 ((k : Int) + 8 * (j : Int) + 5))).setCell ⟨g, j * 14 + 6, none⟩ (.int .i64 ((k : Int) + 8 * (j : Int) + 6))).setCell ⟨g, j * 14 + 7, none⟩ (.int .i64 ((k : Int) + 8 * (j : Int) + 7))) = wz at q0 q1 q2 q3 q4 q5 HR ⊢
        clear d0 d1 d2 d3 d4 d5 d6 d7 d8 d9 d10 d11 d12 d13 f0 f1 f2 f3 f4 f5 f6 f7
        refine (markInt64S_nil _ _).mono ?_
        rintro e w2 ⟨rfl, hw⟩
        subst hw
        go_wp2_with fail
        refine (markInt64S_nil _ _).mono ?_
        rintro e w2 ⟨rfl, hw⟩
        subst hw
        go_wp2_with fail
        refine (markBlockS_nil _ _).mono ?_
        rintro e w2 ⟨rfl, hw⟩
        subst hw
        go_wp2_with fail
        refine (markVoteS_nil _ _).mono ?_
        rintro e w2 ⟨rfl, hw⟩
        subst hw
        go_wp2_with fail
        refine (markNewsS_nil _ _).mono ?_
        rintro e w2 ⟨rfl, hw⟩
        subst hw
        go_wp2_with fail
        refine (markInt64S_nil _ _).mono ?_
        rintro e w2 ⟨rfl, hw⟩
        subst hw
        go_wp2
        go_roundw
        case rel => exact ⟨j + 1, by omega, by go_num, by go_num, by unfold OwnNc; rw [hl5]; exact HR.out.1, HR.out.2⟩
        case measure => simp [intOf]; omega
      · have hje : j = bs.length := by omega
        subst hje
        go_wp2
        go_ret
        exact ⟨ret_intE (by omega), by simpa using ho, hg⟩
  · subst hv
    subst h0
    go_enter Tryz.func37, Tryz.ntmps37
    go_wp2
    refine wp_loop_rounds 1 ?_
    rw [rounds_succ]
    go_wp2
    go_ret
    exact ⟨rfl, hown, ncgrown_one _ _⟩
set_option maxHeartbeats 8000000 in
set_option maxRecDepth 100000 in
theorem heldReplicasN_any (v : Value) (n k : Nat) (w : World) (hk : k + 8 * n ≤ 1073741824) (hr : RdNc w v (ncmarks k n)) :
    Calls Tryz.prog 39 #[v, .int .i64 k] w fun e w' => e = .returned (.int .i64 ((k + 8 * n : Nat) : Int)) ∧ w' = w := by
  obtain ⟨a, cap, hv, hl, hm, _⟩ := id hr
  rw [ncmarks_length] at hv hl
  unfold maxLen at hm
  subst hv
  go_enter Tryz.func39, Tryz.ntmps39
  go_wp2
  go_loopw [1, 5] (fun kk i wr => ∃ j : Nat, j ≤ n ∧ i = .int .i64 j ∧ kk = .int .i64 ((k : Int) + 8 * (j : Int)) ∧ wr = w) (fun _ i _ => n - (intOf i).toNat)
  case atStart => exact ⟨0, Nat.zero_le _, rfl, by simp, rfl⟩
  case round =>
    obtain ⟨j, hj, rfl, rfl, rfl⟩ := hrel
    by_cases hlt : j < n
    · obtain ⟨b, off, rfl, hc⟩ := hr.at (ncmarks_length k n).symm j (by rw [ncmarks_length]; exact hlt)
      rw [ncmarks_nth k n j hlt] at hc
      obtain ⟨c0, c1, c2, c3, c4, c5, c6, c7, q0, q1, q2, q3, q4, q5⟩ := hc
      change _ = some (Value.int .i64 ((k + 8 * j : Nat) : Int)) at c0
      change _ = some (Value.int .i64 (((k + 8 * j : Nat) : Int) + 1)) at c1
      change _ = some (Value.int .i64 (((k + 8 * j : Nat) : Int) + 2)) at c2
      change _ = some (Value.int .i64 (((k + 8 * j : Nat) : Int) + 3)) at c3
      change _ = some (Value.int .i64 (((k + 8 * j : Nat) : Int) + 4)) at c4
      change _ = some (Value.int .i64 (((k + 8 * j : Nat) : Int) + 5)) at c5
      change _ = some (Value.int .i64 (((k + 8 * j : Nat) : Int) + 6)) at c6
      change _ = some (Value.int .i64 (((k + 8 * j : Nat) : Int) + 7)) at c7
      rw [show ((k + 8 * j : Nat) : Int) = (k : Int) + 8 * (j : Int) by omega] at c0 c1 c2 c3 c4 c5 c6 c7
      have hjl : (j : Int) < (n : Int) := by omega
      have e1 : IntKind.i64.wrap ((k : Int) + 8 * (j : Int) + 1) = (k : Int) + 8 * (j : Int) + 1 := by rw [IntKind.wrap_i64]; omega
      have e2 : IntKind.i64.wrap ((k : Int) + 8 * (j : Int) + 2) = (k : Int) + 8 * (j : Int) + 2 := by rw [IntKind.wrap_i64]; omega
      have e3 : IntKind.i64.wrap ((k : Int) + 8 * (j : Int) + 3) = (k : Int) + 8 * (j : Int) + 3 := by rw [IntKind.wrap_i64]; omega
      have e4 : IntKind.i64.wrap ((k : Int) + 8 * (j : Int) + 4) = (k : Int) + 8 * (j : Int) + 4 := by rw [IntKind.wrap_i64]; omega
      have e5 : IntKind.i64.wrap ((k : Int) + 8 * (j : Int) + 5) = (k : Int) + 8 * (j : Int) + 5 := by rw [IntKind.wrap_i64]; omega
      have e6 : IntKind.i64.wrap ((k : Int) + 8 * (j : Int) + 6) = (k : Int) + 8 * (j : Int) + 6 := by rw [IntKind.wrap_i64]; omega
      have e7 : IntKind.i64.wrap ((k : Int) + 8 * (j : Int) + 7) = (k : Int) + 8 * (j : Int) + 7 := by rw [IntKind.wrap_i64]; omega
      have e8 : IntKind.i64.wrap ((k : Int) + 8 * (j : Int) + 8) = (k : Int) + 8 * (j : Int) + 8 := by rw [IntKind.wrap_i64]; omega
      have v1 : (k : Int) + 8 * (j : Int) + 1 + 1 = (k : Int) + 8 * (j : Int) + 2 := by omega
      have v2 : (k : Int) + 8 * (j : Int) + 2 + 1 = (k : Int) + 8 * (j : Int) + 3 := by omega
      have v3 : (k : Int) + 8 * (j : Int) + 3 + 1 = (k : Int) + 8 * (j : Int) + 4 := by omega
      have v4 : (k : Int) + 8 * (j : Int) + 4 + 1 = (k : Int) + 8 * (j : Int) + 5 := by omega
      have v5 : (k : Int) + 8 * (j : Int) + 5 + 1 = (k : Int) + 8 * (j : Int) + 6 := by omega
      have v6 : (k : Int) + 8 * (j : Int) + 6 + 1 = (k : Int) + 8 * (j : Int) + 7 := by omega
      have v7 : (k : Int) + 8 * (j : Int) + 7 + 1 = (k : Int) + 8 * (j : Int) + 8 := by omega
      have m0 : (((k : Int) + 8 * (j : Int)) != ((k : Int) + 8 * (j : Int))) = false := by simp
      have m1 : (((k : Int) + 8 * (j : Int) + 1) != ((k : Int) + 8 * (j : Int) + 1)) = false := by simp
      have m2 : (((k : Int) + 8 * (j : Int) + 2) != ((k : Int) + 8 * (j : Int) + 2)) = false := by simp
      have m3 : (((k : Int) + 8 * (j : Int) + 3) != ((k : Int) + 8 * (j : Int) + 3)) = false := by simp
      have m4 : (((k : Int) + 8 * (j : Int) + 4) != ((k : Int) + 8 * (j : Int) + 4)) = false := by simp
      have m5 : (((k : Int) + 8 * (j : Int) + 5) != ((k : Int) + 8 * (j : Int) + 5)) = false := by simp
      have m6 : (((k : Int) + 8 * (j : Int) + 6) != ((k : Int) + 8 * (j : Int) + 6)) = false := by simp
      have m7 : (((k : Int) + 8 * (j : Int) + 7) != ((k : Int) + 8 * (j : Int) + 7)) = false := by simp
      go_wp2_with fail
      refine (heldInt64S_nil _ _).mono ?_
      rintro e w2 ⟨rfl, hw⟩
      subst hw
      go_wp2_with fail
      refine (heldInt64S_nil _ _).mono ?_
      rintro e w2 ⟨rfl, hw⟩
      subst hw
      go_wp2_with fail
      refine (heldBlockS_nil _ _).mono ?_
      rintro e w2 ⟨rfl, hw⟩
      subst hw
      go_wp2_with fail
      refine (heldVoteS_nil _ _).mono ?_
      rintro e w2 ⟨rfl, hw⟩
      subst hw
      go_wp2_with fail
      refine (heldNewsS_nil _ _).mono ?_
      rintro e w2 ⟨rfl, hw⟩
      subst hw
      go_wp2_with fail
      refine (heldInt64S_nil _ _).mono ?_
      rintro e w2 ⟨rfl, hw⟩
      subst hw
      go_wp2
      go_roundw
      case rel => exact ⟨j + 1, by omega, by go_num, by go_num, by simp⟩
      case measure => simp [intOf]; omega
    · have hje : j = n := by omega
      subst hje
      go_wp2
      go_ret
      exact ⟨ret_intE (by omega), rfl⟩
end Go.Proofs.YtilhaokiohbeeabGreatDoor
