/- The contracts of the law's own helpers over slices of bytes: two slices with the same bytes are found alike, a slice that is the call's own is marked, and its marks are found again. -/
import Derived.Test.YtnmjkbpoioadmaaBase
import Derived.BigQuiet
namespace Go.Proofs.Ytnmjkbpoioadmaa
open Go.RowKit

theorem grownBy_trans {a b c : World} {row : Option Nat} (h : a.grownBy b row) (k : b.grownBy c row) : a.grownBy c row :=
  ⟨k.os.trans h.os, k.tape.trans h.tape, k.output.trans h.output, Nat.le_trans h.size k.size, fun i hi hr => (k.block i (Nat.lt_of_lt_of_le hi h.size) hr).trans (h.block i hi hr)⟩
theorem grownBy_refl (a : World) (row : Option Nat) : a.grownBy a row := ⟨rfl, rfl, rfl, Nat.le_refl _, fun _ _ _ => rfl⟩

def marks (k n : Nat) : List UInt8 := (List.range n).map fun i => UInt8.ofNat (k + i)
theorem marks_length (k n : Nat) : (marks k n).length = n := by simp [marks]
theorem marks_succ (k n : Nat) : marks k (n + 1) = marks k n ++ [UInt8.ofNat (k + n)] := by simp [marks, List.range_succ]
theorem marks_get (k n i : Nat) (h : i < (marks k n).length) : (marks k n)[i] = UInt8.ofNat (k + i) := by simp [marks]
theorem mark_toNat (k : Nat) : ((UInt8.ofNat k).toNat : Int) = IntKind.u8.wrap (k : Int) := by
  rw [UInt8.toNat_ofNat', IntKind.wrap_u8]; omega
theorem mark_step (k i : Nat) (bs : List UInt8) (h : i < bs.length) : (marks k i ++ bs.drop i).set i (UInt8.ofNat (k + i)) = marks k (i + 1) ++ bs.drop (i + 1) := by
  rw [marks_succ, List.set_append_right _ _ (by rw [marks_length]; omega), marks_length, Nat.sub_self, List.drop_eq_getElem_cons h, List.set_cons_zero]
  simp
theorem BV_set (bs : List UInt8) (i : Nat) (b : UInt8) : BV (bs.set i b) = (BV bs).set i (.int .u8 (b.toNat : Int)) := by simp [BV, List.map_set]

set_option maxHeartbeats 400000 in
set_option maxRecDepth 100000 in
theorem eqBytes_same (va vb : Value) (bs : List UInt8) (w : World) (ha : Rd w va bs) (hb : Rd w vb bs) :
    Calls Try.prog 30 #[va, vb] w fun e w' => e = .returned (.bool true) ∧ ∃ q, w' = w.drewN q := by
  obtain ⟨aa, ca, rfl, hla, hma, hA⟩ := ha
  obtain ⟨ab, cb, rfl, hlb, hmb, hB⟩ := hb
  unfold maxLen at hma hmb
  have hne : ((bs.length : Int) != (bs.length : Int)) = false := by simp
  rcases hA with rfl | ⟨ba, offa, rfl, hA⟩
  · go_enter Try.func30, Try.ntmps30
    go_wp2
    refine wp_loop_rounds 1 ?_
    rw [rounds_succ]
    go_wp2
    go_ret
    exact ⟨rfl, 0, rfl⟩
  · rcases hB with rfl | ⟨bb, offb, rfl, hB⟩
    · go_enter Try.func30, Try.ntmps30
      go_wp2
      refine wp_loop_rounds 1 ?_
      rw [rounds_succ]
      go_wp2
      go_ret
      exact ⟨rfl, 0, rfl⟩
    · go_enter Try.func30, Try.ntmps30
      go_wp2
      go_loopw [5] (fun i wr => ∃ k : Nat, k ≤ bs.length ∧ i = .int .i64 k ∧ ∃ q, wr = w.drewN q) (fun i _ => bs.length - (intOf i).toNat)
      case atStart => exact ⟨0, Nat.zero_le _, rfl, 0, rfl⟩
      case round =>
        obtain ⟨k, hk, rfl, q, rfl⟩ := hrel
        by_cases hlt : k < bs.length
        · have h1 := hA k hlt
          have h2 := hB k hlt
          clear hA hB
          go_wp2
          go_quiet (fail)
          go_wp2
          go_roundw
          case rel => exact ⟨k + 1, by omega, by go_num, _, rfl⟩
          case measure => simp [intOf]; omega
        · go_wp2
          go_ret
          exact ⟨rfl, q, rfl⟩

set_option maxHeartbeats 400000 in
set_option maxRecDepth 100000 in
theorem mark_any (v : Value) (bs : List UInt8) (base k : Nat) (w : World) (hk : k + bs.length ≤ 1099511627776) (hown : Own w base v bs) :
    Calls Try.prog 33 #[v, .int .i64 k] w fun e w' => e = .returned (.int .i64 ((k + bs.length : Nat) : Int)) ∧ Own w' base v (marks k bs.length) ∧ w.grownBy w' v.ownBlock := by
  obtain ⟨g, cap, hv⟩ | ⟨hv, h0⟩ : (∃ g cap, v = .slice (some ⟨g, 0, none⟩) bs.length cap) ∨ (v = .slice none 0 0 ∧ bs = []) := by
    rcases hown.2 with ⟨rfl, h0⟩ | ⟨g, cap, cur, rfl, _⟩
    · exact .inr ⟨rfl, List.length_eq_zero_iff.1 h0⟩
    · exact .inl ⟨g, cap, rfl⟩
  · subst hv
    go_enter Try.func33, Try.ntmps33
    go_wp2
    go_loopw [1, 5] (fun kk i wr => ∃ j : Nat, j ≤ bs.length ∧ i = .int .i64 j ∧ kk = .int .i64 ((k : Int) + (j : Int)) ∧ Own wr base (.slice (some ⟨g, 0, none⟩) bs.length cap) (marks k j ++ bs.drop j) ∧ w.grownBy wr (some g)) (fun _ i _ => bs.length - (intOf i).toNat)
    case atStart => exact ⟨0, Nat.zero_le _, rfl, by simp, by simpa [marks] using hown, grownBy_refl _ _⟩
    case round =>
      obtain ⟨j, hj, rfl, rfl, ho, hg⟩ := hrel
      have hlen : (marks k j ++ bs.drop j).length = bs.length := by simp [marks_length]; omega
      have ho' : wr.ownsRow base 5 1 (.slice (some ⟨g, 0, none⟩) bs.length cap) bs.length (BV (marks k j ++ bs.drop j)) := by have h := ho; unfold Own at h; rwa [hlen] at h
      by_cases hlt : j < bs.length
      · have hc := (ho'.cellAt j (by omega)).trans (BV_get _ j (by omega))
        have hf := ho'.frozenAt j
        have R1 : Own (wr.setCell ⟨g, j, none⟩ (.int .u8 (IntKind.u8.wrap ((k : Int) + (j : Int))))) base (.slice (some ⟨g, 0, none⟩) bs.length cap) (marks k (j + 1) ++ bs.drop (j + 1)) := by
          have h := (ho'.stored j (.int .u8 (IntKind.u8.wrap ((k : Int) + (j : Int))))).1
          have e := mark_toNat (k + j)
          rw [Int.natCast_add] at e
          rw [← e, ← BV_set, mark_step k j bs hlt] at h
          have hl : (marks k (j + 1) ++ bs.drop (j + 1)).length = bs.length := by simp [marks_length]; omega
          unfold Own
          rw [hl, ← e]
          exact h
        have R2 := grownBy_trans hg (ho'.stored j (.int .u8 (IntKind.u8.wrap ((k : Int) + (j : Int))))).2
        clear ho ho' hg
        go_wp2
        go_roundw
        case rel => exact ⟨j + 1, by omega, by go_num, by go_num, R1, R2⟩
        case measure => simp [intOf]; omega
      · have hje : j = bs.length := by omega
        subst hje
        go_wp2
        go_ret
        exact ⟨by simp, by simpa using ho, hg⟩
  · subst hv
    subst h0
    go_enter Try.func33, Try.ntmps33
    go_wp2
    refine wp_loop_rounds 1 ?_
    rw [rounds_succ]
    go_wp2
    go_ret
    exact ⟨rfl, hown, grownBy_refl _ _⟩

set_option maxHeartbeats 400000 in
set_option maxRecDepth 100000 in
theorem held_any (v : Value) (n k : Nat) (w : World) (hk : k + n ≤ 1099511627776) (hr : Rd w v (marks k n)) :
    Calls Try.prog 34 #[v, .int .i64 k] w fun e w' => e = .returned (.int .i64 ((k + n : Nat) : Int)) ∧ w' = w := by
  obtain ⟨a, cap, hv, hl, hm, hA⟩ := hr
  rw [marks_length] at hv hl
  subst hv
  by_cases h0 : n = 0
  · subst h0
    go_enter Try.func34, Try.ntmps34
    go_wp2
    refine wp_loop_rounds 1 ?_
    rw [rounds_succ]
    go_wp2
    go_ret
    exact ⟨rfl, rfl⟩
  · obtain ⟨b, off, rfl, hc⟩ : ∃ b off, a = some ⟨b, off, none⟩ ∧ ∀ i, i < n → w.cell? ⟨b, off + i, none⟩ = some (.int .u8 (IntKind.u8.wrap ((k : Int) + (i : Int)))) := by
      rcases hA with h | ⟨b, off, ha, hc⟩
      · have := congrArg List.length h; rw [marks_length] at this; exact absurd this h0
      · refine ⟨b, off, ha, fun i hi => ?_⟩
        have h := hc i (by rw [marks_length]; exact hi)
        rw [marks_get, mark_toNat, Int.natCast_add] at h
        exact h
    clear hA
    go_enter Try.func34, Try.ntmps34
    go_wp2
    go_loop [1, 5] (fun kk i => ∃ j : Nat, j ≤ n ∧ i = .int .i64 j ∧ kk = .int .i64 ((k : Int) + (j : Int))) (fun _ i => n - (intOf i).toNat)
    case atStart => exact ⟨0, Nat.zero_le _, rfl, by simp⟩
    case round =>
      obtain ⟨j, hj, rfl, rfl⟩ := hrel
      by_cases hlt : j < n
      · have h1 := hc j hlt
        clear hc
        go_wp2
        go_round
        case rel => exact ⟨j + 1, by omega, by go_num, by go_num⟩
        case measure => simp [intOf]; omega
      · have hje : j = n := by omega
        subst hje
        go_wp2
        go_ret
        exact ⟨by simp, rfl⟩
theorem mark_one (v : Value) (bs : List UInt8) (base : Nat) (w : World) (hk : bs.length ≤ 1073741824) (hown : Own w base v bs) :
    Calls Try.prog 33 #[v, .int .i64 1] w fun e w' => e = .returned (.int .i64 (1 + (bs.length : Int))) ∧ Own w' base v (marks 1 bs.length) ∧ w.grownBy w' v.ownBlock := by
  have h := mark_any v bs base 1 w (by omega) hown
  rw [Int.natCast_add] at h
  exact h
theorem held_one (v : Value) (n : Nat) (w : World) (hk : n ≤ 1073741824) (hr : Rd w v (marks 1 n)) :
    Calls Try.prog 34 #[v, .int .i64 1] w fun e w' => e = .returned (.int .i64 (1 + (n : Int))) ∧ w' = w := by
  have h := held_any v n 1 w (by omega) hr
  rw [Int.natCast_add] at h
  exact h
/-- Two rows that lie apart: the one of the elder call stays as the younger one is marked. -/
theorem own_other {w w' : World} {B1 B2 : Nat} {v1 v2 : Value} {bs bs2 : List UInt8} (h1 : Own w B1 v1 bs) (hlt : ∀ k, v1.ownBlock = some k → k < B2) (h2 : Own w B2 v2 bs2) (hg : w.grownBy w' v2.ownBlock) : Own w' B1 v1 bs := by
  refine World.ownsRow.kept h1 hg ?_
  cases h : v1.ownBlock with
  | none => exact .inl rfl
  | some k => exact .inr fun e => by have := (World.ownsRow.lt h2 k e.symm).1; have := hlt k h; omega
theorem own_lt {w : World} {B : Nat} {v : Value} {bs : List UInt8} (h : Own w B v bs) : ∀ k, v.ownBlock = some k → k < w.heap.size := fun k hk => (World.ownsRow.lt h k hk).2
theorem below_marked {a w w' : World} {B B2 : Nat} {v2 : Value} {bs2 : List UInt8} (hb : Below B a w) (h2 : Own w B2 v2 bs2) (hB : B ≤ B2) (hg : w.grownBy w' v2.ownBlock) (hs : B ≤ w.heap.size) : Below B a w' :=
  hb.grown hg hs (fun k hk => by have := (World.ownsRow.lt h2 k hk).1; omega)
end Go.Proofs.Ytnmjkbpoioadmaa
