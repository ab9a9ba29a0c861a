/- Plain facts on the number with which some bytes begin. The contract of the model's ReadNumber over any slice of bytes that can be read. The contract of the model's ReadText over any slice of bytes that can be read. The contracts of the laws' own helpers over slices of texts, over MarkText: alike, marked, held. The laws' own comparison of two blocks that are the same. -/
import Derived.Test.YtahihlnhimmgdaaGreatDoorG00
import Derived.Laws.IdiomStrings
import Derived.Laws.BytesArg
import Derived.Test.YtahihlnhimmgdaaGreatDoorG06
import Derived.BigQuiet
import Derived.Deep.RegionWith
import Derived.Test.YtahihlnhimmgdaaGreatDoorG09
namespace Go.Proofs.YtahihlnhimmgdaaGreatDoor
open Go.RowKit
/-- The number that the bytes go on with behind i of them that make n, the next one weighing p; and how many bytes it takes. -/
def rdF : Nat → Nat → Nat → Nat → List UInt8 → Nat × Nat
  | 0, _, _, _, _ => (0, 0)
  | _ + 1, _, _, _, [] => (0, 0)
  | f + 1, i, n, p, b :: r => if b.toNat < 128 then (if 1099511627776 < n + b.toNat % 128 * p ∨ 0 < i ∧ b.toNat = 0 then (0, 0) else (n + b.toNat % 128 * p, i + 1)) else rdF f (i + 1) (n + b.toNat % 128 * p) (p * 128) r
/-- The number with which the bytes begin, and how many bytes it takes; 0 and 0 where there is none. -/
def rdNum (bs : List UInt8) : Nat × Nat := rdF 6 0 0 1 bs
theorem rdF_end (f i n p : Nat) (bs : List UInt8) (k : Nat) (h : bs.length ≤ k) : rdF f i n p (bs.drop k) = (0, 0) := by
  rw [List.drop_eq_nil_of_le h]; cases f <;> rfl
theorem rdF_more (f i n p k b : Nat) (bs : List UInt8) (h : k < bs.length) (hb : b = bs[k].toNat) (h1 : 128 ≤ b) : rdF (f + 1) i n p (bs.drop k) = rdF f (i + 1) (n + b % 128 * p) (p * 128) (bs.drop (k + 1)) := by
  subst hb
  rw [List.drop_eq_getElem_cons h, rdF, if_neg (by omega)]
theorem rdF_no (f i n p k b : Nat) (bs : List UInt8) (h : k < bs.length) (hb : b = bs[k].toNat) (h1 : b < 128) (h2 : 1099511627776 < n + b % 128 * p ∨ 0 < i ∧ b = 0) : rdF (f + 1) i n p (bs.drop k) = (0, 0) := by
  subst hb
  rw [List.drop_eq_getElem_cons h, rdF, if_pos h1, if_pos h2]
theorem rdF_yes (f i n p k b : Nat) (bs : List UInt8) (h : k < bs.length) (hb : b = bs[k].toNat) (h1 : b < 128) (h2 : ¬ (1099511627776 < n + b % 128 * p ∨ 0 < i ∧ b = 0)) : rdF (f + 1) i n p (bs.drop k) = (n + b % 128 * p, i + 1) := by
  subst hb
  rw [List.drop_eq_getElem_cons h, rdF, if_pos h1, if_neg h2]
theorem rdF_len (f : Nat) : ∀ (i n p : Nat) (bs : List UInt8), (rdF f i n p bs).2 ≤ i + bs.length ∧ (rdF f i n p bs).1 ≤ 1099511627776 ∧ (rdF f i n p bs).2 ≤ i + f := by
  induction f with
  | zero => intro i n p bs; simp [rdF]
  | succ f ih =>
    intro i n p bs
    cases bs with
    | nil => simp [rdF]
    | cons b r =>
      rw [rdF]
      split
      · split
        · simp
        · simp only [List.length_cons]; omega
      · have := ih (i + 1) (n + b.toNat % 128 * p) (p * 128) r
        simp only [List.length_cons]; omega
theorem rdNum_len (bs : List UInt8) : (rdNum bs).2 ≤ bs.length ∧ (rdNum bs).1 ≤ 1099511627776 ∧ (rdNum bs).2 ≤ 6 := by have := rdF_len 6 0 0 1 bs; unfold rdNum; omega
theorem rdF_zero (f : Nat) : ∀ (i n p : Nat) (bs : List UInt8), (rdF f i n p bs).2 = 0 → (rdF f i n p bs).1 = 0 := by
  induction f with
  | zero => intro i n p bs _; simp [rdF]
  | succ f ih =>
    intro i n p bs
    cases bs with
    | nil => simp [rdF]
    | cons b r =>
      rw [rdF]
      split
      · split
        · simp
        · simp
      · exact ih (i + 1) (n + b.toNat % 128 * p) (p * 128) r
theorem rdNum_zero (bs : List UInt8) (h : (rdNum bs).2 = 0) : (rdNum bs).1 = 0 := rdF_zero 6 0 0 1 bs h
/-- The weights and sums that a round meets. -/
theorem mul_le (b p : Nat) : b % 128 * p ≤ 127 * p := Nat.mul_le_mul_right p (by omega)
end Go.Proofs.YtahihlnhimmgdaaGreatDoor
namespace Go.Proofs.YtahihlnhimmgdaaGreatDoor
open Go.RowKit
theorem ret2_int {k l : IntKind} {a b c d : Int} (h : a = c) (h2 : b = d) : Ending.returned (.tuple #[.int k a, .int l b]) = .returned (.tuple #[.int k c, .int l d]) := by rw [h, h2]
end Go.Proofs.YtahihlnhimmgdaaGreatDoor
namespace Go.Proofs.YtahihlnhimmgdaaGreatDoor
open Go.RowKit
/-- The text with which the bytes begin, and how many bytes it takes with its number; none and 0 where there is none. -/
def rdText (bs : List UInt8) : List UInt8 × Nat :=
  if (rdNum bs).2 = 0 ∨ 3000 < (rdNum bs).1 ∨ bs.length < (rdNum bs).2 + (rdNum bs).1 then ([], 0) else ((bs.drop (rdNum bs).2).take (rdNum bs).1, (rdNum bs).2 + (rdNum bs).1)
theorem cut_len (bs : List UInt8) (k n : Nat) (h : k + n ≤ bs.length) : ((bs.drop k).take n).length = n := by rw [List.length_take, List.length_drop]; omega
theorem conv_cut (w : World) (b off k n c : Nat) (bs : List UInt8) (h : k + n ≤ bs.length) (hc : ∀ i (h : i < bs.length), w.cell? ⟨b, off + i, none⟩ = some (.int .u8 (bs[i].toNat : Int))) :
    (convert 22 9 (.slice (some ⟨b, off + k, none⟩) n c)).run Tryz.prog w = .ok (.string ⟨((bs.drop k).take n).toArray⟩) w :=
  conv_at w b (off + k) n c _ (cut_len bs k n h) fun j hj => by
    rw [cut_len bs k n h] at hj
    have := hc (k + j) (by omega)
    rw [← Nat.add_assoc] at this
    rw [this]
    simp
theorem conv_none (w : World) (b off n c : Nat) (h : n = 0) (l : List UInt8) (hl : l = []) : (convert 22 9 (.slice (some ⟨b, off, none⟩) n c)).run Tryz.prog w = .ok (.string ⟨l.toArray⟩) w := by
  subst h
  subst hl
  exact conv_at w b off 0 c [] rfl fun j hj => by simp at hj
end Go.Proofs.YtahihlnhimmgdaaGreatDoor
namespace Go.Proofs.YtahihlnhimmgdaaGreatDoor
open Go.RowKit
set_option maxHeartbeats 400000 in
set_option maxRecDepth 100000 in
theorem eqTexts_same (va vb : Value) (bs : List ByteArray) (w : World) (ha : RdS w va bs) (hb : RdS w vb bs) :
    Calls Tryz.prog 156 #[va, vb] w fun e w' => e = .returned (.bool true) ∧ ∃ q, w' = w.drewN q := by
  obtain ⟨aa, ca, rfl, hla, hma, hA⟩ := ha
  obtain ⟨ab, cb, rfl, hlb, hmb, hB⟩ := hb
  unfold maxLen at hma hmb
  have hne : ((bs.length : Int) != (bs.length : Int)) = false := by simp
  rcases hA with rfl | ⟨ba, offa, rfl, hA⟩
  · go_enter Tryz.func156, Tryz.ntmps156
    go_wp2
    refine wp_loop_rounds 1 ?_
    rw [rounds_succ]
    go_wp2
    go_ret
    exact ⟨rfl, 0, rfl⟩
  · rcases hB with rfl | ⟨bb, offb, rfl, hB⟩
    · go_enter Tryz.func156, Tryz.ntmps156
      go_wp2
      refine wp_loop_rounds 1 ?_
      rw [rounds_succ]
      go_wp2
      go_ret
      exact ⟨rfl, 0, rfl⟩
    · go_enter Tryz.func156, Tryz.ntmps156
      go_wp2
      go_loopw [5] (fun i wr => ∃ k : Nat, k ≤ bs.length ∧ i = .int .i64 k ∧ ∃ q, wr = w.drewN q) (fun i _ => bs.length - (intOf i).toNat)
      case atStart => exact ⟨0, Nat.zero_le _, rfl, 0, rfl⟩
      case round =>
        obtain ⟨k, hk, rfl, q, rfl⟩ := hrel
        by_cases hlt : k < bs.length
        · have h1 := hA k hlt
          have h2 := hB k hlt
          clear hA hB
          go_wp2
          go_quiet (fail)
          go_wp2
          go_roundw
          case rel => exact ⟨k + 1, by omega, by go_num, _, rfl⟩
          case measure => simp [intOf]; omega
        · go_wp2
          go_ret
          exact ⟨rfl, q, rfl⟩

def smarks (k n : Nat) : List ByteArray := (List.range n).map fun i => mk (k + i)
theorem smarks_length (k n : Nat) : (smarks k n).length = n := by simp [smarks]
theorem smarks_succ (k n : Nat) : smarks k (n + 1) = smarks k n ++ [mk (k + n)] := by simp [smarks, List.range_succ]
theorem smarks_get (k n i : Nat) (h : i < (smarks k n).length) : (smarks k n)[i] = mk (k + i) := by simp [smarks]
theorem smark_step (k i : Nat) (bs : List ByteArray) (h : i < bs.length) : (smarks k i ++ bs.drop i).set i (mk (k + i)) = smarks k (i + 1) ++ bs.drop (i + 1) := by
  rw [smarks_succ, List.set_append_right _ _ (by rw [smarks_length]; omega), smarks_length, Nat.sub_self, List.drop_eq_getElem_cons h, List.set_cons_zero]
  simp
/-- What the marking leaves: nothing below the row's base has turned but for new blocks and the row itself. -/
theorem smark_frame {w wr w1 : World} {g : Nat} {u : Value} {j : Nat} (hg : w.grownBy wr (some g)) (hb : Below wr.heap.size wr w1) : w.grownBy (w1.setCell ⟨g, j, none⟩ u) (some g) :=
  ⟨hb.os.trans hg.os, hb.tape.trans hg.tape, hb.output.trans hg.output, by have := hg.size; have := hb.size; simp; omega, fun k hk hr => by
    rw [heap_setCell_other w1 ⟨g, j, none⟩ k u (fun e => hr (by simp [e])), hb.block k (by have := hg.size; omega)]
    exact hg.block k hk hr⟩
theorem grownBy_one (a : World) (row : Option Nat) : a.grownBy a row := ⟨rfl, rfl, rfl, Nat.le_refl _, fun _ _ _ => rfl⟩

set_option maxHeartbeats 400000 in
set_option maxRecDepth 100000 in
theorem smark_any (v : Value) (bs : List ByteArray) (base k : Nat) (w : World) (hk0 : 0 < k) (hk : k + bs.length ≤ 4194304) (hown : OwnS w base v bs) :
    Calls Tryz.prog 103 #[v, .int .i64 k] w fun e w' => e = .returned (.int .i64 ((k + bs.length : Nat) : Int)) ∧ OwnS w' base v (smarks k bs.length) ∧ w.grownBy w' v.ownBlock := by
  obtain ⟨g, cap, hv⟩ | ⟨hv, h0⟩ : (∃ g cap, v = .slice (some ⟨g, 0, none⟩) bs.length cap) ∨ (v = .slice none 0 0 ∧ bs = []) := by
    rcases hown.2 with ⟨rfl, h0⟩ | ⟨g, cap, cur, rfl, _⟩
    · exact .inr ⟨rfl, List.length_eq_zero_iff.1 h0⟩
    · exact .inl ⟨g, cap, rfl⟩
  · subst hv
    go_enter Tryz.func103, Tryz.ntmps103
    go_wp2
    go_loopw [1, 5] (fun kk i wr => ∃ j : Nat, j ≤ bs.length ∧ i = .int .i64 j ∧ kk = .int .i64 ((k : Int) + (j : Int)) ∧ OwnS wr base (.slice (some ⟨g, 0, none⟩) bs.length cap) (smarks k j ++ bs.drop j) ∧ w.grownBy wr (some g)) (fun _ i _ => bs.length - (intOf i).toNat)
    case atStart => exact ⟨0, Nat.zero_le _, rfl, by simp, by simpa [smarks] using hown, grownBy_one _ _⟩
    case round =>
      obtain ⟨j, hj, rfl, rfl, ho, hg⟩ := hrel
      have hlen : (smarks k j ++ bs.drop j).length = bs.length := by simp [smarks_length]; omega
      by_cases hlt : j < bs.length
      · go_wp2_with fail
        refine (markText_at _ (k + j) _ (by omega) (by omega) (by omega)).mono ?_
        rintro e1 w1 ⟨rfl, hb1⟩
        have ho1 := ho.below hb1
        have ho' : w1.ownsRow base 9 1 (.slice (some ⟨g, 0, none⟩) bs.length cap) bs.length (SV (smarks k j ++ bs.drop j)) := by have h := ho1; unfold OwnS at h; rwa [hlen] at h
        have hc := (ho'.cellAt j (by omega)).trans (SV_get _ j (by omega))
        have hf := ho'.frozenAt j
        have R1 : OwnS (w1.setCell ⟨g, j, none⟩ (.string (mk (k + j)))) base (.slice (some ⟨g, 0, none⟩) bs.length cap) (smarks k (j + 1) ++ bs.drop (j + 1)) := by
          have h := (ho'.stored j (.string (mk (k + j)))).1
          rw [← SV_set, smark_step k j bs hlt] at h
          have hl : (smarks k (j + 1) ++ bs.drop (j + 1)).length = bs.length := by simp [smarks_length]; omega
          unfold OwnS
          rw [hl]
          exact h
        have R2 : w.grownBy (w1.setCell ⟨g, j, none⟩ (.string (mk (k + j)))) (some g) := smark_frame hg hb1
        clear ho ho' ho1 hg hb1
        go_wp2
        go_roundw
        case rel => exact ⟨j + 1, by omega, by go_num, by go_num, R1, R2⟩
        case measure => simp [intOf]; omega
      · have hje : j = bs.length := by omega
        subst hje
        go_wp2
        go_ret
        exact ⟨by simp, by simpa using ho, hg⟩
  · subst hv
    subst h0
    go_enter Tryz.func103, Tryz.ntmps103
    go_wp2
    refine wp_loop_rounds 1 ?_
    rw [rounds_succ]
    go_wp2
    go_ret
    exact ⟨rfl, hown, grownBy_one _ _⟩

set_option maxHeartbeats 400000 in
set_option maxRecDepth 100000 in
theorem sheld_any (v : Value) (n k : Nat) (w : World) (hk0 : 0 < k) (hk : k + n ≤ 4194304) (hr : RdS w v (smarks k n)) :
    Calls Tryz.prog 109 #[v, .int .i64 k] w fun e w' => e = .returned (.int .i64 ((k + n : Nat) : Int)) ∧ Below w.heap.size w w' := by
  obtain ⟨a, cap, hv, hl, hm, hA⟩ := hr
  rw [smarks_length] at hv hl
  subst hv
  by_cases h0 : n = 0
  · subst h0
    go_enter Tryz.func109, Tryz.ntmps109
    go_wp2
    refine wp_loop_rounds 1 ?_
    rw [rounds_succ]
    go_wp2
    go_ret
    exact ⟨rfl, Below.refl _ _⟩
  · obtain ⟨b, off, rfl, hc⟩ : ∃ b off, a = some ⟨b, off, none⟩ ∧ ∀ i, i < n → w.cell? ⟨b, off + i, none⟩ = some (.string (mk (k + i))) := by
      rcases hA with h | ⟨b, off, ha, hc⟩
      · have := congrArg List.length h; rw [smarks_length] at this; exact absurd this h0
      · refine ⟨b, off, ha, fun i hi => ?_⟩
        have h := hc i (by rw [smarks_length]; exact hi)
        rw [smarks_get] at h
        exact h
    clear hA
    go_enter Tryz.func109, Tryz.ntmps109
    go_wp2
    go_loopw [1, 5] (fun kk i wr => ∃ j : Nat, j ≤ n ∧ i = .int .i64 j ∧ kk = .int .i64 ((k : Int) + (j : Int)) ∧ Below w.heap.size w wr) (fun _ i _ => n - (intOf i).toNat)
    case atStart => exact ⟨0, Nat.zero_le _, rfl, by simp, Below.refl _ _⟩
    case round =>
      obtain ⟨j, hj, rfl, rfl, hb⟩ := hrel
      by_cases hlt : j < n
      · have h1 : wr.cell? ⟨b, off + j, none⟩ = some (.string (mk (k + j))) := by rw [hb.cell (World.block_lt_of_cell? w _ (hc j hlt))]; exact hc j hlt
        have hlt2 := World.block_lt_of_cell? wr _ h1
        clear hc
        go_wp2
        go_region_with (go_at_call 157; refine (markText_at _ (k + j) _ (by omega) (by omega) (by omega)).mono ?_; rintro e w' ⟨rfl, hb'⟩; have h2 : w'.cell? ⟨b, off + j, none⟩ = some (.string (mk (k + j))) := (hb'.cell (by simpa using hlt2)).trans (by simpa using h1); have hbw : Below w.heap.size w w' := (Below.drew hb).trans (hb'.mono (by simpa using hb.size)))
        all_goals
          clear hb h1
          go_wp2
          go_roundw
          case rel => exact ⟨j + 1, by omega, by go_num, by go_num, by assumption⟩
          case measure => simp [intOf]; omega
      · have hje : j = n := by omega
        subst hje
        go_wp2
        go_ret
        exact ⟨by simp, hb⟩
theorem smark_one (v : Value) (bs : List ByteArray) (base : Nat) (w : World) (hk : bs.length ≤ 2097152) (hown : OwnS w base v bs) :
    Calls Tryz.prog 103 #[v, .int .i64 1] w fun e w' => e = .returned (.int .i64 (1 + (bs.length : Int))) ∧ OwnS w' base v (smarks 1 bs.length) ∧ w.grownBy w' v.ownBlock := by
  have h := smark_any v bs base 1 w (by omega) (by omega) hown
  rw [Int.natCast_add] at h
  exact h
theorem sheld_one (v : Value) (n : Nat) (w : World) (hk : n ≤ 2097152) (hr : RdS w v (smarks 1 n)) :
    Calls Tryz.prog 109 #[v, .int .i64 1] w fun e w' => e = .returned (.int .i64 (1 + (n : Int))) ∧ Below w.heap.size w w' := by
  have h := sheld_any v n 1 w (by omega) (by omega) hr
  rw [Int.natCast_add] at h
  exact h
end Go.Proofs.YtahihlnhimmgdaaGreatDoor
-- UNF Gen
namespace Go.Proofs.YtahihlnhimmgdaaGreatDoor
open Go.RowKit Go.ChangeShapes Go.WideShapes
set_option maxHeartbeats 4000000 in
set_option maxRecDepth 100000 in
theorem eqBlock_same (Y Z : BlX) (w : World) (hy : RdBl w Y) (hz : RdBl w Z) (hp : Y.b = Z.b) :
    Calls Tryz.prog 95 #[.agg #[.int .i64 Y.b.vw, .int .i64 Y.b.pa, .int .i64 Y.b.p.vw, .int .i64 Y.b.p.nm, Y.vs, Y.vt, Y.vm, .int .i64 Y.b.sv], .agg #[.int .i64 Z.b.vw, .int .i64 Z.b.pa, .int .i64 Z.b.p.vw, .int .i64 Z.b.p.nm, Z.vs, Z.vt, Z.vm, .int .i64 Z.b.sv]] w fun e w' => e = .returned (.bool true) ∧ Below w.heap.size w w' := by
  obtain ⟨⟨bv, ba, p, mo, sv⟩, ys, yt, ym⟩ := Y
  obtain ⟨p2, zs, zt, zm⟩ := Z
  simp only at hp
  subst hp
  simp only
  have HP : Hid (∀ W, RdPr W ⟨p, ys, yt⟩ → RdPr W ⟨p, zs, zt⟩ → Calls Tryz.prog 87 #[.agg #[.int .i64 p.vw, .int .i64 p.nm, ys, yt], .agg #[.int .i64 p.vw, .int .i64 p.nm, zs, zt]] W fun e w' => e = .returned (.bool true) ∧ Below W.heap.size W w') := fun W h1 h2 => eqProof_same ⟨p, ys, yt⟩ ⟨p, zs, zt⟩ W h1 h2 rfl
  have HM : Hid (∀ W, RdS W ym mo → RdS W zm mo → Calls Tryz.prog 156 #[ym, zm] W fun e w' => e = .returned (.bool true) ∧ ∃ q, w' = W.drewN q) := fun W h1 h2 => eqTexts_same _ _ mo W h1 h2
  obtain ⟨A, hA⟩ : ∃ A, A = Obj.cells #[.int .i64 bv, .int .i64 ba, .int .i64 p.vw, .int .i64 p.nm, ys, yt, ym, .int .i64 sv] 34 := ⟨_, rfl⟩
  obtain ⟨B, hB⟩ : ∃ B, B = Obj.cells #[.int .i64 bv, .int .i64 ba, .int .i64 p.vw, .int .i64 p.nm, zs, zt, zm, .int .i64 sv] 34 := ⟨_, rfl⟩
  have t0 : Bx ((w.alloc A).alloc B) w.heap.size 34 #[.int .i64 bv, .int .i64 ba, .int .i64 p.vw, .int .i64 p.nm, ys, yt, ym, .int .i64 sv] := by rw [hA]; exact (bx_new w _ _).below (below1 _ _)
  have u0 : Bx ((w.alloc A).alloc B) (w.heap.size + 1) 34 #[.int .i64 bv, .int .i64 ba, .int .i64 p.vw, .int .i64 p.nm, zs, zt, zm, .int .i64 sv] := by
    have h := bx_new (w.alloc A) 34 #[.int .i64 bv, .int .i64 ba, .int .i64 p.vw, .int .i64 p.nm, zs, zt, zm, .int .i64 sv]
    rw [szQ] at h
    rw [hB]; exact h
  have b0 : Below w.heap.size w ((w.alloc A).alloc B) := below2 w A B
  obtain ⟨W0, hW0⟩ : ∃ W0, W0 = (w.alloc A).alloc B := ⟨_, rfl⟩
  rw [← hW0] at t0 u0 b0
  rw [hA, hB] at hW0
  obtain ⟨c0, c1, c2, c3, c4, c5, c6, c7⟩ := t0.c8
  obtain ⟨d0, d1, d2, d3, d4, d5, d6, d7⟩ := u0.c8
  rw [hW0] at c0 c1 c2 c3 c4 c5 c6 c7 d0 d1 d2 d3 d4 d5 d6 d7
  have n0 : (bv != bv) = false := by simp
  have n1 : (ba != ba) = false := by simp
  have n2 : (sv != sv) = false := by simp
  have HW0 : Hid (((w.alloc (Obj.cells #[.int .i64 bv, .int .i64 ba, .int .i64 p.vw, .int .i64 p.nm, ys, yt, ym, .int .i64 sv] 34)).alloc (Obj.cells #[.int .i64 bv, .int .i64 ba, .int .i64 p.vw, .int .i64 p.nm, zs, zt, zm, .int .i64 sv] 34)) = W0) := hW0.symm
  clear hA hB hW0
  go_enter Tryz.func95, Tryz.ntmps95
  go_wp2_with fail
  rw [HW0.out]
  refine (HP.out _ (hy.pr.below b0) (hz.pr.below b0)).mono ?_
  rintro e w1 ⟨rfl, hb1⟩
  have t1 := t0.below hb1
  have u1 := u0.below hb1
  have b1 := b0.trans (hb1.mono b0.size)
  clear c0 c1 c2 c3 c4 c5 c6 c7 d0 d1 d2 d3 d4 d5 d6 d7 t0 u0 b0 hb1
  obtain ⟨-, -, -, -, -, -, c6, c7⟩ := t1.c8
  obtain ⟨-, -, -, -, -, -, d6, d7⟩ := u1.c8
  go_wp2_with fail
  refine (HM.out _ (hy.mo.below b1) (hz.mo.below b1)).mono ?_
  rintro e w2 ⟨rfl, q, rfl⟩
  have b2 : Below w.heap.size w (w1.drewN q) := below_drewN b1 q
  clear t1 u1 b1
  go_wp2
  go_ret
  exact ⟨rfl, b2⟩
end Go.Proofs.YtahihlnhimmgdaaGreatDoor
