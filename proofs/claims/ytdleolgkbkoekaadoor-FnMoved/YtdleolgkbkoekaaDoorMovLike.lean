/- The laws of the bank's own helpers: big, pick, likeInts, likeBank; parts of a row of texts. -/
-- UNF Gen
import Derived.Test.YtdleolgkbkoekaaDoorMovDrw4
import Derived.BigQuiet
namespace Go.Proofs.YtdleolgkbkoekaaDoor
open Go.RowKit
set_option maxHeartbeats 400000 in
set_option maxRecDepth 100000 in
theorem bigM_any (v : Value) (bs : List UInt8) (w : World) (hr : Rd w v bs) :
    Calls Tryd.prog 4 #[v] w fun e w' => e = .returned (.bool (decide (4096 < (bs.length : Int)))) ∧ w' = w := by
  obtain ⟨a, cap, rfl, hl, hm, _⟩ := hr
  unfold maxLen at hm
  go_enter Tryd.func4, Tryd.ntmps4
  go_wp2
  go_ret
  exact ⟨rfl, rfl⟩
set_option maxHeartbeats 400000 in
set_option maxRecDepth 100000 in
theorem likeIntsM_same (va vb : Value) (bs : List Int) (w : World) (ha : RdI w va bs) (hb : RdI w vb bs) :
    Calls Tryd.prog 16 #[va, vb] w fun e w' => e = .returned (.bool true) ∧ ∃ q, w' = w.drewN q := by
  obtain ⟨aa, ca, rfl, hla, hma, -, hA⟩ := ha
  obtain ⟨ab, cb, rfl, hlb, hmb, -, hB⟩ := hb
  unfold maxLen at hma hmb
  have hne : ((bs.length : Int) != (bs.length : Int)) = false := by simp
  rcases hA with rfl | ⟨ba, offa, rfl, hA⟩
  · go_enter Tryd.func16, Tryd.ntmps16
    go_wp2
    refine wp_loop_rounds 1 ?_
    rw [rounds_succ]
    go_wp2
    go_ret
    exact ⟨rfl, 0, rfl⟩
  · rcases hB with rfl | ⟨bb, offb, rfl, hB⟩
    · go_enter Tryd.func16, Tryd.ntmps16
      go_wp2
      refine wp_loop_rounds 1 ?_
      rw [rounds_succ]
      go_wp2
      go_ret
      exact ⟨rfl, 0, rfl⟩
    · go_enter Tryd.func16, Tryd.ntmps16
      go_wp2
      go_loopw [5] (fun i wr => ∃ k : Nat, k ≤ bs.length ∧ i = .int .i64 k ∧ ∃ q, wr = w.drewN q) (fun i _ => bs.length - (intOf i).toNat)
      case atStart => exact ⟨0, Nat.zero_le _, rfl, 0, rfl⟩
      case round =>
        obtain ⟨k, hk, rfl, q, rfl⟩ := hrel
        by_cases hlt : k < bs.length
        · have h1 := hA k hlt
          have h2 := hB k hlt
          have h3 : (bs[k] != bs[k]) = false := by simp
          clear hA hB
          go_wp2
          go_quiet (fail)
          go_wp2
          go_roundw
          case rel => exact ⟨k + 1, by omega, by go_num, _, rfl⟩
          case measure => simp [intOf]; omega
        · go_wp2
          go_ret
          exact ⟨rfl, q, rfl⟩
/-- What pick leaves: a number below n. -/
def PickM (w : World) (n : Int) (e : Ending) (w' : World) : Prop := w' = w ∧ ∃ x : Int, e = .returned (.int .i64 x) ∧ 0 ≤ x ∧ x < n
theorem likeI_same (va vb : Value) (bs : List Int) (w : World) (ha : RdI w va bs) (hb : RdI w vb bs) :
    Calls Tryd.prog 16 #[va, vb] w fun e w' => e = .returned (.bool true) ∧ Below w.heap.size w w' :=
  (likeIntsM_same va vb bs w ha hb).mono fun _ _ ⟨h, q, hq⟩ => ⟨h, by rw [hq]; exact belowDrw q⟩
set_option maxHeartbeats 4000000 in
set_option maxRecDepth 100000 in
theorem likeBank_same (Y Z : BkX) (w : World) (hy : RdBk w Y) (hz : RdBk w Z) (hm : Y.mon = Z.mon) (hc : Y.cnt = Z.cnt) :
    Calls Tryd.prog 10 #[.agg #[Y.vm, Y.vc], .agg #[Z.vm, Z.vc]] w fun e w' => e = .returned (.bool true) ∧ Below w.heap.size w w' := by
  have b0 := below2 w (.cells #[Y.vm, Y.vc] 26) (.cells #[Z.vm, Z.vc] 26)
  have c1 := below1 w (.cells #[Y.vm, Y.vc] 26)
  have t1 : BoxBk ((w.alloc (.cells #[Y.vm, Y.vc] 26)).alloc (.cells #[Z.vm, Z.vc] 26)) w.heap.size Y.vm Y.vc := (boxBk_new w Y.vm Y.vc).below (below1 _ _)
  have t2 : BoxBk ((w.alloc (.cells #[Y.vm, Y.vc] 26)).alloc (.cells #[Z.vm, Z.vc] 26)) (w.heap.size + 1) Z.vm Z.vc := by
    have h := boxBk_new (w.alloc (.cells #[Y.vm, Y.vc] 26)) Z.vm Z.vc
    rw [show (w.alloc (.cells #[Y.vm, Y.vc] 26)).heap.size = w.heap.size + 1 from by simp] at h
    exact h
  have HM : Hid (∀ W, RdI W Y.vm Y.mon → RdI W Z.vm Z.mon → Calls Tryd.prog 16 #[Y.vm, Z.vm] W fun e w' => e = .returned (.bool true) ∧ Below W.heap.size W w') := fun W h1 h2 => likeI_same _ _ Y.mon W h1 (by rw [hm]; exact h2)
  have HC : Hid (∀ W, RdI W Y.vc Y.cnt → RdI W Z.vc Z.cnt → Calls Tryd.prog 16 #[Y.vc, Z.vc] W fun e w' => e = .returned (.bool true) ∧ Below W.heap.size W w') := fun W h1 h2 => likeI_same _ _ Y.cnt W h1 (by rw [hc]; exact h2)
  have hy0 := hy.below b0
  have hz0 := hz.below b0
  clear hm hc c1
  obtain ⟨y0, y1, -, -⟩ := t1.facts
  obtain ⟨z0, z1, -, -⟩ := t2.facts
  go_enter Tryd.func10, Tryd.ntmps10
  go_wp2_with fail
  generalize (w.alloc (.cells #[Y.vm, Y.vc] 26)).alloc (.cells #[Z.vm, Z.vc] 26) = W0 at t1 t2 b0 hy0 hz0 ⊢
  refine (HM.out _ hy0.mon hz0.mon).mono ?_
  rintro e w1 ⟨rfl, hb1⟩
  have b1 := b0.trans (hb1.mono b0.size)
  have s1 := t1.below hb1
  have s2 := t2.below hb1
  have hy1 := hy0.below hb1
  have hz1 := hz0.below hb1
  clear b0 hb1 t1 t2 hy0 hz0 y0 y1 z0 z1
  obtain ⟨y0, y1, -, -⟩ := s1.facts
  obtain ⟨z0, z1, -, -⟩ := s2.facts
  go_wp2_with fail
  refine (HC.out _ hy1.cnt hz1.cnt).mono ?_
  rintro e w2 ⟨rfl, hb2⟩
  have b2 := b1.trans (hb2.mono b1.size)
  clear b1 hb2 s1 s2 hy1 hz1 y0 y1 z0 z1
  go_wp2
  go_ret
  exact ⟨rfl, b2⟩
theorem rdS_take {w : World} {a : Option Addr} {n cap : Nat} {ss : List ByteArray} (h : RdS w (.slice a n cap) ss) (k : Nat) (hk : k ≤ ss.length) : RdS w (.slice a k cap) (ss.take k) := by
  obtain ⟨a', c', e, h1, h2, h3⟩ := h
  injection e with e1 e2 e3
  subst e1
  subst e3
  refine ⟨a, cap, by rw [List.length_take, Nat.min_eq_left hk], by rw [List.length_take]; omega, h2, ?_⟩
  rcases h3 with rfl | ⟨b, off, rfl, hc⟩
  · exact .inl (by simp)
  · exact .inr ⟨b, off, rfl, fun i hi => by rw [List.getElem_take]; exact hc i (by rw [List.length_take] at hi; omega)⟩
end Go.Proofs.YtdleolgkbkoekaaDoor
