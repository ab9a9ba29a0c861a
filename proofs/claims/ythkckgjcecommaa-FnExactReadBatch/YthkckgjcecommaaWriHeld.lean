/- The contracts of the law's marking of a slice of writes, and of finding the marks again. -/
import Derived.Test.YthkckgjcecommaaWriCp
import Derived.Test.YthkckgjcecommaaEntMark
namespace Go.Proofs.Ythkckgjcecommaa
open Go.RowKit
/-- The law's mark number k, as a write. -/
def wmk (k : Nat) : Wri := ⟨mk k, mk (k + 1), decide ((k + 2) % 3 = 0)⟩
def wmarks (k n : Nat) : List Wri := (List.range n).map fun i => wmk (k + 3 * i)
theorem wmarks_length (k n : Nat) : (wmarks k n).length = n := by simp [wmarks]
theorem wmarks_succ (k n : Nat) : wmarks k (n + 1) = wmarks k n ++ [wmk (k + 3 * n)] := by simp [wmarks, List.range_succ]
theorem wmarks_nth (k n i : Nat) (h : i < n) : nthW (wmarks k n) i = wmk (k + 3 * i) := by
  rw [nthW_eq (by rw [wmarks_length]; exact h)]; simp [wmarks]
theorem wmark_step (k i : Nat) (bs : List Wri) (h : i < bs.length) : (wmarks k i ++ bs.drop i).set i (wmk (k + 3 * i)) = wmarks k (i + 1) ++ bs.drop (i + 1) := by
  rw [wmarks_succ, List.set_append_right _ _ (by rw [wmarks_length]; omega), wmarks_length, Nat.sub_self, List.drop_eq_getElem_cons h, List.set_cons_zero]
  simp
set_option maxHeartbeats 4000000 in
set_option maxRecDepth 100000 in
theorem wmarkH_any (v : Value) (bs : List Wri) (base k : Nat) (w : World) (hk0 : 0 < k) (hk : k + 3 * bs.length ≤ 4194305) (hown : OwnW w base v bs) :
    Calls Try.prog 12 #[v, .int .i64 k] w fun e w' => e = .returned (.int .i64 ((k + 3 * bs.length : Nat) : Int)) ∧ OwnW w' base v (wmarks k bs.length) ∧ w.grownBy w' v.ownBlock := by
  obtain ⟨g, cap, hv⟩ | ⟨hv, h0⟩ : (∃ g cap, v = .slice (some ⟨g, 0, none⟩) bs.length cap) ∨ (v = .slice none 0 0 ∧ bs = []) := by
    rcases hown.2 with ⟨rfl, h0⟩ | ⟨g, cap, cur, rfl, _⟩
    · exact .inr ⟨rfl, List.length_eq_zero_iff.1 h0⟩
    · exact .inl ⟨g, cap, rfl⟩
  · subst hv
    go_enter Try.func12, Try.ntmps12
    go_wp2
    go_loopw [1, 5] (fun kk i wr => ∃ j : Nat, j ≤ bs.length ∧ i = .int .i64 j ∧ kk = .int .i64 ((k : Int) + 3 * (j : Int)) ∧ OwnW wr base (.slice (some ⟨g, 0, none⟩) bs.length cap) (wmarks k j ++ bs.drop j) ∧ w.grownBy wr (some g)) (fun _ i _ => bs.length - (intOf i).toNat)
    case atStart => exact ⟨0, Nat.zero_le _, rfl, by simp, by simpa [wmarks] using hown, egrownBy_one _ _⟩
    case round =>
      obtain ⟨j, hj, rfl, rfl, ho, hg⟩ := hrel
      have hlen : (wmarks k j ++ bs.drop j).length = bs.length := by simp [wmarks_length]; omega
      by_cases hlt : j < bs.length
      · skip
        go_wp2_with fail
        refine (markText_at _ (k + 3 * j) _ (by omega) (by omega) (by omega)).mono ?_
        rintro e1 w1 ⟨rfl, hb1⟩
        have ho1 : w1.ownsRow base 37 3 (.slice (some ⟨g, 0, none⟩) bs.length cap) bs.length (WV (wmarks k j ++ bs.drop j)) := by have h := ho.below hb1; unfold OwnW at h; rwa [hlen] at h
        have d0 := (ownW_cell ho1 hlen.symm j hlt).1
        have f0 := ho1.frozenAt (j * 3)
        have R1 := ownW_store ho1 (k := j) (j := 0) (by omega) (by omega) (u := .string (mk (k + 3 * j))) (e' := { nthW (wmarks k j ++ bs.drop j) j with key := mk (k + 3 * j) }) rfl
        have G1 : w.grownBy (w1.setCell ⟨g, j * 3, none⟩ (.string (mk (k + 3 * j)))) (some g) := emark_frame hg hb1
        obtain ⟨x, hx⟩ : ∃ x, x = nthW (wmarks k j ++ bs.drop j) j := ⟨_, rfl⟩
        rw [← hx] at R1
        have HX : Hid (x = nthW (wmarks k j ++ bs.drop j) j) := hx
        have H1 : Hid (World.ownsRow _ _ _ _ _ _ _) := R1
        clear ho ho1 hg hb1 R1 hx
        go_wp2_with fail
        refine (markText_at _ (k + 3 * j + 1) _ (by omega) (by omega) (by omega)).mono ?_
        rintro e2 w2 ⟨rfl, hb2⟩
        have ho2 := own_below H1.out hb2
        have l2 : ((wmarks k j ++ bs.drop j).set j { x with key := mk (k + 3 * j) }).length = bs.length := by rw [List.length_set]; exact hlen
        have d1 := (ownW_cell ho2 l2.symm j hlt).2.1
        have f1 := ho2.frozenAt (j * 3 + 1)
        have R2 := ownW_store ho2 (k := j) (j := 1) (by omega) (by omega) (u := .string (mk (k + 3 * j + 1))) (e' := { x with key := mk (k + 3 * j), val := mk (k + 3 * j + 1) }) (by rw [nthW_set_same (by omega)]; rfl)
        rw [List.set_set] at R2
        have G2 : w.grownBy (w2.setCell ⟨g, j * 3 + 1, none⟩ (.string (mk (k + 3 * j + 1)))) (some g) := emark_frame G1 hb2
        have l3 : ((wmarks k j ++ bs.drop j).set j { x with key := mk (k + 3 * j), val := mk (k + 3 * j + 1) }).length = bs.length := by rw [List.length_set]; exact hlen
        have d2 := (ownW_cell R2 l3.symm j hlt).2.2
        have f2 := R2.frozenAt (j * 3 + 2)
        have R4 := ownW_store R2 (k := j) (j := 2) (by omega) (by omega) (u := .bool (((k : Int) + 3 * (j : Int) + 1 + 1) % 3 == 0)) (e' := wmk (k + 3 * j)) (by
          rw [nthW_set_same (by omega)]
          have e2 : (((k : Int) + 3 * (j : Int) + 1 + 1) % 3 == 0) = decide ((k + 3 * j + 2) % 3 = 0) := by rw [Bool.eq_iff_iff, beq_iff_eq, decide_eq_true_eq]; omega
          show [Value.string (mk (k + 3 * j)), Value.string (mk (k + 3 * j + 1)), Value.bool (((k : Int) + 3 * (j : Int) + 1 + 1) % 3 == 0)] = WC (wmk (k + 3 * j))
          rw [e2]
          rfl)
        rw [List.set_set, wmark_step k j bs hlt] at R4
        have H4 : Hid (World.ownsRow _ _ _ _ _ _ _) := R4
        clear ho2 R2 R4 H1 G1 hb2
        go_wp2
        go_roundw
        case rel =>
          have hl5 : (wmarks k (j + 1) ++ bs.drop (j + 1)).length = bs.length := by simp [wmarks_length]; omega
          exact ⟨j + 1, by omega, by go_num, by go_num, by unfold OwnW; rw [hl5]; exact H4.out, emark_frame0 G2⟩
        case measure => simp [intOf]; omega
      · have hje : j = bs.length := by omega
        subst hje
        go_wp2
        go_ret
        exact ⟨ret_intE (by omega), by simpa using ho, hg⟩
  · subst hv
    subst h0
    go_enter Try.func12, Try.ntmps12
    go_wp2
    refine wp_loop_rounds 1 ?_
    rw [rounds_succ]
    go_wp2
    go_ret
    exact ⟨rfl, hown, egrownBy_one _ _⟩
set_option maxHeartbeats 4000000 in
set_option maxRecDepth 100000 in
theorem wheld_any (v : Value) (n k : Nat) (w : World) (hk0 : 0 < k) (hk : k + 3 * n ≤ 4194305) (hr : RdW w v (wmarks k n)) :
    Calls Try.prog 13 #[v, .int .i64 k] w fun e w' => e = .returned (.int .i64 ((k + 3 * n : Nat) : Int)) ∧ Below w.heap.size w w' := by
  obtain ⟨a, cap, hv, hl, hm, _⟩ := id hr
  rw [wmarks_length] at hv hl
  unfold maxLen at hm
  subst hv
  go_enter Try.func13, Try.ntmps13
  go_wp2
  go_loopw [1, 5] (fun kk i wr => ∃ j : Nat, j ≤ n ∧ i = .int .i64 j ∧ kk = .int .i64 ((k : Int) + 3 * (j : Int)) ∧ Below w.heap.size w wr) (fun _ i _ => n - (intOf i).toNat)
  case atStart => exact ⟨0, Nat.zero_le _, rfl, by simp, Below.refl _ _⟩
  case round =>
    obtain ⟨j, hj, rfl, rfl, hb⟩ := hrel
    by_cases hlt : j < n
    · obtain ⟨b, off, rfl, hc⟩ := (hr.below hb).at (wmarks_length k n).symm j (by rw [wmarks_length]; exact hlt)
      rw [wmarks_nth k n j hlt] at hc
      have hl2 := hc.lt
      have hjl : (j : Int) < (n : Int) := by omega
      have hgo : decide ((k + 3 * j + 2) % 3 = 0) = (((k : Int) + 3 * (j : Int) + 1 + 1) % 3 == 0) := by rw [Bool.eq_iff_iff, beq_iff_eq, decide_eq_true_eq]; omega
      obtain ⟨c0, c1, c3⟩ := hc
      change _ = some (Value.string (mk (k + 3 * j))) at c0
      change _ = some (Value.string (mk (k + 3 * j + 1))) at c1
      change _ = some (Value.bool (decide ((k + 3 * j + 2) % 3 = 0))) at c3
      rw [hgo] at c3
      clear hgo
      have hnb : ((((k : Int) + 3 * (j : Int) + 1 + 1) % 3 == 0) != (((k : Int) + 3 * (j : Int) + 1 + 1) % 3 == 0)) = false := by simp
      go_wp2_with fail
      refine wp_region_noPanic ?_
      refine wp_region_held_drew (S := fun w' => w'.cell? ⟨b, off + j * 3, none⟩ = some (.string (mk (k + 3 * j)))) (by kernel_rfl) c0 (fun hH => ?_)
      refine tkA 0 12 hH ?_
      try simp only [Act.put, List.setIfInBounds_toArray, List.set_cons_zero, List.set_cons_succ]
      refine tkA 1 13 hH ?_
      try simp only [Act.put, List.setIfInBounds_toArray, List.set_cons_zero, List.set_cons_succ]
      refine tkA 2 14 hH ?_
      try simp only [Act.put, List.setIfInBounds_toArray, List.set_cons_zero, List.set_cons_succ]
      refine tkA 3 15 hH ?_
      try simp only [Act.put, List.setIfInBounds_toArray, List.set_cons_zero, List.set_cons_succ]
      refine tkA 4 16 hH ?_
      try simp only [Act.put, List.setIfInBounds_toArray, List.set_cons_zero, List.set_cons_succ]
      refine tkA 5 17 hH ?_
      try simp only [Act.put, List.setIfInBounds_toArray, List.set_cons_zero, List.set_cons_succ]
      refine wpAnyH_ready (rs := [6]) (by kernel_rfl) (by simp) ?_
      refine AllReadyH.cons rfl (fun K hK => ?_) AllReadyH.nil
      go_simp
      refine (markText_at _ (k + 3 * j) _ (by omega) (by omega) (by omega)).mono ?_
      rintro e w1 ⟨rfl, hb1⟩
      obtain ⟨q1, _⟩ := bcell hb1
      refine hK.out _ _ ((q1 _ _ hl2).trans c0) (fun hA => ?_)
      clear hK K
      try simp only [Act.put, List.setIfInBounds_toArray, List.set_cons_zero, List.set_cons_succ]
      refine tkA 7 19 hA ?_
      try simp only [Act.put, List.setIfInBounds_toArray, List.set_cons_zero, List.set_cons_succ]
      refine wpAnyH_done (by kernel_rfl) ?_ _
      refine NoPanic.normal ?_
      have d1 : w1.cell? ⟨b, off + j * 3 + 1, none⟩ = some (.string (mk (k + 3 * j + 1))) := (q1 _ _ hl2).trans c1
      have d3 : w1.cell? ⟨b, off + j * 3 + 2, none⟩ = some (.bool (((k : Int) + 3 * (j : Int) + 1 + 1) % 3 == 0)) := (q1 _ _ hl2).trans c3
      have b1 := hb.drew.trans (hb1.mono hb.size)
      have hl3 := World.block_lt_of_cell? w1 _ d1
      clear hH hA hb hb1 q1 c0 c1 c3
      go_wp2_with fail
      refine wp_region_noPanic ?_
      refine wp_region_held_drew (S := fun w' => w'.cell? ⟨b, off + j * 3 + 1, none⟩ = some (.string (mk (k + 3 * j + 1)))) (by kernel_rfl) d1 (fun hH => ?_)
      refine tkA 0 22 hH ?_
      try simp only [Act.put, List.setIfInBounds_toArray, List.set_cons_zero, List.set_cons_succ]
      refine tkA 1 23 hH ?_
      try simp only [Act.put, List.setIfInBounds_toArray, List.set_cons_zero, List.set_cons_succ]
      refine tkA 2 24 hH ?_
      try simp only [Act.put, List.setIfInBounds_toArray, List.set_cons_zero, List.set_cons_succ]
      refine tkA 3 25 hH ?_
      try simp only [Act.put, List.setIfInBounds_toArray, List.set_cons_zero, List.set_cons_succ]
      refine tkA 4 26 hH ?_
      try simp only [Act.put, List.setIfInBounds_toArray, List.set_cons_zero, List.set_cons_succ]
      refine tkA 5 27 hH ?_
      try simp only [Act.put, List.setIfInBounds_toArray, List.set_cons_zero, List.set_cons_succ]
      refine wpAnyH_ready (rs := [6]) (by kernel_rfl) (by simp) ?_
      refine AllReadyH.cons rfl (fun K hK => ?_) AllReadyH.nil
      go_simp
      refine (markText_at _ (k + 3 * j + 1) _ (by omega) (by omega) (by omega)).mono ?_
      rintro e w2 ⟨rfl, hb2⟩
      obtain ⟨q2, _⟩ := bcell hb2
      refine hK.out _ _ ((q2 _ _ hl3).trans d1) (fun hA => ?_)
      clear hK K
      try simp only [Act.put, List.setIfInBounds_toArray, List.set_cons_zero, List.set_cons_succ]
      refine tkA 7 29 hA ?_
      try simp only [Act.put, List.setIfInBounds_toArray, List.set_cons_zero, List.set_cons_succ]
      refine wpAnyH_done (by kernel_rfl) ?_ _
      refine NoPanic.normal ?_
      have e3 : w2.cell? ⟨b, off + j * 3 + 2, none⟩ = some (.bool (((k : Int) + 3 * (j : Int) + 1 + 1) % 3 == 0)) := (q2 _ _ hl3).trans d3
      have b2 := b1.drew.trans (hb2.mono b1.size)
      clear hH hA b1 hb2 q2 d1 d3
      go_wp2
      go_roundw
      case rel => exact ⟨j + 1, by omega, by go_num, by go_num, b2⟩
      case measure => simp [intOf]; omega
    · have hje : j = n := by omega
      subst hje
      go_wp2
      go_ret
      exact ⟨ret_intE (by omega), hb⟩
theorem wmark_one (v : Value) (bs : List Wri) (base : Nat) (w : World) (hk : bs.length ≤ 1048576) (hown : OwnW w base v bs) :
    Calls Try.prog 12 #[v, .int .i64 1] w fun e w' => e = .returned (.int .i64 (1 + 3 * (bs.length : Int))) ∧ OwnW w' base v (wmarks 1 bs.length) ∧ w.grownBy w' v.ownBlock := by
  have h := wmarkH_any v bs base 1 w (by omega) (by omega) hown
  rw [show ((1 + 3 * bs.length : Nat) : Int) = 1 + 3 * (bs.length : Int) by omega] at h
  exact h
theorem wheld_one (v : Value) (n : Nat) (w : World) (hk : n ≤ 1048576) (hr : RdW w v (wmarks 1 n)) :
    Calls Try.prog 13 #[v, .int .i64 1] w fun e w' => e = .returned (.int .i64 (1 + 3 * (n : Int))) ∧ Below w.heap.size w w' := by
  have h := wheld_any v n 1 w (by omega) (by omega) hr
  rw [show ((1 + 3 * n : Nat) : Int) = 1 + 3 * (n : Int) by omega] at h
  exact h
end Go.Proofs.Ythkckgjcecommaa
