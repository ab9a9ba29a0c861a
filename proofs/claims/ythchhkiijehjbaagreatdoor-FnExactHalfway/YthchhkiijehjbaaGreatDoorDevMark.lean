/- The contracts of the laws' own marks of patches and devices, and of the looks at them. -/
import Derived.Test.YthchhkiijehjbaaGreatDoorDevCp
-- UNF Gen
namespace Go.Proofs.YthchhkiijehjbaaGreatDoor
open Go.RowKit
def pmk (k : Nat) : Pat := ⟨(k : Int), mk (k + 1)⟩
def pmarks (k n : Nat) : List Pat := (List.range n).map fun i => pmk (k + 2 * i)
theorem pmarks_length (k n : Nat) : (pmarks k n).length = n := by simp [pmarks]
theorem pmarks_succ (k n : Nat) : pmarks k (n + 1) = pmarks k n ++ [pmk (k + 2 * n)] := by simp [pmarks, List.range_succ]
theorem pmarks_nth (k n i : Nat) (h : i < n) : nthP (pmarks k n) i = pmk (k + 2 * i) := by
  rw [nthP_eq (by rw [pmarks_length]; exact h)]; simp [pmarks]
theorem pmark_step (k i : Nat) (bs : List Pat) (h : i < bs.length) : (pmarks k i ++ bs.drop i).set i (pmk (k + 2 * i)) = pmarks k (i + 1) ++ bs.drop (i + 1) := by
  rw [pmarks_succ, List.set_append_right _ _ (by rw [pmarks_length]; omega), pmarks_length, Nat.sub_self, List.drop_eq_getElem_cons h, List.set_cons_zero]
  simp
set_option maxHeartbeats 4000000 in
set_option maxRecDepth 100000 in
theorem pmark_any (v : Value) (bs : List Pat) (base k : Nat) (w : World) (hk0 : 0 < k) (hk : k + 2 * bs.length ≤ 4194304) (hown : OwnPt w base v bs) :
    Calls Tryz.prog 34 #[v, .int .i64 (k : Int)] w fun e w' => e = .returned (.int .i64 ((k + 2 * bs.length : Nat) : Int)) ∧ OwnPt w' base v (pmarks k bs.length) ∧ w.grownBy w' v.ownBlock := by
  obtain ⟨g, cap, hv⟩ | ⟨hv, h0⟩ : (∃ g cap, v = .slice (some ⟨g, 0, none⟩) bs.length cap) ∨ (v = .slice none 0 0 ∧ bs = []) := by
    rcases hown.2 with ⟨rfl, h0⟩ | ⟨g, cap, cur, rfl, _⟩
    · exact .inr ⟨rfl, List.length_eq_zero_iff.1 h0⟩
    · exact .inl ⟨g, cap, rfl⟩
  · subst hv
    go_enter Tryz.func34, Tryz.ntmps34
    go_wp2
    go_loopw [1, 5] (fun kk i wr => ∃ j : Nat, j ≤ bs.length ∧ i = .int .i64 j ∧ kk = .int .i64 ((k : Int) + 2 * (j : Int)) ∧ OwnPt wr base (.slice (some ⟨g, 0, none⟩) bs.length cap) (pmarks k j ++ bs.drop j) ∧ w.grownBy wr (some g)) (fun _ i _ => bs.length - (intOf i).toNat)
    case atStart => exact ⟨0, Nat.zero_le _, rfl, by simp, by simpa [pmarks] using hown, grownBy_one _ _⟩
    case round =>
      obtain ⟨j, hj, rfl, rfl, ho, hg⟩ := hrel
      have hlen : (pmarks k j ++ bs.drop j).length = bs.length := by simp [pmarks_length]; omega
      by_cases hlt : j < bs.length
      · have ho1 : wr.ownsRow base 68 2 (.slice (some ⟨g, 0, none⟩) bs.length cap) bs.length (PtV (pmarks k j ++ bs.drop j)) := by have h := ho; unfold OwnPt at h; rwa [hlen] at h
        have d0 := (ownPt_cell ho1 hlen.symm j hlt).1
        have f0 := ho1.frozenAt (j * 2)
        have R1 := ownPt_store ho1 (k := j) (j := 0) (by omega) (by omega) (u := .int .i64 ((k : Int) + 2 * (j : Int))) (e' := { nthP (pmarks k j ++ bs.drop j) j with pos := (k : Int) + 2 * (j : Int) }) rfl
        have G1 : w.grownBy (wr.setCell ⟨g, j * 2, none⟩ (.int .i64 ((k : Int) + 2 * (j : Int)))) (some g) := smark_frame hg (Below.refl _ _)
        obtain ⟨x, hx⟩ : ∃ x, x = nthP (pmarks k j ++ bs.drop j) j := ⟨_, rfl⟩
        rw [← hx] at R1
        have H1 : Hid (World.ownsRow _ _ _ _ _ _ _) := R1
        clear ho ho1 hg R1 hx
        go_wp2_with fail
        refine (markText_at _ (k + 2 * j + 1) _ (by omega) (by omega) (by omega)).mono ?_
        rintro e2 w2 ⟨rfl, hb2⟩
        have ho2 := own_below H1.out hb2
        have l2 : ((pmarks k j ++ bs.drop j).set j { x with pos := (k : Int) + 2 * (j : Int) }).length = bs.length := by rw [List.length_set]; exact hlen
        have d1 := (ownPt_cell ho2 l2.symm j hlt).2
        have f1 := ho2.frozenAt (j * 2 + 1)
        have R2 := ownPt_store ho2 (k := j) (j := 1) (by omega) (by omega) (u := .string (mk (k + 2 * j + 1))) (e' := pmk (k + 2 * j)) (by
          rw [nthP_set_same (by omega)]
          show [Value.int .i64 ((k : Int) + 2 * (j : Int)), Value.string (mk (k + 2 * j + 1))] = PtC (pmk (k + 2 * j))
          have e1 : (k : Int) + 2 * (j : Int) = ((k + 2 * j : Nat) : Int) := by omega
          rw [e1]
          rfl)
        rw [List.set_set, pmark_step k j bs hlt] at R2
        have G2 : w.grownBy (w2.setCell ⟨g, j * 2 + 1, none⟩ (.string (mk (k + 2 * j + 1)))) (some g) := smark_frame G1 hb2
        have H2 : Hid (World.ownsRow _ _ _ _ _ _ _) := R2
        clear ho2 R2 H1 G1 hb2 d0 f0
        go_wp2
        go_roundw
        case rel =>
          have hl5 : (pmarks k (j + 1) ++ bs.drop (j + 1)).length = bs.length := by simp [pmarks_length]; omega
          exact ⟨j + 1, by omega, by go_num, by go_num, by unfold OwnPt; rw [hl5]; exact H2.out, G2⟩
        case measure => simp [intOf]; omega
      · have hje : j = bs.length := by omega
        subst hje
        go_wp2
        go_ret
        exact ⟨ret_intE (by omega), by simpa using ho, hg⟩
  · subst hv
    subst h0
    go_enter Tryz.func34, Tryz.ntmps34
    go_wp2
    refine wp_loop_rounds 1 ?_
    rw [rounds_succ]
    go_wp2
    go_ret
    exact ⟨rfl, hown, grownBy_one _ _⟩
set_option maxHeartbeats 4000000 in
set_option maxRecDepth 100000 in
theorem pheld_any (v : Value) (n k : Nat) (w : World) (hk0 : 0 < k) (hk : k + 2 * n ≤ 4194304) (hr : RdPt w v (pmarks k n)) :
    Calls Tryz.prog 36 #[v, .int .i64 (k : Int)] w fun e w' => e = .returned (.int .i64 ((k + 2 * n : Nat) : Int)) ∧ Below w.heap.size w w' := by
  obtain ⟨a, cap, hv, hl, hm, _⟩ := id hr
  rw [pmarks_length] at hv hl
  unfold maxLen at hm
  subst hv
  go_enter Tryz.func36, Tryz.ntmps36
  go_wp2
  go_loopw [1, 5] (fun kk i wr => ∃ j : Nat, j ≤ n ∧ i = .int .i64 j ∧ kk = .int .i64 ((k : Int) + 2 * (j : Int)) ∧ Below w.heap.size w wr) (fun _ i _ => n - (intOf i).toNat)
  case atStart => exact ⟨0, Nat.zero_le _, rfl, by simp, Below.refl _ _⟩
  case round =>
    obtain ⟨j, hj, rfl, rfl, hb⟩ := hrel
    by_cases hlt : j < n
    · obtain ⟨b, off, rfl, hc⟩ := (hr.below hb).at (pmarks_length k n).symm j (by rw [pmarks_length]; exact hlt)
      rw [pmarks_nth k n j hlt] at hc
      have hl2 := hc.lt
      have hjl : (j : Int) < (n : Int) := by omega
      have hjc : j < cap := by omega
      have hse : (((k + 2 * j : Nat) : Int)) = (k : Int) + 2 * (j : Int) := by omega
      obtain ⟨c0, c1⟩ := hc
      change _ = some (Value.int .i64 ((k + 2 * j : Nat) : Int)) at c0
      change _ = some (Value.string (mk (k + 2 * j + 1))) at c1
      rw [hse] at c0
      clear hse
      have hne : (((k : Int) + 2 * (j : Int)) != ((k : Int) + 2 * (j : Int))) = false := by simp
      go_wp2_with fail
      refine wp_region_noPanic ?_
      refine wp_region_held_drew (S := fun w' => w'.cell? ⟨b, off + j * 2 + 1, none⟩ = some (.string (mk (k + 2 * j + 1)))) (by kernel_rfl) c1 (fun hH => ?_)
      refine tkG 0 21 hH ?_
      try simp only [Act.put, List.setIfInBounds_toArray, List.set_cons_zero, List.set_cons_succ]
      refine tkG 1 22 hH ?_
      try simp only [Act.put, List.setIfInBounds_toArray, List.set_cons_zero, List.set_cons_succ]
      refine tkG 2 23 hH ?_
      try simp only [Act.put, List.setIfInBounds_toArray, List.set_cons_zero, List.set_cons_succ]
      refine tkG 3 24 hH ?_
      try simp only [Act.put, List.setIfInBounds_toArray, List.set_cons_zero, List.set_cons_succ]
      refine tkG 4 25 hH ?_
      try simp only [Act.put, List.setIfInBounds_toArray, List.set_cons_zero, List.set_cons_succ]
      refine tkG 5 26 hH ?_
      try simp only [Act.put, List.setIfInBounds_toArray, List.set_cons_zero, List.set_cons_succ]
      refine wpAnyH_ready (rs := [6]) (by kernel_rfl) (by simp) ?_
      refine AllReadyH.cons rfl (fun K hK => ?_) AllReadyH.nil
      go_simp
      refine (markText_at _ (k + 2 * j + 1) _ (by omega) (by omega) (by omega)).mono ?_
      rintro e w1 ⟨rfl, hb1⟩
      obtain ⟨q1, _⟩ := bcell hb1
      refine hK.out _ _ ((q1 _ _ hl2).trans c1) (fun hA => ?_)
      clear hK K
      try simp only [Act.put, List.setIfInBounds_toArray, List.set_cons_zero, List.set_cons_succ]
      refine tkG 7 28 hA ?_
      try simp only [Act.put, List.setIfInBounds_toArray, List.set_cons_zero, List.set_cons_succ]
      refine wpAnyH_done (by kernel_rfl) ?_ _
      refine NoPanic.normal ?_
      have b1 := hb.drew.trans (hb1.mono hb.size)
      clear hH hA hb hb1 q1 c0 c1
      go_wp2
      go_roundw
      case rel => exact ⟨j + 1, by omega, by go_num, by go_num, b1⟩
      case measure => simp [intOf]; omega
    · have hje : j = n := by omega
      subst hje
      go_wp2
      go_ret
      exact ⟨ret_intE (by omega), hb⟩
/-- A device whose rows are marked from k on. -/
def mkDv (k : Nat) (X : DvX) : DvX := ⟨X.vs, X.vl, smarks k X.secs.length, pmarks (k + X.secs.length) X.late.length⟩
def cntDv (X : DvX) : Nat := X.secs.length + 2 * X.late.length
theorem dvB_mk (k : Nat) (X : DvX) : dvB (mkDv k X) = dvB X := rfl
def MarkDv (w : World) (B k : Nat) (X : DvX) (e : Ending) (w' : World) : Prop := e = .returned (.int .i64 ((k + cntDv X : Nat) : Int)) ∧ OwnDv w' B (mkDv k X) ∧ Touch (dvB X) w w'
set_option maxHeartbeats 4000000 in
set_option maxRecDepth 100000 in
theorem markDevice_any (X : DvX) (B k : Nat) (w : World) (ho : OwnDv w B X) (hk0 : 0 < k) (hk : k + cntDv X ≤ 4194304) :
    Calls Tryz.prog 13 #[.agg #[X.vs, X.vl], .int .i64 (k : Int)] w fun e w' => MarkDv w B k X e w' := by
  unfold cntDv at hk
  have HS : Hid (∀ W, OwnS W B X.vs X.secs → Calls Tryz.prog 33 #[X.vs, .int .i64 (k : Int)] W fun e w' => e = .returned (.int .i64 ((k + X.secs.length : Nat) : Int)) ∧ OwnS w' B X.vs (smarks k X.secs.length) ∧ W.grownBy w' X.vs.ownBlock) := fun W h => smark_any _ _ B k W hk0 (by omega) h
  have HP : Hid (∀ W, OwnPt W B X.vl X.late → Calls Tryz.prog 34 #[X.vl, .int .i64 ((k + X.secs.length : Nat) : Int)] W fun e w' => e = .returned (.int .i64 ((k + X.secs.length + 2 * X.late.length : Nat) : Int)) ∧ OwnPt w' B X.vl (pmarks (k + X.secs.length) X.late.length) ∧ W.grownBy w' X.vl.ownBlock) := fun W h => pmark_any _ _ B _ W (by omega) (by omega) h
  have HE : Hid (k + cntDv X = k + X.secs.length + 2 * X.late.length) := by unfold Hid cntDv; omega
  have NB : Hid (∀ q ∈ dvB X, q < w.heap.size) := fun q hq => (ho.bound hq).2
  have AP : Hid (∀ q, X.vs.ownBlock = some q → X.vl.ownBlock = some q → False) := rows_apart ho.secs ho.late (by decide)
  have t0 := dvAt_new w X 31
  have b0 := below1 w (.cells #[X.vs, X.vl] 31)
  have ho0 := ho.below b0
  have hb0 : w.heap.size < (w.alloc (.cells #[X.vs, X.vl] 31)).heap.size := by simp
  have T0 : Hid (Touch (dvB X) w (w.alloc (.cells #[X.vs, X.vl] 31))) := Touch.of_below b0
  obtain ⟨q0, q1⟩ := id t0
  clear ho b0 hk
  obtain ⟨k1, hk1⟩ : ∃ k1, k1 = k + X.secs.length := ⟨_, rfl⟩
  rw [← hk1] at HS HP HE
  have HK1 : Hid (k1 = k + X.secs.length) := hk1
  clear hk1
  go_enter Tryz.func13, Tryz.ntmps13
  go_wp2_with fail
  generalize w.alloc (.cells #[X.vs, X.vl] 31) = W0 at t0 ho0 hb0 T0 q0 q1 ⊢
  refine (HS.out _ ho0.secs).mono ?_
  rintro e w1 ⟨rfl, hs1, hg1⟩
  have tch1 : Touch (oneB X.vs) W0 w1 := Touch.of_grown hg1 (fun q hq => mem_oneB.2 hq)
  have t1 : DvAt w1 w.heap.size X := tch1.dv t0 (fun e => by have := NB.out _ (List.mem_append_left _ e); omega)
  have hl1 : OwnPt w1 B X.vl X.late := tch1.row ho0.late (fun q hq e => AP.out q (mem_oneB.1 e) hq)
  have T1 : Hid (Touch (dvB X) w w1) := T0.out.trans (tch1.more (fun q hq => List.mem_append_left _ hq))
  clear t0 ho0 hb0 T0 q0 q1 tch1 hg1 HS
  obtain ⟨q0, q1⟩ := id t1
  go_wp2_with fail
  refine (HP.out _ hl1).mono ?_
  rintro e w2 ⟨rfl, hl2, hg2⟩
  have tch2 : Touch (oneB X.vl) w1 w2 := Touch.of_grown hg2 (fun q hq => mem_oneB.2 hq)
  have hs2 : OwnS w2 B X.vs (smarks k X.secs.length) := tch2.row hs1 (fun q hq e => AP.out q hq (mem_oneB.1 e))
  have T2 : Hid (Touch (dvB X) w w2) := T1.out.trans (tch2.more (fun q hq => List.mem_append_right _ hq))
  have END : Hid (MarkDv w B k X (.returned (.int .i64 ((k1 + 2 * X.late.length : Nat) : Int))) w2) := by
    refine ⟨by rw [HE.out], ⟨hs2, ?_⟩, T2.out⟩
    show OwnPt w2 B X.vl (pmarks (k + X.secs.length) X.late.length)
    rw [← HK1.out]
    exact hl2
  clear t1 hl1 T1 q0 q1 tch2 hg2 HP hs1 hs2 hl2 T2
  go_wp2
  go_ret
  exact END.out
set_option maxHeartbeats 4000000 in
set_option maxRecDepth 100000 in
theorem heldDevice_any (X : DvX) (k : Nat) (w : World) (hr : RdDv w (mkDv k X)) (hk0 : 0 < k) (hk : k + cntDv X ≤ 4194304) :
    Calls Tryz.prog 14 #[.agg #[X.vs, X.vl], .int .i64 (k : Int)] w fun e w' => e = .returned (.int .i64 ((k + cntDv X : Nat) : Int)) ∧ Below w.heap.size w w' := by
  unfold cntDv at hk
  obtain ⟨hs, -, hl⟩ := hr
  change RdS w X.vs (smarks k X.secs.length) at hs
  change RdPt w X.vl (pmarks (k + X.secs.length) X.late.length) at hl
  obtain ⟨k1, hk1⟩ : ∃ k1, k1 = k + X.secs.length := ⟨_, rfl⟩
  rw [← hk1] at hl
  have HS : Hid (∀ W, RdS W X.vs (smarks k X.secs.length) → Calls Tryz.prog 35 #[X.vs, .int .i64 (k : Int)] W fun e w' => e = .returned (.int .i64 (k1 : Int)) ∧ Below W.heap.size W w') := fun W h => by
    have := sheld_any _ _ k W hk0 (by omega) h
    rw [hk1]
    exact this
  have HP : Hid (∀ W, RdPt W X.vl (pmarks k1 X.late.length) → Calls Tryz.prog 36 #[X.vl, .int .i64 (k1 : Int)] W fun e w' => e = .returned (.int .i64 ((k1 + 2 * X.late.length : Nat) : Int)) ∧ Below W.heap.size W w') := fun W h => pheld_any _ _ _ W (by omega) (by omega) h
  have HE : Hid (k + cntDv X = k1 + 2 * X.late.length) := by unfold Hid cntDv; omega
  have hn1 : ¬ ((k1 : Int) < 0) := by omega
  have hn2 : ¬ ((k1 + 2 * X.late.length : Nat) : Int) < 0 := by omega
  have t0 := dvAt_new w X 31
  have b0 := below1 w (.cells #[X.vs, X.vl] 31)
  obtain ⟨q0, q1⟩ := id t0
  rw [HE.out]
  generalize (k1 + 2 * X.late.length : Nat) = k2 at HP hn2 ⊢
  clear hk1 hk HE
  go_enter Tryz.func14, Tryz.ntmps14
  go_wp2_with fail
  refine (HS.out _ (hs.below b0)).mono ?_
  rintro e w1 ⟨rfl, hb1⟩
  have t1 := t0.below hb1
  have b1 := b0.trans (hb1.mono b0.size)
  clear t0 b0 hb1 q0 q1 HS
  obtain ⟨q0, q1⟩ := id t1
  go_wp2_with fail
  refine (HP.out _ (hl.below b1)).mono ?_
  rintro e w2 ⟨rfl, hb2⟩
  have b2 := b1.trans (hb2.mono b1.size)
  clear t1 b1 hb2 q0 q1 HP
  go_wp2
  go_ret
  exact ⟨rfl, b2⟩
end Go.Proofs.YthchhkiijehjbaaGreatDoor
