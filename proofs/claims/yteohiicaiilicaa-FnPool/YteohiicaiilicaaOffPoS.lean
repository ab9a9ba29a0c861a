/- The contracts of both PoolOk. -/
-- UNF Gen
import Derived.Test.YteohiicaiilicaaOffOk
import Derived.Deep.RegionHeld3
namespace Go.Proofs.Yteohiicaiilicaa
open Go.RowKit
theorem okAtO_no {es : List Off} {k : Nat} (h : okO (nthO es k) = false) : okAtO es k = false := by unfold okAtO; rw [h]; rfl
theorem okAtO_zero {es : List Off} {k : Nat} (h0 : k = 0) (h : okO (nthO es k) = true) : okAtO es k = true := by unfold okAtO; rw [h]; simp [h0]
theorem okAtO_at {es : List Off} {k : Nat} (h0 : k ≠ 0) (h : okO (nthO es k) = true) : okAtO es k = !ahO (nthO es k) (nthO es ((k - 1) / 2)) := by unfold okAtO; rw [h]; simp [h0]
theorem okTo_more {es : List Off} {k : Nat} (h : ∀ i, i < k → okAtO es i = true) (hk : okAtO es k = true) : ∀ i, i < k + 1 → okAtO es i = true := fun i hi => by
  by_cases e : i = k
  · rw [e]; exact hk
  · exact h i (by omega)
set_option maxHeartbeats 4000000 in
set_option maxRecDepth 100000 in
theorem specPoolOk_any (v : Value) (es : List Off) (w : World) (hr : RdO w v es) (hf : ∀ e ∈ es, e.text.size ≤ maxLen) :
    Calls Try.prog 18 #[v] w fun e w' => e = .returned (.bool (poolOk es)) ∧ Below w.heap.size w w' := by
  obtain ⟨a, cap, hv, hl, hm, _⟩ := id hr
  unfold maxLen at hm
  subst hv
  have HF : Hid (∀ e ∈ es, e.text.size ≤ maxLen) := hf
  clear hf
  by_cases hbig : 50 < es.length
  · have RES : Hid (poolOk es = false) := poolOk_big hbig
    go_enter Try.func18, Try.ntmps18
    go_wp2
    go_ret
    exact ⟨ret_bool RES.out.symm, Below.refl _ _⟩
  · go_enter Try.func18, Try.ntmps18
    go_wp2
    go_loopw [3] (fun i wr => ∃ k : Nat, k ≤ es.length ∧ i = .int .i64 k ∧ Hid (∀ i, i < k → okAtO es i = true) ∧ Below w.heap.size w wr) (fun i _ => es.length - (intOf i).toNat)
    case atStart => exact ⟨0, Nat.zero_le _, rfl, (fun i hi => by omega), Below.refl _ _⟩
    case round =>
      obtain ⟨k, hk, rfl, HO, hb⟩ := hrel
      by_cases hlt : k < es.length
      · obtain ⟨b, off, rfl, hc⟩ := hr.at rfl k hlt
        have hc2 := hc.below hb
        have hlt2 := hc2.lt
        obtain ⟨c0, c1⟩ := hc2
        have hfk := HF.out _ (List.getElem_mem hlt)
        rw [← nthO_eq hlt] at hfk
        obtain ⟨x, hx⟩ : ∃ x, x = nthO es k := ⟨_, rfl⟩
        rw [← hx] at c0 c1 hfk
        have HX : Hid (x = nthO es k) := hx
        clear hx hc
        cases hok : okO x with
        | false =>
          have RES : Hid (poolOk es = false) := poolOk_no hlt (okAtO_no (by rw [← HX.out]; exact hok))
          have HC : Hid (∀ W, Calls Try.prog 44 #[.agg #[.int .i64 x.fee, .string x.text]] W fun e w' => e = .returned (.bool false) ∧ Below W.heap.size W w') := fun W => by rw [← hok]; exact l14Offer_any x W hfk
          go_wp2_with fail
          refine wp_region_noPanic ?_
          refine wp_region_held_drew (S := fun w' => w'.cell? ⟨b, off + k * 2, none⟩ = some (.int .i64 x.fee) ∧ w'.cell? ⟨b, off + k * 2 + 1, none⟩ = some (.string x.text)) (by kernel_rfl) ⟨c0, c1⟩ (fun hH => ?_)
          refine tkG 0 13 hH ?_
          try simp only [Act.put, List.setIfInBounds_toArray, List.set_cons_zero, List.set_cons_succ]
          refine tkG 1 14 hH ?_
          try simp only [Act.put, List.setIfInBounds_toArray, List.set_cons_zero, List.set_cons_succ]
          refine tkG 2 15 hH ?_
          try simp only [Act.put, List.setIfInBounds_toArray, List.set_cons_zero, List.set_cons_succ]
          refine tkG 3 16 hH ?_
          try simp only [Act.put, List.setIfInBounds_toArray, List.set_cons_zero, List.set_cons_succ]
          refine wpAnyH_ready (rs := [4]) (by kernel_rfl) (by simp) ?_
          refine AllReadyH.cons rfl (fun K hK => ?_) AllReadyH.nil
          go_simp
          refine (HC.out _).mono ?_
          rintro e w' ⟨rfl, hb'⟩
          refine hK.out _ _ (OffAt.below (w := wr.drew) (e := x) hH hb') (fun hA => ?_)
          clear hK K
          try simp only [Act.put, List.setIfInBounds_toArray, List.set_cons_zero, List.set_cons_succ]
          refine tkG 5 18 hA ?_
          try simp only [Act.put, List.setIfInBounds_toArray, List.set_cons_zero, List.set_cons_succ]
          refine tkG 6 19 hA ?_
          try simp only [Act.put, List.setIfInBounds_toArray, List.set_cons_zero, List.set_cons_succ]
          refine tkS 7 20 hA ?_
          try simp only [Act.put, List.setIfInBounds_toArray, List.set_cons_zero, List.set_cons_succ]
          refine tkS 8 21 hA ?_
          try simp only [Act.put, List.setIfInBounds_toArray, List.set_cons_zero, List.set_cons_succ]
          refine tkS 9 22 hA ?_
          try simp only [Act.put, List.setIfInBounds_toArray, List.set_cons_zero, List.set_cons_succ]
          refine tkS 10 23 hA ?_
          try simp only [Act.put, List.setIfInBounds_toArray, List.set_cons_zero, List.set_cons_succ]
          refine tkS 11 24 hA ?_
          try simp only [Act.put, List.setIfInBounds_toArray, List.set_cons_zero, List.set_cons_succ]
          refine tkS 12 25 hA ?_
          try simp only [Act.put, List.setIfInBounds_toArray, List.set_cons_zero, List.set_cons_succ]
          refine tkS 13 26 hA ?_
          try simp only [Act.put, List.setIfInBounds_toArray, List.set_cons_zero, List.set_cons_succ]
          refine tkS 14 27 hA ?_
          try simp only [Act.put, List.setIfInBounds_toArray, List.set_cons_zero, List.set_cons_succ]
          refine tkS 15 28 hA ?_
          try simp only [Act.put, List.setIfInBounds_toArray, List.set_cons_zero, List.set_cons_succ]
          refine tkS 16 29 hA ?_
          try simp only [Act.put, List.setIfInBounds_toArray, List.set_cons_zero, List.set_cons_succ]
          refine tkS 17 30 hA ?_
          try simp only [Act.put, List.setIfInBounds_toArray, List.set_cons_zero, List.set_cons_succ]
          refine tkS 18 31 hA ?_
          try simp only [Act.put, List.setIfInBounds_toArray, List.set_cons_zero, List.set_cons_succ]
          refine tkS 19 32 hA ?_
          try simp only [Act.put, List.setIfInBounds_toArray, List.set_cons_zero, List.set_cons_succ]
          refine tkS 20 33 hA ?_
          try simp only [Act.put, List.setIfInBounds_toArray, List.set_cons_zero, List.set_cons_succ]
          refine tkS 21 34 hA ?_
          try simp only [Act.put, List.setIfInBounds_toArray, List.set_cons_zero, List.set_cons_succ]
          refine tkG 22 35 hA ?_
          try simp only [Act.put, List.setIfInBounds_toArray, List.set_cons_zero, List.set_cons_succ]
          refine wpAnyH_done (by kernel_rfl) ?_ _
          refine NoPanic.normal ?_
          go_wp2
          go_ret
          exact ⟨ret_bool RES.out.symm, hb.drew.trans (hb'.mono hb.size)⟩
        | true =>
          have HC : Hid (∀ W, Calls Try.prog 44 #[.agg #[.int .i64 x.fee, .string x.text]] W fun e w' => e = .returned (.bool true) ∧ Below W.heap.size W w') := fun W => by rw [← hok]; exact l14Offer_any x W hfk
          by_cases hk0 : k = 0
          · skip
            have HO2 : Hid (∀ i, i < k + 1 → okAtO es i = true) := okTo_more HO.out (okAtO_zero hk0 (by rw [← HX.out]; exact hok))
            have hkn : decide (0 < k) = false := by simpa using hk0
            clear hk0
            go_wp2_with fail
            refine wp_region_noPanic ?_
            refine wp_region_held_drew (S := fun w' => w'.cell? ⟨b, off + k * 2, none⟩ = some (.int .i64 x.fee) ∧ w'.cell? ⟨b, off + k * 2 + 1, none⟩ = some (.string x.text)) (by kernel_rfl) ⟨c0, c1⟩ (fun hH => ?_)
            refine tkG 0 13 hH ?_
            try simp only [Act.put, List.setIfInBounds_toArray, List.set_cons_zero, List.set_cons_succ]
            refine tkG 1 14 hH ?_
            try simp only [Act.put, List.setIfInBounds_toArray, List.set_cons_zero, List.set_cons_succ]
            refine tkG 2 15 hH ?_
            try simp only [Act.put, List.setIfInBounds_toArray, List.set_cons_zero, List.set_cons_succ]
            refine tkG 3 16 hH ?_
            try simp only [Act.put, List.setIfInBounds_toArray, List.set_cons_zero, List.set_cons_succ]
            refine wpAnyH_ready (rs := [4]) (by kernel_rfl) (by simp) ?_
            refine AllReadyH.cons rfl (fun K hK => ?_) AllReadyH.nil
            go_simp
            refine (HC.out _).mono ?_
            rintro e w' ⟨rfl, hb'⟩
            refine hK.out _ _ (OffAt.below (w := wr.drew) (e := x) hH hb') (fun hA => ?_)
            clear hK K
            try simp only [Act.put, List.setIfInBounds_toArray, List.set_cons_zero, List.set_cons_succ]
            refine tkG 5 18 hA ?_
            try simp only [Act.put, List.setIfInBounds_toArray, List.set_cons_zero, List.set_cons_succ]
            refine tkG 6 19 hA ?_
            try simp only [Act.put, List.setIfInBounds_toArray, List.set_cons_zero, List.set_cons_succ]
            refine tkG 7 20 hA ?_
            try simp only [Act.put, List.setIfInBounds_toArray, List.set_cons_zero, List.set_cons_succ]
            refine tkG 8 21 hA ?_
            try simp only [Act.put, List.setIfInBounds_toArray, List.set_cons_zero, List.set_cons_succ]
            refine tkG 9 22 hA ?_
            try simp only [Act.put, List.setIfInBounds_toArray, List.set_cons_zero, List.set_cons_succ]
            refine tkS 10 23 hA ?_
            try simp only [Act.put, List.setIfInBounds_toArray, List.set_cons_zero, List.set_cons_succ]
            refine tkS 11 24 hA ?_
            try simp only [Act.put, List.setIfInBounds_toArray, List.set_cons_zero, List.set_cons_succ]
            refine tkS 12 25 hA ?_
            try simp only [Act.put, List.setIfInBounds_toArray, List.set_cons_zero, List.set_cons_succ]
            refine tkS 13 26 hA ?_
            try simp only [Act.put, List.setIfInBounds_toArray, List.set_cons_zero, List.set_cons_succ]
            refine tkS 14 27 hA ?_
            try simp only [Act.put, List.setIfInBounds_toArray, List.set_cons_zero, List.set_cons_succ]
            refine tkS 15 28 hA ?_
            try simp only [Act.put, List.setIfInBounds_toArray, List.set_cons_zero, List.set_cons_succ]
            refine tkS 16 29 hA ?_
            try simp only [Act.put, List.setIfInBounds_toArray, List.set_cons_zero, List.set_cons_succ]
            refine tkS 17 30 hA ?_
            try simp only [Act.put, List.setIfInBounds_toArray, List.set_cons_zero, List.set_cons_succ]
            refine tkS 18 31 hA ?_
            try simp only [Act.put, List.setIfInBounds_toArray, List.set_cons_zero, List.set_cons_succ]
            refine tkS 19 32 hA ?_
            try simp only [Act.put, List.setIfInBounds_toArray, List.set_cons_zero, List.set_cons_succ]
            refine tkS 20 33 hA ?_
            try simp only [Act.put, List.setIfInBounds_toArray, List.set_cons_zero, List.set_cons_succ]
            refine tkG 21 34 hA ?_
            try simp only [Act.put, List.setIfInBounds_toArray, List.set_cons_zero, List.set_cons_succ]
            refine tkG 22 35 hA ?_
            try simp only [Act.put, List.setIfInBounds_toArray, List.set_cons_zero, List.set_cons_succ]
            refine wpAnyH_done (by kernel_rfl) ?_ _
            refine NoPanic.normal ?_
            go_wp2
            go_roundw
            case rel => exact ⟨k + 1, by omega, by go_num, HO2, hb.drew.trans (hb'.mono hb.size)⟩
            case measure => simp [intOf]; omega
          · skip
            obtain ⟨b2, off2, ha2, hd⟩ := hr.at rfl ((k - 1) / 2) (by omega)
            simp only [Option.some.injEq, Addr.mk.injEq] at ha2
            obtain ⟨rfl, rfl, _⟩ := ha2
            have hd2 := hd.below hb
            obtain ⟨d0, d1⟩ := hd2
            obtain ⟨y, hy⟩ : ∃ y, y = nthO es ((k - 1) / 2) := ⟨_, rfl⟩
            rw [← hy] at d0 d1
            have HY : Hid (y = nthO es ((k - 1) / 2)) := hy
            obtain ⟨j, hj⟩ : ∃ j, j = (k - 1) / 2 := ⟨_, rfl⟩
            rw [← hj] at d0 d1
            have HAT : Hid (okAtO es k = !ahO x y) := by
              unfold Hid
              rw [okAtO_at hk0 (by rw [← HX.out]; exact hok), ← HX.out, ← HY.out]
            obtain ⟨m, hm'⟩ : ∃ m, m = k - 1 := ⟨_, rfl⟩
            have hkm : (k : Int) - 1 = (m : Int) := by omega
            have hwm : IntKind.i64.wrap (m : Int) = (m : Int) := by rw [IntKind.wrap_i64]; omega
            have hdv : (m : Int).tdiv 2 = (j : Int) := by rw [hj, ← hm', Int.tdiv_eq_ediv_of_nonneg (by omega)]; omega
            have hkp : decide (0 < k) = true := by simp; omega
            have hj1 : (j : Int) < (es.length : Int) := by omega
            have hj0 : (0 : Int) ≤ (j : Int) := by omega
            have hjn : j < es.length := by omega
            have hwr : IntKind.i64.wrap (j : Int) = (j : Int) := by rw [IntKind.wrap_i64]; omega
            have hk1 : (k : Int) < (es.length : Int) := by omega
            have HCA : Hid (∀ W, Calls Try.prog 45 #[.agg #[.int .i64 x.fee, .string x.text], .agg #[.int .i64 y.fee, .string y.text]] W fun e w' => e = .returned (.bool (ahO x y)) ∧ Below W.heap.size W w') := fun W => l14Ahead_any x y W
            generalize ahO x y = A at HAT HCA
            clear hj hk0 hm' hy hd
            go_wp2_with fail
            refine wp_region_noPanic ?_
            refine wp_region_held_drew (S := fun w' => (w'.cell? ⟨b, off + k * 2, none⟩ = some (.int .i64 x.fee) ∧ w'.cell? ⟨b, off + k * 2 + 1, none⟩ = some (.string x.text)) ∧ (w'.cell? ⟨b, off + j * 2, none⟩ = some (.int .i64 y.fee) ∧ w'.cell? ⟨b, off + j * 2 + 1, none⟩ = some (.string y.text))) (by kernel_rfl) ⟨⟨c0, c1⟩, ⟨d0, d1⟩⟩ (fun hH => ?_)
            refine tkG 0 13 hH ?_
            try simp only [Act.put, List.setIfInBounds_toArray, List.set_cons_zero, List.set_cons_succ]
            refine tkG 1 14 hH ?_
            try simp only [Act.put, List.setIfInBounds_toArray, List.set_cons_zero, List.set_cons_succ]
            refine tkG 2 15 hH ?_
            try simp only [Act.put, List.setIfInBounds_toArray, List.set_cons_zero, List.set_cons_succ]
            refine tkG 3 16 hH ?_
            try simp only [Act.put, List.setIfInBounds_toArray, List.set_cons_zero, List.set_cons_succ]
            refine wpAnyH_ready (rs := [4]) (by kernel_rfl) (by simp) ?_
            refine AllReadyH.cons rfl (fun K hK => ?_) AllReadyH.nil
            go_simp
            refine (HC.out _).mono ?_
            rintro e w1 ⟨rfl, hb1⟩
            refine hK.out _ _ ⟨OffAt.below (w := wr.drew) (e := x) hH.1 hb1, OffAt.below (w := wr.drew) (e := y) hH.2 hb1⟩ (fun hA => ?_)
            clear hK K
            try simp only [Act.put, List.setIfInBounds_toArray, List.set_cons_zero, List.set_cons_succ]
            refine tkG 5 18 hA ?_
            try simp only [Act.put, List.setIfInBounds_toArray, List.set_cons_zero, List.set_cons_succ]
            refine tkG 6 19 hA ?_
            try simp only [Act.put, List.setIfInBounds_toArray, List.set_cons_zero, List.set_cons_succ]
            refine tkG 7 20 hA ?_
            try simp only [Act.put, List.setIfInBounds_toArray, List.set_cons_zero, List.set_cons_succ]
            refine tkG 8 21 hA ?_
            try simp only [Act.put, List.setIfInBounds_toArray, List.set_cons_zero, List.set_cons_succ]
            refine tkG 9 22 hA ?_
            try simp only [Act.put, List.setIfInBounds_toArray, List.set_cons_zero, List.set_cons_succ]
            refine tkG 10 23 hA ?_
            try simp only [Act.put, List.setIfInBounds_toArray, List.set_cons_zero, List.set_cons_succ]
            refine tkG 11 24 hA ?_
            try simp only [Act.put, List.setIfInBounds_toArray, List.set_cons_zero, List.set_cons_succ]
            refine tkG 12 25 hA ?_
            try simp only [Act.put, List.setIfInBounds_toArray, List.set_cons_zero, List.set_cons_succ]
            refine tkG 13 26 hA ?_
            try simp only [Act.put, List.setIfInBounds_toArray, List.set_cons_zero, List.set_cons_succ]
            refine tkG 14 27 hA ?_
            try simp only [Act.put, List.setIfInBounds_toArray, List.set_cons_zero, List.set_cons_succ]
            refine tkG 15 28 hA ?_
            try simp only [Act.put, List.setIfInBounds_toArray, List.set_cons_zero, List.set_cons_succ]
            refine tkG 16 29 hA ?_
            try simp only [Act.put, List.setIfInBounds_toArray, List.set_cons_zero, List.set_cons_succ]
            refine tkG 17 30 hA ?_
            try simp only [Act.put, List.setIfInBounds_toArray, List.set_cons_zero, List.set_cons_succ]
            refine tkG 18 31 hA ?_
            try simp only [Act.put, List.setIfInBounds_toArray, List.set_cons_zero, List.set_cons_succ]
            refine tkG 19 32 hA ?_
            try simp only [Act.put, List.setIfInBounds_toArray, List.set_cons_zero, List.set_cons_succ]
            refine wpAnyH_ready (rs := [20]) (by kernel_rfl) (by simp) ?_
            refine AllReadyH.cons rfl (fun K hK => ?_) AllReadyH.nil
            go_simp
            refine (HCA.out _).mono ?_
            rintro e w2 ⟨rfl, hb2⟩
            refine hK.out _ _ ⟨OffAt.below (e := x) hA.1 hb2, OffAt.below (e := y) hA.2 hb2⟩ (fun hB => ?_)
            clear hK K
            try simp only [Act.put, List.setIfInBounds_toArray, List.set_cons_zero, List.set_cons_succ]
            refine tkG 21 34 hB ?_
            try simp only [Act.put, List.setIfInBounds_toArray, List.set_cons_zero, List.set_cons_succ]
            refine tkG 22 35 hB ?_
            try simp only [Act.put, List.setIfInBounds_toArray, List.set_cons_zero, List.set_cons_succ]
            refine wpAnyH_done (by kernel_rfl) ?_ _
            refine NoPanic.normal ?_
            have bz := (hb.drew.trans (hb1.mono hb.size)).trans (hb2.mono (by have := hb.size; have := hb1.size; simp at this; omega))
            clear hH hA hB c0 c1 d0 d1
            cases A with
            | true =>
              have RES : Hid (poolOk es = false) := poolOk_no hlt HAT.out
              go_wp2
              go_ret
              exact ⟨ret_bool RES.out.symm, bz⟩
            | false =>
              have HO2 : Hid (∀ i, i < k + 1 → okAtO es i = true) := okTo_more HO.out HAT.out
              go_wp2
              go_roundw
              case rel => exact ⟨k + 1, by omega, by go_num, HO2, bz⟩
              case measure => simp [intOf]; omega
      · have hke : k = es.length := by omega
        subst hke
        have RES : Hid (poolOk es = true) := poolOk_yes (by omega) HO.out
        go_wp2
        go_ret
        exact ⟨ret_bool RES.out.symm, hb⟩
end Go.Proofs.Yteohiicaiilicaa
