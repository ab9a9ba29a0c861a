/- The contract of the program's EntriesOk. -/
import Derived.Test.YthaobdknpgnapaaG13
import Derived.Test.YthaobdknpgnapaaEntSpecOk
import Derived.Deep.RegionHeld3
namespace Go.Proofs.Ythaobdknpgnapaa
open Go.RowKit
theorem entryOk_yes (a : Ent) (w : World) (hf : Fits a) (h : okE a = true) :
    Calls Try.prog 44 #[.agg #[.string a.key, .string a.val, .int .i64 a.seq, .bool a.gone]] w fun e w' => e = .returned (.bool true) ∧ Below w.heap.size w w' := by
  have := entryOk_any a w hf; rwa [h] at this
theorem entryOk_no (a : Ent) (w : World) (hf : Fits a) (h : okE a = false) :
    Calls Try.prog 44 #[.agg #[.string a.key, .string a.val, .int .i64 a.seq, .bool a.gone]] w fun e w' => e = .returned (.bool false) ∧ Below w.heap.size w w' := by
  have := entryOk_any a w hf; rwa [h] at this
theorem entAt_new (W : World) (x : Ent) (t : TypeId) : EntAt (W.alloc (.cells #[.string x.key, .string x.val, .int .i64 x.seq, .bool x.gone] t)) W.heap.size 0 x :=
  ⟨by simp [World.cell?_alloc_at], by simp [World.cell?_alloc_at], by simp [World.cell?_alloc_at], by simp [World.cell?_alloc_at]⟩
theorem EntAt.alloc {w : World} {b o : Nat} {e : Ent} (h : EntAt w b o e) (x : Obj) : EntAt (w.alloc x) b o e := h.below (below1 _ _)
theorem ordE_lt {a b : Ent} (h : ahd a b = true) : ordE a b < 0 := (ordE_neg a b).2 h
theorem ordE_ge {a b : Ent} (h : ahd a b = false) : 0 ≤ ordE a b := by
  rcases Int.lt_or_le (ordE a b) 0 with h1 | h1
  · rw [(ordE_neg a b).1 h1] at h; cases h
  · exact h1
set_option maxHeartbeats 4000000 in
set_option maxRecDepth 100000 in
theorem implEntriesOk_any (v : Value) (es : List Ent) (w : World) (hr : RdE w v es) (hf : ∀ e ∈ es, Fits e) :
    Calls Try.prog 14 #[v] w fun e w' => e = .returned (.bool (okL es)) ∧ Below w.heap.size w w' := by
  obtain ⟨a, cap, hv, hl, hm, _⟩ := id hr
  unfold maxLen at hm
  subst hv
  have HF : Hid (∀ e ∈ es, Fits e) := hf
  clear hf
  by_cases hbig : 300 < es.length
  · go_enter Try.func14, Try.ntmps14
    go_wp2
    go_ret
    exact ⟨ret_bool (by simp [okL]; omega), Below.refl _ _⟩
  · go_enter Try.func14, Try.ntmps14
    go_wp2
    go_loopw [10] (fun i wr => ∃ k : Nat, k ≤ es.length ∧ i = .int .i64 k ∧ Hid (okTo es k = true) ∧ Below w.heap.size w wr) (fun i _ => es.length - (intOf i).toNat)
    case atStart => exact ⟨0, Nat.zero_le _, rfl, rfl, Below.refl _ _⟩
    case round =>
      obtain ⟨k, hk, rfl, HO, hb⟩ := hrel
      by_cases hlt : k < es.length
      · obtain ⟨b, off, rfl, hc⟩ := hr.at rfl k hlt
        have hc2 := hc.below hb
        have hlt2 := hc2.lt
        obtain ⟨c0, c1, c2, c3⟩ := hc2
        have hfk := HF.out _ (List.getElem_mem hlt)
        rw [← nth_eq hlt] at hfk
        obtain ⟨x, hx⟩ : ∃ x, x = nth es k := ⟨_, rfl⟩
        rw [← hx] at c0 c1 c2 c3 hfk
        have HX : Hid (x = nth es k) := hx
        clear hx hc
        cases hok : okE x with
        | false =>
          have RES : Hid (okL es = false) := okL_no_at hlt (by unfold okAt; rw [← HX.out, hok]; rfl)
          go_wp2_with fail
          refine wp_region_noPanic ?_
          refine wp_region_held_drew (S := fun w' => EntAt w' wr.heap.size 0 x) (by kernel_rfl) (entAt_new _ _ _) (fun hH => ?_)
          refine tkA 0 15 hH ?_
          try simp only [Act.put, List.setIfInBounds_toArray, List.set_cons_zero, List.set_cons_succ]
          refine wpAnyH_ready (rs := [1]) (by kernel_rfl) (by simp) ?_
          refine AllReadyH.cons rfl (fun K hK => ?_) AllReadyH.nil
          go_simp
          refine (entryOk_no x _ hfk hok).mono ?_
          rintro e w' ⟨rfl, hb'⟩
          refine hK.out _ _ (hH.below hb') (fun hA => ?_)
          clear hK K
          try simp only [Act.put, List.setIfInBounds_toArray, List.set_cons_zero, List.set_cons_succ]
          refine tkA 2 17 hA ?_
          try simp only [Act.put, List.setIfInBounds_toArray, List.set_cons_zero, List.set_cons_succ]
          refine tkA 3 18 hA ?_
          try simp only [Act.put, List.setIfInBounds_toArray, List.set_cons_zero, List.set_cons_succ]
          refine tkS 4 19 hA ?_
          try simp only [Act.put, List.setIfInBounds_toArray, List.set_cons_zero, List.set_cons_succ]
          refine tkS 5 20 hA ?_
          try simp only [Act.put, List.setIfInBounds_toArray, List.set_cons_zero, List.set_cons_succ]
          refine tkS 6 21 hA ?_
          try simp only [Act.put, List.setIfInBounds_toArray, List.set_cons_zero, List.set_cons_succ]
          refine tkS 7 22 hA ?_
          try simp only [Act.put, List.setIfInBounds_toArray, List.set_cons_zero, List.set_cons_succ]
          refine tkS 8 23 hA ?_
          try simp only [Act.put, List.setIfInBounds_toArray, List.set_cons_zero, List.set_cons_succ]
          refine tkS 9 24 hA ?_
          try simp only [Act.put, List.setIfInBounds_toArray, List.set_cons_zero, List.set_cons_succ]
          refine tkS 10 25 hA ?_
          try simp only [Act.put, List.setIfInBounds_toArray, List.set_cons_zero, List.set_cons_succ]
          refine tkS 11 26 hA ?_
          try simp only [Act.put, List.setIfInBounds_toArray, List.set_cons_zero, List.set_cons_succ]
          refine tkS 12 27 hA ?_
          try simp only [Act.put, List.setIfInBounds_toArray, List.set_cons_zero, List.set_cons_succ]
          refine tkS 13 28 hA ?_
          try simp only [Act.put, List.setIfInBounds_toArray, List.set_cons_zero, List.set_cons_succ]
          refine tkS 14 29 hA ?_
          try simp only [Act.put, List.setIfInBounds_toArray, List.set_cons_zero, List.set_cons_succ]
          refine tkS 15 30 hA ?_
          try simp only [Act.put, List.setIfInBounds_toArray, List.set_cons_zero, List.set_cons_succ]
          refine tkA 16 31 hA ?_
          try simp only [Act.put, List.setIfInBounds_toArray, List.set_cons_zero, List.set_cons_succ]
          refine wpAnyH_done (by kernel_rfl) ?_ _
          refine NoPanic.normal ?_
          go_wp2
          go_ret
          exact ⟨ret_bool RES.out.symm, (hb.alloc hb.size _).drew.trans (hb'.mono (by have := hb.size; simp; omega))⟩
        | true =>
          by_cases hk0 : k = 0
          · skip
            have HO2 : Hid (okTo es (k + 1) = true) := by
              show _ = _
              rw [okTo_succ, HO.out]; unfold okAt; rw [← HX.out, hok]; simp [hk0]
            have hkn : decide (0 < k) = false := by simpa using hk0
            clear hk0
            go_wp2_with fail
            refine wp_region_noPanic ?_
            refine wp_region_held_drew (S := fun w' => EntAt w' wr.heap.size 0 x) (by kernel_rfl) (entAt_new _ _ _) (fun hH => ?_)
            refine tkA 0 15 hH ?_
            try simp only [Act.put, List.setIfInBounds_toArray, List.set_cons_zero, List.set_cons_succ]
            refine wpAnyH_ready (rs := [1]) (by kernel_rfl) (by simp) ?_
            refine AllReadyH.cons rfl (fun K hK => ?_) AllReadyH.nil
            go_simp
            refine (entryOk_yes x _ hfk hok).mono ?_
            rintro e w' ⟨rfl, hb'⟩
            refine hK.out _ _ (hH.below hb') (fun hA => ?_)
            clear hK K
            try simp only [Act.put, List.setIfInBounds_toArray, List.set_cons_zero, List.set_cons_succ]
            refine tkA 2 17 hA ?_
            try simp only [Act.put, List.setIfInBounds_toArray, List.set_cons_zero, List.set_cons_succ]
            refine tkA 3 18 hA ?_
            try simp only [Act.put, List.setIfInBounds_toArray, List.set_cons_zero, List.set_cons_succ]
            refine tkA 4 19 hA ?_
            try simp only [Act.put, List.setIfInBounds_toArray, List.set_cons_zero, List.set_cons_succ]
            refine tkA 5 20 hA ?_
            try simp only [Act.put, List.setIfInBounds_toArray, List.set_cons_zero, List.set_cons_succ]
            refine tkA 6 21 hA ?_
            try simp only [Act.put, List.setIfInBounds_toArray, List.set_cons_zero, List.set_cons_succ]
            refine tkS 7 22 hA ?_
            try simp only [Act.put, List.setIfInBounds_toArray, List.set_cons_zero, List.set_cons_succ]
            refine tkS 8 23 hA ?_
            try simp only [Act.put, List.setIfInBounds_toArray, List.set_cons_zero, List.set_cons_succ]
            refine tkS 9 24 hA ?_
            try simp only [Act.put, List.setIfInBounds_toArray, List.set_cons_zero, List.set_cons_succ]
            refine tkS 10 25 hA ?_
            try simp only [Act.put, List.setIfInBounds_toArray, List.set_cons_zero, List.set_cons_succ]
            refine tkS 11 26 hA ?_
            try simp only [Act.put, List.setIfInBounds_toArray, List.set_cons_zero, List.set_cons_succ]
            refine tkS 12 27 hA ?_
            try simp only [Act.put, List.setIfInBounds_toArray, List.set_cons_zero, List.set_cons_succ]
            refine tkS 13 28 hA ?_
            try simp only [Act.put, List.setIfInBounds_toArray, List.set_cons_zero, List.set_cons_succ]
            refine tkS 14 29 hA ?_
            try simp only [Act.put, List.setIfInBounds_toArray, List.set_cons_zero, List.set_cons_succ]
            refine tkA 15 30 hA ?_
            try simp only [Act.put, List.setIfInBounds_toArray, List.set_cons_zero, List.set_cons_succ]
            refine tkA 16 31 hA ?_
            try simp only [Act.put, List.setIfInBounds_toArray, List.set_cons_zero, List.set_cons_succ]
            refine wpAnyH_done (by kernel_rfl) ?_ _
            refine NoPanic.normal ?_
            go_wp2
            go_roundw
            case rel => exact ⟨k + 1, by omega, by go_num, HO2, (hb.alloc hb.size _).drew.trans (hb'.mono (by have := hb.size; simp; omega))⟩
            case measure => simp [intOf]; omega
          · skip
            obtain ⟨b2, off2, ha2, hd⟩ := hr.at rfl (k - 1) (by omega)
            simp only [Option.some.injEq, Addr.mk.injEq] at ha2
            obtain ⟨rfl, rfl, _⟩ := ha2
            have hd2 := hd.below hb
            obtain ⟨y, hy⟩ : ∃ y, y = nth es (k - 1) := ⟨_, rfl⟩
            rw [← hy] at hd2
            have HY : Hid (y = nth es (k - 1)) := hy
            clear hy hd
            obtain ⟨j, hj⟩ : ∃ j, j = k - 1 := ⟨k - 1, rfl⟩
            rw [← hj] at hd2
            have hkj : (k : Int) - 1 = (j : Int) := by omega
            have hkp : decide (0 < k) = true := by simp; omega
            have hj0 : (0 : Int) ≤ (j : Int) := by omega
            have hjn : j < es.length := by omega
            have hwr : IntKind.i64.wrap (j : Int) = (j : Int) := by rw [IntKind.wrap_i64]; omega
            have HK0 : Hid (k ≠ 0) := hk0
            clear hj hk0
            cases hah : ahd y x with
            | false =>
              have hor := ordE_ge hah
              have RES : Hid (okL es = false) := okL_no_at hlt (by unfold okAt; rw [← HX.out, ← HY.out, hok, hah]; simpa using HK0.out)
              go_wp2_with fail
              refine wp_region_noPanic ?_
              refine wp_region_held_drew (S := fun w' => EntAt w' wr.heap.size 0 x ∧ EntAt w' b (off + j * 4) y) (by kernel_rfl) ⟨entAt_new _ _ _, hd2.alloc _⟩ (fun hH => ?_)
              refine tkA 0 15 hH ?_
              try simp only [Act.put, List.setIfInBounds_toArray, List.set_cons_zero, List.set_cons_succ]
              refine wpAnyH_ready (rs := [1]) (by kernel_rfl) (by simp) ?_
              refine AllReadyH.cons rfl (fun K hK => ?_) AllReadyH.nil
              go_simp
              refine (entryOk_yes x _ hfk hok).mono ?_
              rintro e w' ⟨rfl, hb'⟩
              refine hK.out _ _ ⟨hH.1.below hb', hH.2.below hb'⟩ (fun hA => ?_)
              clear hK K
              try simp only [Act.put, List.setIfInBounds_toArray, List.set_cons_zero, List.set_cons_succ]
              refine tkA 2 17 hA ?_
              try simp only [Act.put, List.setIfInBounds_toArray, List.set_cons_zero, List.set_cons_succ]
              refine tkA 3 18 hA ?_
              try simp only [Act.put, List.setIfInBounds_toArray, List.set_cons_zero, List.set_cons_succ]
              refine tkA 4 19 hA ?_
              try simp only [Act.put, List.setIfInBounds_toArray, List.set_cons_zero, List.set_cons_succ]
              refine tkA 5 20 hA ?_
              try simp only [Act.put, List.setIfInBounds_toArray, List.set_cons_zero, List.set_cons_succ]
              refine tkA 6 21 hA ?_
              try simp only [Act.put, List.setIfInBounds_toArray, List.set_cons_zero, List.set_cons_succ]
              refine tkA 7 22 hA ?_
              try simp only [Act.put, List.setIfInBounds_toArray, List.set_cons_zero, List.set_cons_succ]
              refine tkA 8 23 hA ?_
              try simp only [Act.put, List.setIfInBounds_toArray, List.set_cons_zero, List.set_cons_succ]
              refine tkA 9 24 hA ?_
              try simp only [Act.put, List.setIfInBounds_toArray, List.set_cons_zero, List.set_cons_succ]
              refine tkA 10 25 hA ?_
              try simp only [Act.put, List.setIfInBounds_toArray, List.set_cons_zero, List.set_cons_succ]
              refine tkA 11 26 hA ?_
              try simp only [Act.put, List.setIfInBounds_toArray, List.set_cons_zero, List.set_cons_succ]
              refine tkA 12 27 hA ?_
              try simp only [Act.put, List.setIfInBounds_toArray, List.set_cons_zero, List.set_cons_succ]
              refine wpAnyH_ready (rs := [13]) (by kernel_rfl) (by simp) ?_
              refine AllReadyH.cons rfl (fun K hK => ?_) AllReadyH.nil
              go_simp
              refine (entryOrder_any y x _).mono ?_
              rintro e w2 ⟨rfl, hb2⟩
              refine hK.out _ _ ⟨hA.1.below hb2, hA.2.below hb2⟩ (fun hB => ?_)
              clear hK K
              try simp only [Act.put, List.setIfInBounds_toArray, List.set_cons_zero, List.set_cons_succ]
              refine tkA 14 29 hB ?_
              try simp only [Act.put, List.setIfInBounds_toArray, List.set_cons_zero, List.set_cons_succ]
              refine tkA 15 30 hB ?_
              try simp only [Act.put, List.setIfInBounds_toArray, List.set_cons_zero, List.set_cons_succ]
              refine tkA 16 31 hB ?_
              try simp only [Act.put, List.setIfInBounds_toArray, List.set_cons_zero, List.set_cons_succ]
              refine wpAnyH_done (by kernel_rfl) ?_ _
              refine NoPanic.normal ?_
              have bz := ((hb.alloc hb.size _).drew.trans (hb'.mono (by have := hb.size; simp; omega))).trans (hb2.mono (by have := hb.size; have := hb'.size; simp at this; omega))
              go_wp2
              go_ret
              exact ⟨ret_bool RES.out.symm, bz⟩
            | true =>
              have hor := ordE_lt hah
              have HO2 : Hid (okTo es (k + 1) = true) := by
                show _ = _
                rw [okTo_succ, HO.out]; unfold okAt; rw [← HX.out, ← HY.out, hok, hah]; simp
              go_wp2_with fail
              refine wp_region_noPanic ?_
              refine wp_region_held_drew (S := fun w' => EntAt w' wr.heap.size 0 x ∧ EntAt w' b (off + j * 4) y) (by kernel_rfl) ⟨entAt_new _ _ _, hd2.alloc _⟩ (fun hH => ?_)
              refine tkA 0 15 hH ?_
              try simp only [Act.put, List.setIfInBounds_toArray, List.set_cons_zero, List.set_cons_succ]
              refine wpAnyH_ready (rs := [1]) (by kernel_rfl) (by simp) ?_
              refine AllReadyH.cons rfl (fun K hK => ?_) AllReadyH.nil
              go_simp
              refine (entryOk_yes x _ hfk hok).mono ?_
              rintro e w' ⟨rfl, hb'⟩
              refine hK.out _ _ ⟨hH.1.below hb', hH.2.below hb'⟩ (fun hA => ?_)
              clear hK K
              try simp only [Act.put, List.setIfInBounds_toArray, List.set_cons_zero, List.set_cons_succ]
              refine tkA 2 17 hA ?_
              try simp only [Act.put, List.setIfInBounds_toArray, List.set_cons_zero, List.set_cons_succ]
              refine tkA 3 18 hA ?_
              try simp only [Act.put, List.setIfInBounds_toArray, List.set_cons_zero, List.set_cons_succ]
              refine tkA 4 19 hA ?_
              try simp only [Act.put, List.setIfInBounds_toArray, List.set_cons_zero, List.set_cons_succ]
              refine tkA 5 20 hA ?_
              try simp only [Act.put, List.setIfInBounds_toArray, List.set_cons_zero, List.set_cons_succ]
              refine tkA 6 21 hA ?_
              try simp only [Act.put, List.setIfInBounds_toArray, List.set_cons_zero, List.set_cons_succ]
              refine tkA 7 22 hA ?_
              try simp only [Act.put, List.setIfInBounds_toArray, List.set_cons_zero, List.set_cons_succ]
              refine tkA 8 23 hA ?_
              try simp only [Act.put, List.setIfInBounds_toArray, List.set_cons_zero, List.set_cons_succ]
              refine tkA 9 24 hA ?_
              try simp only [Act.put, List.setIfInBounds_toArray, List.set_cons_zero, List.set_cons_succ]
              refine tkA 10 25 hA ?_
              try simp only [Act.put, List.setIfInBounds_toArray, List.set_cons_zero, List.set_cons_succ]
              refine tkA 11 26 hA ?_
              try simp only [Act.put, List.setIfInBounds_toArray, List.set_cons_zero, List.set_cons_succ]
              refine tkA 12 27 hA ?_
              try simp only [Act.put, List.setIfInBounds_toArray, List.set_cons_zero, List.set_cons_succ]
              refine wpAnyH_ready (rs := [13]) (by kernel_rfl) (by simp) ?_
              refine AllReadyH.cons rfl (fun K hK => ?_) AllReadyH.nil
              go_simp
              refine (entryOrder_any y x _).mono ?_
              rintro e w2 ⟨rfl, hb2⟩
              refine hK.out _ _ ⟨hA.1.below hb2, hA.2.below hb2⟩ (fun hB => ?_)
              clear hK K
              try simp only [Act.put, List.setIfInBounds_toArray, List.set_cons_zero, List.set_cons_succ]
              refine tkA 14 29 hB ?_
              try simp only [Act.put, List.setIfInBounds_toArray, List.set_cons_zero, List.set_cons_succ]
              refine tkA 15 30 hB ?_
              try simp only [Act.put, List.setIfInBounds_toArray, List.set_cons_zero, List.set_cons_succ]
              refine tkA 16 31 hB ?_
              try simp only [Act.put, List.setIfInBounds_toArray, List.set_cons_zero, List.set_cons_succ]
              refine wpAnyH_done (by kernel_rfl) ?_ _
              refine NoPanic.normal ?_
              have bz := ((hb.alloc hb.size _).drew.trans (hb'.mono (by have := hb.size; simp; omega))).trans (hb2.mono (by have := hb.size; have := hb'.size; simp at this; omega))
              go_wp2
              go_roundw
              case rel => exact ⟨k + 1, by omega, by go_num, HO2, bz⟩
              case measure => simp [intOf]; omega
      · have hke : k = es.length := by omega
        subst hke
        go_wp2
        go_ret
        exact ⟨ret_bool (by simp [okL, HO.out]; omega), hb⟩
end Go.Proofs.Ythaobdknpgnapaa
