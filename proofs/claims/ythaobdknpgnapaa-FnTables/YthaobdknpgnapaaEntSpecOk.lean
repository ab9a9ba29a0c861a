/- The contract of the model's EntriesOk. -/
import Derived.Test.YthaobdknpgnapaaG03
import Derived.Deep.RegionHeld3
namespace Go.Proofs.Ythaobdknpgnapaa
open Go.RowKit
theorem tkA (i d : Nat) {P : Program} {ops : Array Oper} {Q : Exit → Act → World → Prop} {md : Region.Mode} {S : World → Prop} {oi : Oper} {v : Value} {fuel : Nat} {listed : Array Bool} {a : Act} {w : World} (hS : S w)
    (h : wpAnyH P md ops (NoPanic Q) S fuel (listed.setIfInBounds i true) (a.put (some d) v) w) (hi : ops[i]? = some oi := by rfl) (hd : oi.dst = some d := by rfl)
    (hs : Region.noSelect ops = true := by kernel_rfl) (hf : Region.free md ops listed i = true := by kernel_rfl) (hr : (Region.ready md ops listed).contains i = true := by kernel_rfl) (hw : Region.wanted oi (yielded ops a.tmps) = true := by kernel_rfl)
    (hy : ∀ w, S w → (execOp a.eval oi).run P w = .ok (.value v) w := by intro w hS; (try dsimp only [EntAt, Nat.zero_add] at hS); go_simp; (try with_reducible rfl)) : wpAnyH P md ops (NoPanic Q) S (fuel + 1) listed a w :=
  takeH hi hd hs hf hr (fun _ _ _ h => h) (Or.inl ⟨hw, hy⟩) hS h
theorem l3Entry_yes (a : Ent) (w : World) (hf : Fits a) (h : okE a = true) :
    Calls Try.prog 51 #[.agg #[.string a.key, .string a.val, .int .i64 a.seq, .bool a.gone]] w fun e w' => e = .returned (.bool true) ∧ Below w.heap.size w w' := by
  have := l3Entry_any a w hf; rwa [h] at this
theorem l3Entry_no (a : Ent) (w : World) (hf : Fits a) (h : okE a = false) :
    Calls Try.prog 51 #[.agg #[.string a.key, .string a.val, .int .i64 a.seq, .bool a.gone]] w fun e w' => e = .returned (.bool false) ∧ Below w.heap.size w w' := by
  have := l3Entry_any a w hf; rwa [h] at this
set_option maxHeartbeats 4000000 in
set_option maxRecDepth 100000 in
theorem specEntriesOk_any (v : Value) (es : List Ent) (w : World) (hr : RdE w v es) (hf : ∀ e ∈ es, Fits e) :
    Calls Try.prog 15 #[v] w fun e w' => e = .returned (.bool (okL es)) ∧ Below w.heap.size w w' := by
  obtain ⟨a, cap, hv, hl, hm, _⟩ := id hr
  unfold maxLen at hm
  subst hv
  have HF : Hid (∀ e ∈ es, Fits e) := hf
  clear hf
  by_cases hbig : 300 < es.length
  · go_enter Try.func15, Try.ntmps15
    go_wp2
    go_ret
    exact ⟨ret_bool (by simp [okL]; omega), Below.refl _ _⟩
  · go_enter Try.func15, Try.ntmps15
    go_wp2
    go_loopw [3] (fun i wr => ∃ k : Nat, k ≤ es.length ∧ i = .int .i64 k ∧ Hid (okTo es k = true) ∧ Below w.heap.size w wr) (fun i _ => es.length - (intOf i).toNat)
    case atStart => exact ⟨0, Nat.zero_le _, rfl, rfl, Below.refl _ _⟩
    case round =>
      obtain ⟨k, hk, rfl, HO, hb⟩ := hrel
      by_cases hlt : k < es.length
      · obtain ⟨b, off, rfl, hc⟩ := hr.at rfl k hlt
        have hc2 := hc.below hb
        have hlt2 := hc2.lt
        obtain ⟨c0, c1, c2, c3⟩ := hc2
        have hfk := HF.out _ (List.getElem_mem hlt)
        rw [← nth_eq hlt] at hfk
        obtain ⟨x, hx⟩ : ∃ x, x = nth es k := ⟨_, rfl⟩
        rw [← hx] at c0 c1 c2 c3 hfk
        have HX : Hid (x = nth es k) := hx
        clear hx hc
        cases hok : okE x with
        | false =>
          have RES : Hid (okL es = false) := okL_no_at hlt (by unfold okAt; rw [← HX.out, hok]; rfl)
          go_wp2_with fail
          refine wp_region_noPanic ?_
          refine wp_region_held_drew (S := fun w' => EntAt w' b (off + k * 4) x) (by kernel_rfl) ⟨c0, c1, c2, c3⟩ (fun hH => ?_)
          refine tkA 0 13 hH ?_
          try simp only [Act.put, List.setIfInBounds_toArray, List.set_cons_zero, List.set_cons_succ]
          refine tkA 1 14 hH ?_
          try simp only [Act.put, List.setIfInBounds_toArray, List.set_cons_zero, List.set_cons_succ]
          refine tkA 2 15 hH ?_
          try simp only [Act.put, List.setIfInBounds_toArray, List.set_cons_zero, List.set_cons_succ]
          refine tkA 3 16 hH ?_
          try simp only [Act.put, List.setIfInBounds_toArray, List.set_cons_zero, List.set_cons_succ]
          refine wpAnyH_ready (rs := [4]) (by kernel_rfl) (by simp) ?_
          refine AllReadyH.cons rfl (fun K hK => ?_) AllReadyH.nil
          go_simp
          refine (l3Entry_no x _ hfk hok).mono ?_
          rintro e w' ⟨rfl, hb'⟩
          refine hK.out _ _ (hH.below hb') (fun hA => ?_)
          clear hK K
          try simp only [Act.put, List.setIfInBounds_toArray, List.set_cons_zero, List.set_cons_succ]
          refine tkA 5 18 hA ?_
          try simp only [Act.put, List.setIfInBounds_toArray, List.set_cons_zero, List.set_cons_succ]
          refine tkA 6 19 hA ?_
          try simp only [Act.put, List.setIfInBounds_toArray, List.set_cons_zero, List.set_cons_succ]
          refine tkS 7 20 hA ?_
          try simp only [Act.put, List.setIfInBounds_toArray, List.set_cons_zero, List.set_cons_succ]
          refine tkS 8 21 hA ?_
          try simp only [Act.put, List.setIfInBounds_toArray, List.set_cons_zero, List.set_cons_succ]
          refine tkS 9 22 hA ?_
          try simp only [Act.put, List.setIfInBounds_toArray, List.set_cons_zero, List.set_cons_succ]
          refine tkS 10 23 hA ?_
          try simp only [Act.put, List.setIfInBounds_toArray, List.set_cons_zero, List.set_cons_succ]
          refine tkS 11 24 hA ?_
          try simp only [Act.put, List.setIfInBounds_toArray, List.set_cons_zero, List.set_cons_succ]
          refine tkS 12 25 hA ?_
          try simp only [Act.put, List.setIfInBounds_toArray, List.set_cons_zero, List.set_cons_succ]
          refine tkS 13 26 hA ?_
          try simp only [Act.put, List.setIfInBounds_toArray, List.set_cons_zero, List.set_cons_succ]
          refine tkS 14 27 hA ?_
          try simp only [Act.put, List.setIfInBounds_toArray, List.set_cons_zero, List.set_cons_succ]
          refine tkS 15 28 hA ?_
          try simp only [Act.put, List.setIfInBounds_toArray, List.set_cons_zero, List.set_cons_succ]
          refine tkS 16 29 hA ?_
          try simp only [Act.put, List.setIfInBounds_toArray, List.set_cons_zero, List.set_cons_succ]
          refine tkS 17 30 hA ?_
          try simp only [Act.put, List.setIfInBounds_toArray, List.set_cons_zero, List.set_cons_succ]
          refine tkS 18 31 hA ?_
          try simp only [Act.put, List.setIfInBounds_toArray, List.set_cons_zero, List.set_cons_succ]
          refine tkS 19 32 hA ?_
          try simp only [Act.put, List.setIfInBounds_toArray, List.set_cons_zero, List.set_cons_succ]
          refine tkS 20 33 hA ?_
          try simp only [Act.put, List.setIfInBounds_toArray, List.set_cons_zero, List.set_cons_succ]
          refine tkS 21 34 hA ?_
          try simp only [Act.put, List.setIfInBounds_toArray, List.set_cons_zero, List.set_cons_succ]
          refine tkA 22 35 hA ?_
          try simp only [Act.put, List.setIfInBounds_toArray, List.set_cons_zero, List.set_cons_succ]
          refine wpAnyH_done (by kernel_rfl) ?_ _
          refine NoPanic.normal ?_
          go_wp2
          go_ret
          exact ⟨ret_bool RES.out.symm, hb.drew.trans (hb'.mono hb.size)⟩
        | true =>
          by_cases hk0 : k = 0
          · skip
            have HO2 : Hid (okTo es (k + 1) = true) := by
              show _ = _
              rw [okTo_succ, HO.out]; unfold okAt; rw [← HX.out, hok]; simp [hk0]
            have hkn : decide (0 < k) = false := by simpa using hk0
            clear hk0
            go_wp2_with fail
            refine wp_region_noPanic ?_
            refine wp_region_held_drew (S := fun w' => EntAt w' b (off + k * 4) x) (by kernel_rfl) ⟨c0, c1, c2, c3⟩ (fun hH => ?_)
            refine tkA 0 13 hH ?_
            try simp only [Act.put, List.setIfInBounds_toArray, List.set_cons_zero, List.set_cons_succ]
            refine tkA 1 14 hH ?_
            try simp only [Act.put, List.setIfInBounds_toArray, List.set_cons_zero, List.set_cons_succ]
            refine tkA 2 15 hH ?_
            try simp only [Act.put, List.setIfInBounds_toArray, List.set_cons_zero, List.set_cons_succ]
            refine tkA 3 16 hH ?_
            try simp only [Act.put, List.setIfInBounds_toArray, List.set_cons_zero, List.set_cons_succ]
            refine wpAnyH_ready (rs := [4]) (by kernel_rfl) (by simp) ?_
            refine AllReadyH.cons rfl (fun K hK => ?_) AllReadyH.nil
            go_simp
            refine (l3Entry_yes x _ hfk hok).mono ?_
            rintro e w' ⟨rfl, hb'⟩
            refine hK.out _ _ (hH.below hb') (fun hA => ?_)
            clear hK K
            try simp only [Act.put, List.setIfInBounds_toArray, List.set_cons_zero, List.set_cons_succ]
            refine tkA 5 18 hA ?_
            try simp only [Act.put, List.setIfInBounds_toArray, List.set_cons_zero, List.set_cons_succ]
            refine tkA 6 19 hA ?_
            try simp only [Act.put, List.setIfInBounds_toArray, List.set_cons_zero, List.set_cons_succ]
            refine tkA 7 20 hA ?_
            try simp only [Act.put, List.setIfInBounds_toArray, List.set_cons_zero, List.set_cons_succ]
            refine tkA 8 21 hA ?_
            try simp only [Act.put, List.setIfInBounds_toArray, List.set_cons_zero, List.set_cons_succ]
            refine tkA 9 22 hA ?_
            try simp only [Act.put, List.setIfInBounds_toArray, List.set_cons_zero, List.set_cons_succ]
            refine tkS 10 23 hA ?_
            try simp only [Act.put, List.setIfInBounds_toArray, List.set_cons_zero, List.set_cons_succ]
            refine tkS 11 24 hA ?_
            try simp only [Act.put, List.setIfInBounds_toArray, List.set_cons_zero, List.set_cons_succ]
            refine tkS 12 25 hA ?_
            try simp only [Act.put, List.setIfInBounds_toArray, List.set_cons_zero, List.set_cons_succ]
            refine tkS 13 26 hA ?_
            try simp only [Act.put, List.setIfInBounds_toArray, List.set_cons_zero, List.set_cons_succ]
            refine tkS 14 27 hA ?_
            try simp only [Act.put, List.setIfInBounds_toArray, List.set_cons_zero, List.set_cons_succ]
            refine tkS 15 28 hA ?_
            try simp only [Act.put, List.setIfInBounds_toArray, List.set_cons_zero, List.set_cons_succ]
            refine tkS 16 29 hA ?_
            try simp only [Act.put, List.setIfInBounds_toArray, List.set_cons_zero, List.set_cons_succ]
            refine tkS 17 30 hA ?_
            try simp only [Act.put, List.setIfInBounds_toArray, List.set_cons_zero, List.set_cons_succ]
            refine tkS 18 31 hA ?_
            try simp only [Act.put, List.setIfInBounds_toArray, List.set_cons_zero, List.set_cons_succ]
            refine tkS 19 32 hA ?_
            try simp only [Act.put, List.setIfInBounds_toArray, List.set_cons_zero, List.set_cons_succ]
            refine tkS 20 33 hA ?_
            try simp only [Act.put, List.setIfInBounds_toArray, List.set_cons_zero, List.set_cons_succ]
            refine tkA 21 34 hA ?_
            try simp only [Act.put, List.setIfInBounds_toArray, List.set_cons_zero, List.set_cons_succ]
            refine tkA 22 35 hA ?_
            try simp only [Act.put, List.setIfInBounds_toArray, List.set_cons_zero, List.set_cons_succ]
            refine wpAnyH_done (by kernel_rfl) ?_ _
            refine NoPanic.normal ?_
            go_wp2
            go_roundw
            case rel => exact ⟨k + 1, by omega, by go_num, HO2, hb.drew.trans (hb'.mono hb.size)⟩
            case measure => simp [intOf]; omega
          · skip
            obtain ⟨b2, off2, ha2, hd⟩ := hr.at rfl (k - 1) (by omega)
            simp only [Option.some.injEq, Addr.mk.injEq] at ha2
            obtain ⟨rfl, rfl, _⟩ := ha2
            have hd2 := hd.below hb
            obtain ⟨d0, d1, d2, d3⟩ := hd2
            obtain ⟨y, hy⟩ : ∃ y, y = nth es (k - 1) := ⟨_, rfl⟩
            rw [← hy] at d0 d1 d2 d3
            have HY : Hid (y = nth es (k - 1)) := hy
            clear hy hd
            obtain ⟨j, hj⟩ : ∃ j, j = k - 1 := ⟨k - 1, rfl⟩
            rw [← hj] at d0 d1 d2 d3
            have HJ : Hid (j = k - 1) := hj
            have hkj : (k : Int) - 1 = (j : Int) := by omega
            have hkp : decide (0 < k) = true := by simp; omega
            have hbn : b < wr.drew.heap.size := hlt2
            have hj1 : (j : Int) < (es.length : Int) := by omega
            have hj0 : (0 : Int) ≤ (j : Int) := by omega
            have hjn : j < es.length := by omega
            have hwr : IntKind.i64.wrap (j : Int) = (j : Int) := by rw [IntKind.wrap_i64]; omega
            have hk1 : (k : Int) < (es.length : Int) := by omega
            clear hj hk0
            go_wp2_with fail
            go_region_held3 (fun w' => w'.cell? ⟨b, off + k * 4, none⟩ = some (.string x.key) ∧ w'.cell? ⟨b, off + k * 4 + 1, none⟩ = some (.string x.val) ∧ w'.cell? ⟨b, off + k * 4 + 2, none⟩ = some (.int .i64 x.seq) ∧ w'.cell? ⟨b, off + k * 4 + 3, none⟩ = some (.bool x.gone) ∧
                w'.cell? ⟨b, off + j * 4, none⟩ = some (.string y.key) ∧ w'.cell? ⟨b, off + j * 4 + 1, none⟩ = some (.string y.val) ∧ w'.cell? ⟨b, off + j * 4 + 2, none⟩ = some (.int .i64 y.seq) ∧ w'.cell? ⟨b, off + j * 4 + 3, none⟩ = some (.bool y.gone)) (go_keep)
              (first
                | (go_at_call 51; refine (l3Entry_yes x _ hfk hok).mono ?_; rintro e w1 ⟨rfl, hb1⟩; have hcc1 : ∀ o, w1.cell? ⟨b, o, none⟩ = wr.cell? ⟨b, o, none⟩ := fun o => (bcell hb1).1 b o (by simpa using hlt2); have hz1 : b < w1.heap.size := by have := hb1.size; simp at this; omega)
                | (go_at_call 54; refine (l3Ahead_any y x _).mono ?_; rintro e w2 ⟨rfl, hb2⟩; have hcc2 : ∀ o, w2.cell? ⟨b, o, none⟩ = wr.cell? ⟨b, o, none⟩ := fun o => ((bcell hb2).1 b o hz1).trans (hcc1 o)))
            have bz := (hb.drew.trans (hb1.mono hb.size)).trans (hb2.mono (by have := hb.size; have := hb1.size; simp at this; omega))
            cases hah : ahd y x with
            | false =>
              have RES : Hid (okL es = false) := okL_no_at hlt (by unfold okAt; rw [← HX.out, ← HY.out, hok, hah]; simp; omega)
              go_wp2
              go_ret
              exact ⟨ret_bool RES.out.symm, bz⟩
            | true =>
              have HO2 : Hid (okTo es (k + 1) = true) := by
                show _ = _
                rw [okTo_succ, HO.out]; unfold okAt; rw [← HX.out, ← HY.out, hok, hah]; simp
              go_wp2
              go_roundw
              case rel => exact ⟨k + 1, by omega, by go_num, HO2, bz⟩
              case measure => simp [intOf]; omega
      · have hke : k = es.length := by omega
        subst hke
        go_wp2
        go_ret
        exact ⟨ret_bool (by simp [okL, HO.out]; omega), hb⟩
end Go.Proofs.Ythaobdknpgnapaa
