/- The contract of the model's EntriesOk. The contracts of the model's Seen and Shown. -/
import Derived.Test.YtjnhhdnfncfedaaG02
import Derived.Deep.RegionHeld3
namespace Go.Proofs.Ytjnhhdnfncfedaa
open Go.RowKit
theorem bcell {W w1 : World} (hb : Below W.heap.size W w1) : (∀ b o, b < W.heap.size → w1.cell? ⟨b, o, none⟩ = W.cell? ⟨b, o, none⟩) ∧ (∀ b o, b < W.heap.size → w1.frozen? ⟨b, o, none⟩ = W.frozen? ⟨b, o, none⟩) :=
  ⟨fun b o h => hb.cell (p := ⟨b, o, none⟩) h, fun b o h => hb.frozen (p := ⟨b, o, none⟩) h⟩
theorem takeH {P : Program} {ops : Array Oper} {Q : Exit → Act → World → Prop} {md : Region.Mode} {S : World → Prop} {i d : Nat} {oi : Oper} {v : Value} {fuel : Nat} {listed : Array Bool} {a : Act} {w : World} (hi : ops[i]? = some oi) (hd : oi.dst = some d)
    (hs : Region.noSelect ops = true) (hf : Region.free md ops listed i = true) (hr : (Region.ready md ops listed).contains i = true)
    (hQ : ∀ c a w, Q (.panic c) (a.put (some d) v) w → Q (.panic c) a w) (hy : YieldsIf P ops S oi v a) (hS : S w)
    (h : wpAnyH P md ops Q S fuel (listed.setIfInBounds i true) (a.put (some d) v) w) : wpAnyH P md ops Q S (fuel + 1) listed a w :=
  wpAnyH_take hi hs hf hr (by rw [hd]; exact hQ) hy hS (by rw [hd]; exact h)
theorem l3Entry_yes (a : Ent) (w : World) (hf : Fits a) (h : okE a = true) :
    Calls Try.prog 40 #[.agg #[.string a.key, .string a.val, .int .i64 a.seq, .bool a.gone]] w fun e w' => e = .returned (.bool true) ∧ Below w.heap.size w w' := by
  have := l3Entry_any a w hf; rwa [h] at this
theorem l3Entry_no (a : Ent) (w : World) (hf : Fits a) (h : okE a = false) :
    Calls Try.prog 40 #[.agg #[.string a.key, .string a.val, .int .i64 a.seq, .bool a.gone]] w fun e w' => e = .returned (.bool false) ∧ Below w.heap.size w w' := by
  have := l3Entry_any a w hf; rwa [h] at this
set_option maxHeartbeats 4000000 in
set_option maxRecDepth 100000 in
theorem specEntriesOk_any (v : Value) (es : List Ent) (w : World) (hr : RdE w v es) (hf : ∀ e ∈ es, Fits e) :
    Calls Try.prog 24 #[v] w fun e w' => e = .returned (.bool (okL es)) ∧ Below w.heap.size w w' := by
  obtain ⟨a, cap, hv, hl, hm, _⟩ := id hr
  unfold maxLen at hm
  subst hv
  have HF : Hid (∀ e ∈ es, Fits e) := hf
  clear hf
  by_cases hbig : 300 < es.length
  · go_enter Try.func24, Try.ntmps24
    go_wp2
    go_ret
    exact ⟨ret_bool (by simp [okL]; omega), Below.refl _ _⟩
  · go_enter Try.func24, Try.ntmps24
    go_wp2
    go_loopw [3] (fun i wr => ∃ k : Nat, k ≤ es.length ∧ i = .int .i64 k ∧ Hid (okTo es k = true) ∧ Below w.heap.size w wr) (fun i _ => es.length - (intOf i).toNat)
    case atStart => exact ⟨0, Nat.zero_le _, rfl, rfl, Below.refl _ _⟩
    case round =>
      obtain ⟨k, hk, rfl, HO, hb⟩ := hrel
      by_cases hlt : k < es.length
      · obtain ⟨b, off, rfl, hc⟩ := hr.at rfl k hlt
        have hc2 := hc.below hb
        have hlt2 := hc2.lt
        obtain ⟨c0, c1, c2, c3⟩ := hc2
        have hfk := HF.out _ (List.getElem_mem hlt)
        rw [← nth_eq hlt] at hfk
        obtain ⟨x, hx⟩ : ∃ x, x = nth es k := ⟨_, rfl⟩
        rw [← hx] at c0 c1 c2 c3 hfk
        have HX : Hid (x = nth es k) := hx
        clear hx hc
        cases hok : okE x with
        | false =>
          have RES : Hid (okL es = false) := okL_no_at hlt (by unfold okAt; rw [← HX.out, hok]; rfl)
          go_wp2_with fail
          refine wp_region_noPanic ?_
          refine wp_region_held_drew (S := fun w' => EntAt w' b (off + k * 4) x) (by kernel_rfl) ⟨c0, c1, c2, c3⟩ (fun hH => ?_)
          refine takeH (i := 0) (d := 13) (v := ?_) rfl rfl (by kernel_rfl) (by kernel_rfl) (by kernel_rfl) (fun _ _ _ h => h) (Or.inl ⟨by kernel_rfl, ?_⟩) hH ?_
          rotate_left 1
          · intro w hS; (try dsimp only [EntAt, Nat.zero_add] at hS); go_simp; (try with_reducible rfl)
          try simp only [Act.put, List.setIfInBounds_toArray, List.set_cons_zero, List.set_cons_succ]
          refine takeH (i := 1) (d := 14) (v := ?_) rfl rfl (by kernel_rfl) (by kernel_rfl) (by kernel_rfl) (fun _ _ _ h => h) (Or.inl ⟨by kernel_rfl, ?_⟩) hH ?_
          rotate_left 1
          · intro w hS; (try dsimp only [EntAt, Nat.zero_add] at hS); go_simp; (try with_reducible rfl)
          try simp only [Act.put, List.setIfInBounds_toArray, List.set_cons_zero, List.set_cons_succ]
          refine takeH (i := 2) (d := 15) (v := ?_) rfl rfl (by kernel_rfl) (by kernel_rfl) (by kernel_rfl) (fun _ _ _ h => h) (Or.inl ⟨by kernel_rfl, ?_⟩) hH ?_
          rotate_left 1
          · intro w hS; (try dsimp only [EntAt, Nat.zero_add] at hS); go_simp; (try with_reducible rfl)
          try simp only [Act.put, List.setIfInBounds_toArray, List.set_cons_zero, List.set_cons_succ]
          refine takeH (i := 3) (d := 16) (v := ?_) rfl rfl (by kernel_rfl) (by kernel_rfl) (by kernel_rfl) (fun _ _ _ h => h) (Or.inl ⟨by kernel_rfl, ?_⟩) hH ?_
          rotate_left 1
          · intro w hS; (try dsimp only [EntAt, Nat.zero_add] at hS); go_simp; (try with_reducible rfl)
          try simp only [Act.put, List.setIfInBounds_toArray, List.set_cons_zero, List.set_cons_succ]
          refine wpAnyH_ready (rs := [4]) (by kernel_rfl) (by simp) ?_
          refine AllReadyH.cons rfl (fun K hK => ?_) AllReadyH.nil
          go_simp
          refine (l3Entry_no x _ hfk hok).mono ?_
          rintro e w' ⟨rfl, hb'⟩
          refine hK.out _ _ (hH.below hb') (fun hA => ?_)
          clear hK K
          try simp only [Act.put, List.setIfInBounds_toArray, List.set_cons_zero, List.set_cons_succ]
          refine takeH (i := 5) (d := 18) (v := ?_) rfl rfl (by kernel_rfl) (by kernel_rfl) (by kernel_rfl) (fun _ _ _ h => h) (Or.inl ⟨by kernel_rfl, ?_⟩) hA ?_
          rotate_left 1
          · intro w hS; (try dsimp only [EntAt, Nat.zero_add] at hS); go_simp; (try with_reducible rfl)
          try simp only [Act.put, List.setIfInBounds_toArray, List.set_cons_zero, List.set_cons_succ]
          refine takeH (i := 6) (d := 19) (v := ?_) rfl rfl (by kernel_rfl) (by kernel_rfl) (by kernel_rfl) (fun _ _ _ h => h) (Or.inl ⟨by kernel_rfl, ?_⟩) hA ?_
          rotate_left 1
          · intro w hS; (try dsimp only [EntAt, Nat.zero_add] at hS); go_simp; (try with_reducible rfl)
          try simp only [Act.put, List.setIfInBounds_toArray, List.set_cons_zero, List.set_cons_succ]
          refine takeH (i := 7) (d := 20) (v := undef) rfl rfl (by kernel_rfl) (by kernel_rfl) (by kernel_rfl) (fun _ _ _ h => h) (Or.inr ⟨by kernel_rfl, rfl⟩) hA ?_
          try simp only [Act.put, List.setIfInBounds_toArray, List.set_cons_zero, List.set_cons_succ]
          refine takeH (i := 8) (d := 21) (v := undef) rfl rfl (by kernel_rfl) (by kernel_rfl) (by kernel_rfl) (fun _ _ _ h => h) (Or.inr ⟨by kernel_rfl, rfl⟩) hA ?_
          try simp only [Act.put, List.setIfInBounds_toArray, List.set_cons_zero, List.set_cons_succ]
          refine takeH (i := 9) (d := 22) (v := undef) rfl rfl (by kernel_rfl) (by kernel_rfl) (by kernel_rfl) (fun _ _ _ h => h) (Or.inr ⟨by kernel_rfl, rfl⟩) hA ?_
          try simp only [Act.put, List.setIfInBounds_toArray, List.set_cons_zero, List.set_cons_succ]
          refine takeH (i := 10) (d := 23) (v := undef) rfl rfl (by kernel_rfl) (by kernel_rfl) (by kernel_rfl) (fun _ _ _ h => h) (Or.inr ⟨by kernel_rfl, rfl⟩) hA ?_
          try simp only [Act.put, List.setIfInBounds_toArray, List.set_cons_zero, List.set_cons_succ]
          refine takeH (i := 11) (d := 24) (v := undef) rfl rfl (by kernel_rfl) (by kernel_rfl) (by kernel_rfl) (fun _ _ _ h => h) (Or.inr ⟨by kernel_rfl, rfl⟩) hA ?_
          try simp only [Act.put, List.setIfInBounds_toArray, List.set_cons_zero, List.set_cons_succ]
          refine takeH (i := 12) (d := 25) (v := undef) rfl rfl (by kernel_rfl) (by kernel_rfl) (by kernel_rfl) (fun _ _ _ h => h) (Or.inr ⟨by kernel_rfl, rfl⟩) hA ?_
          try simp only [Act.put, List.setIfInBounds_toArray, List.set_cons_zero, List.set_cons_succ]
          refine takeH (i := 13) (d := 26) (v := undef) rfl rfl (by kernel_rfl) (by kernel_rfl) (by kernel_rfl) (fun _ _ _ h => h) (Or.inr ⟨by kernel_rfl, rfl⟩) hA ?_
          try simp only [Act.put, List.setIfInBounds_toArray, List.set_cons_zero, List.set_cons_succ]
          refine takeH (i := 14) (d := 27) (v := undef) rfl rfl (by kernel_rfl) (by kernel_rfl) (by kernel_rfl) (fun _ _ _ h => h) (Or.inr ⟨by kernel_rfl, rfl⟩) hA ?_
          try simp only [Act.put, List.setIfInBounds_toArray, List.set_cons_zero, List.set_cons_succ]
          refine takeH (i := 15) (d := 28) (v := undef) rfl rfl (by kernel_rfl) (by kernel_rfl) (by kernel_rfl) (fun _ _ _ h => h) (Or.inr ⟨by kernel_rfl, rfl⟩) hA ?_
          try simp only [Act.put, List.setIfInBounds_toArray, List.set_cons_zero, List.set_cons_succ]
          refine takeH (i := 16) (d := 29) (v := undef) rfl rfl (by kernel_rfl) (by kernel_rfl) (by kernel_rfl) (fun _ _ _ h => h) (Or.inr ⟨by kernel_rfl, rfl⟩) hA ?_
          try simp only [Act.put, List.setIfInBounds_toArray, List.set_cons_zero, List.set_cons_succ]
          refine takeH (i := 17) (d := 30) (v := undef) rfl rfl (by kernel_rfl) (by kernel_rfl) (by kernel_rfl) (fun _ _ _ h => h) (Or.inr ⟨by kernel_rfl, rfl⟩) hA ?_
          try simp only [Act.put, List.setIfInBounds_toArray, List.set_cons_zero, List.set_cons_succ]
          refine takeH (i := 18) (d := 31) (v := undef) rfl rfl (by kernel_rfl) (by kernel_rfl) (by kernel_rfl) (fun _ _ _ h => h) (Or.inr ⟨by kernel_rfl, rfl⟩) hA ?_
          try simp only [Act.put, List.setIfInBounds_toArray, List.set_cons_zero, List.set_cons_succ]
          refine takeH (i := 19) (d := 32) (v := undef) rfl rfl (by kernel_rfl) (by kernel_rfl) (by kernel_rfl) (fun _ _ _ h => h) (Or.inr ⟨by kernel_rfl, rfl⟩) hA ?_
          try simp only [Act.put, List.setIfInBounds_toArray, List.set_cons_zero, List.set_cons_succ]
          refine takeH (i := 20) (d := 33) (v := undef) rfl rfl (by kernel_rfl) (by kernel_rfl) (by kernel_rfl) (fun _ _ _ h => h) (Or.inr ⟨by kernel_rfl, rfl⟩) hA ?_
          try simp only [Act.put, List.setIfInBounds_toArray, List.set_cons_zero, List.set_cons_succ]
          refine takeH (i := 21) (d := 34) (v := undef) rfl rfl (by kernel_rfl) (by kernel_rfl) (by kernel_rfl) (fun _ _ _ h => h) (Or.inr ⟨by kernel_rfl, rfl⟩) hA ?_
          try simp only [Act.put, List.setIfInBounds_toArray, List.set_cons_zero, List.set_cons_succ]
          refine takeH (i := 22) (d := 35) (v := ?_) rfl rfl (by kernel_rfl) (by kernel_rfl) (by kernel_rfl) (fun _ _ _ h => h) (Or.inl ⟨by kernel_rfl, ?_⟩) hA ?_
          rotate_left 1
          · intro w hS; (try dsimp only [EntAt, Nat.zero_add] at hS); go_simp; (try with_reducible rfl)
          try simp only [Act.put, List.setIfInBounds_toArray, List.set_cons_zero, List.set_cons_succ]
          refine wpAnyH_done (by kernel_rfl) ?_ _
          refine NoPanic.normal ?_
          go_wp2
          go_ret
          exact ⟨ret_bool RES.out.symm, hb.drew.trans (hb'.mono hb.size)⟩
        | true =>
          by_cases hk0 : k = 0
          · skip
            have HO2 : Hid (okTo es (k + 1) = true) := by
              show _ = _
              rw [okTo_succ, HO.out]; unfold okAt; rw [← HX.out, hok]; simp [hk0]
            have hkn : decide (0 < k) = false := by simpa using hk0
            clear hk0
            go_wp2_with fail
            refine wp_region_noPanic ?_
            refine wp_region_held_drew (S := fun w' => EntAt w' b (off + k * 4) x) (by kernel_rfl) ⟨c0, c1, c2, c3⟩ (fun hH => ?_)
            refine takeH (i := 0) (d := 13) (v := ?_) rfl rfl (by kernel_rfl) (by kernel_rfl) (by kernel_rfl) (fun _ _ _ h => h) (Or.inl ⟨by kernel_rfl, ?_⟩) hH ?_
            rotate_left 1
            · intro w hS; (try dsimp only [EntAt, Nat.zero_add] at hS); go_simp; (try with_reducible rfl)
            try simp only [Act.put, List.setIfInBounds_toArray, List.set_cons_zero, List.set_cons_succ]
            refine takeH (i := 1) (d := 14) (v := ?_) rfl rfl (by kernel_rfl) (by kernel_rfl) (by kernel_rfl) (fun _ _ _ h => h) (Or.inl ⟨by kernel_rfl, ?_⟩) hH ?_
            rotate_left 1
            · intro w hS; (try dsimp only [EntAt, Nat.zero_add] at hS); go_simp; (try with_reducible rfl)
            try simp only [Act.put, List.setIfInBounds_toArray, List.set_cons_zero, List.set_cons_succ]
            refine takeH (i := 2) (d := 15) (v := ?_) rfl rfl (by kernel_rfl) (by kernel_rfl) (by kernel_rfl) (fun _ _ _ h => h) (Or.inl ⟨by kernel_rfl, ?_⟩) hH ?_
            rotate_left 1
            · intro w hS; (try dsimp only [EntAt, Nat.zero_add] at hS); go_simp; (try with_reducible rfl)
            try simp only [Act.put, List.setIfInBounds_toArray, List.set_cons_zero, List.set_cons_succ]
            refine takeH (i := 3) (d := 16) (v := ?_) rfl rfl (by kernel_rfl) (by kernel_rfl) (by kernel_rfl) (fun _ _ _ h => h) (Or.inl ⟨by kernel_rfl, ?_⟩) hH ?_
            rotate_left 1
            · intro w hS; (try dsimp only [EntAt, Nat.zero_add] at hS); go_simp; (try with_reducible rfl)
            try simp only [Act.put, List.setIfInBounds_toArray, List.set_cons_zero, List.set_cons_succ]
            refine wpAnyH_ready (rs := [4]) (by kernel_rfl) (by simp) ?_
            refine AllReadyH.cons rfl (fun K hK => ?_) AllReadyH.nil
            go_simp
            refine (l3Entry_yes x _ hfk hok).mono ?_
            rintro e w' ⟨rfl, hb'⟩
            refine hK.out _ _ (hH.below hb') (fun hA => ?_)
            clear hK K
            try simp only [Act.put, List.setIfInBounds_toArray, List.set_cons_zero, List.set_cons_succ]
            refine takeH (i := 5) (d := 18) (v := ?_) rfl rfl (by kernel_rfl) (by kernel_rfl) (by kernel_rfl) (fun _ _ _ h => h) (Or.inl ⟨by kernel_rfl, ?_⟩) hA ?_
            rotate_left 1
            · intro w hS; (try dsimp only [EntAt, Nat.zero_add] at hS); go_simp; (try with_reducible rfl)
            try simp only [Act.put, List.setIfInBounds_toArray, List.set_cons_zero, List.set_cons_succ]
            refine takeH (i := 6) (d := 19) (v := ?_) rfl rfl (by kernel_rfl) (by kernel_rfl) (by kernel_rfl) (fun _ _ _ h => h) (Or.inl ⟨by kernel_rfl, ?_⟩) hA ?_
            rotate_left 1
            · intro w hS; (try dsimp only [EntAt, Nat.zero_add] at hS); go_simp; (try with_reducible rfl)
            try simp only [Act.put, List.setIfInBounds_toArray, List.set_cons_zero, List.set_cons_succ]
            refine takeH (i := 7) (d := 20) (v := ?_) rfl rfl (by kernel_rfl) (by kernel_rfl) (by kernel_rfl) (fun _ _ _ h => h) (Or.inl ⟨by kernel_rfl, ?_⟩) hA ?_
            rotate_left 1
            · intro w hS; (try dsimp only [EntAt, Nat.zero_add] at hS); go_simp; (try with_reducible rfl)
            try simp only [Act.put, List.setIfInBounds_toArray, List.set_cons_zero, List.set_cons_succ]
            refine takeH (i := 8) (d := 21) (v := ?_) rfl rfl (by kernel_rfl) (by kernel_rfl) (by kernel_rfl) (fun _ _ _ h => h) (Or.inl ⟨by kernel_rfl, ?_⟩) hA ?_
            rotate_left 1
            · intro w hS; (try dsimp only [EntAt, Nat.zero_add] at hS); go_simp; (try with_reducible rfl)
            try simp only [Act.put, List.setIfInBounds_toArray, List.set_cons_zero, List.set_cons_succ]
            refine takeH (i := 9) (d := 22) (v := ?_) rfl rfl (by kernel_rfl) (by kernel_rfl) (by kernel_rfl) (fun _ _ _ h => h) (Or.inl ⟨by kernel_rfl, ?_⟩) hA ?_
            rotate_left 1
            · intro w hS; (try dsimp only [EntAt, Nat.zero_add] at hS); go_simp; (try with_reducible rfl)
            try simp only [Act.put, List.setIfInBounds_toArray, List.set_cons_zero, List.set_cons_succ]
            refine takeH (i := 10) (d := 23) (v := undef) rfl rfl (by kernel_rfl) (by kernel_rfl) (by kernel_rfl) (fun _ _ _ h => h) (Or.inr ⟨by kernel_rfl, rfl⟩) hA ?_
            try simp only [Act.put, List.setIfInBounds_toArray, List.set_cons_zero, List.set_cons_succ]
            refine takeH (i := 11) (d := 24) (v := undef) rfl rfl (by kernel_rfl) (by kernel_rfl) (by kernel_rfl) (fun _ _ _ h => h) (Or.inr ⟨by kernel_rfl, rfl⟩) hA ?_
            try simp only [Act.put, List.setIfInBounds_toArray, List.set_cons_zero, List.set_cons_succ]
            refine takeH (i := 12) (d := 25) (v := undef) rfl rfl (by kernel_rfl) (by kernel_rfl) (by kernel_rfl) (fun _ _ _ h => h) (Or.inr ⟨by kernel_rfl, rfl⟩) hA ?_
            try simp only [Act.put, List.setIfInBounds_toArray, List.set_cons_zero, List.set_cons_succ]
            refine takeH (i := 13) (d := 26) (v := undef) rfl rfl (by kernel_rfl) (by kernel_rfl) (by kernel_rfl) (fun _ _ _ h => h) (Or.inr ⟨by kernel_rfl, rfl⟩) hA ?_
            try simp only [Act.put, List.setIfInBounds_toArray, List.set_cons_zero, List.set_cons_succ]
            refine takeH (i := 14) (d := 27) (v := undef) rfl rfl (by kernel_rfl) (by kernel_rfl) (by kernel_rfl) (fun _ _ _ h => h) (Or.inr ⟨by kernel_rfl, rfl⟩) hA ?_
            try simp only [Act.put, List.setIfInBounds_toArray, List.set_cons_zero, List.set_cons_succ]
            refine takeH (i := 15) (d := 28) (v := undef) rfl rfl (by kernel_rfl) (by kernel_rfl) (by kernel_rfl) (fun _ _ _ h => h) (Or.inr ⟨by kernel_rfl, rfl⟩) hA ?_
            try simp only [Act.put, List.setIfInBounds_toArray, List.set_cons_zero, List.set_cons_succ]
            refine takeH (i := 16) (d := 29) (v := undef) rfl rfl (by kernel_rfl) (by kernel_rfl) (by kernel_rfl) (fun _ _ _ h => h) (Or.inr ⟨by kernel_rfl, rfl⟩) hA ?_
            try simp only [Act.put, List.setIfInBounds_toArray, List.set_cons_zero, List.set_cons_succ]
            refine takeH (i := 17) (d := 30) (v := undef) rfl rfl (by kernel_rfl) (by kernel_rfl) (by kernel_rfl) (fun _ _ _ h => h) (Or.inr ⟨by kernel_rfl, rfl⟩) hA ?_
            try simp only [Act.put, List.setIfInBounds_toArray, List.set_cons_zero, List.set_cons_succ]
            refine takeH (i := 18) (d := 31) (v := undef) rfl rfl (by kernel_rfl) (by kernel_rfl) (by kernel_rfl) (fun _ _ _ h => h) (Or.inr ⟨by kernel_rfl, rfl⟩) hA ?_
            try simp only [Act.put, List.setIfInBounds_toArray, List.set_cons_zero, List.set_cons_succ]
            refine takeH (i := 19) (d := 32) (v := undef) rfl rfl (by kernel_rfl) (by kernel_rfl) (by kernel_rfl) (fun _ _ _ h => h) (Or.inr ⟨by kernel_rfl, rfl⟩) hA ?_
            try simp only [Act.put, List.setIfInBounds_toArray, List.set_cons_zero, List.set_cons_succ]
            refine takeH (i := 20) (d := 33) (v := undef) rfl rfl (by kernel_rfl) (by kernel_rfl) (by kernel_rfl) (fun _ _ _ h => h) (Or.inr ⟨by kernel_rfl, rfl⟩) hA ?_
            try simp only [Act.put, List.setIfInBounds_toArray, List.set_cons_zero, List.set_cons_succ]
            refine takeH (i := 21) (d := 34) (v := ?_) rfl rfl (by kernel_rfl) (by kernel_rfl) (by kernel_rfl) (fun _ _ _ h => h) (Or.inl ⟨by kernel_rfl, ?_⟩) hA ?_
            rotate_left 1
            · intro w hS; (try dsimp only [EntAt, Nat.zero_add] at hS); go_simp; (try with_reducible rfl)
            try simp only [Act.put, List.setIfInBounds_toArray, List.set_cons_zero, List.set_cons_succ]
            refine takeH (i := 22) (d := 35) (v := ?_) rfl rfl (by kernel_rfl) (by kernel_rfl) (by kernel_rfl) (fun _ _ _ h => h) (Or.inl ⟨by kernel_rfl, ?_⟩) hA ?_
            rotate_left 1
            · intro w hS; (try dsimp only [EntAt, Nat.zero_add] at hS); go_simp; (try with_reducible rfl)
            try simp only [Act.put, List.setIfInBounds_toArray, List.set_cons_zero, List.set_cons_succ]
            refine wpAnyH_done (by kernel_rfl) ?_ _
            refine NoPanic.normal ?_
            go_wp2
            go_roundw
            case rel => exact ⟨k + 1, by omega, by go_num, HO2, hb.drew.trans (hb'.mono hb.size)⟩
            case measure => simp [intOf]; omega
          · skip
            obtain ⟨b2, off2, ha2, hd⟩ := hr.at rfl (k - 1) (by omega)
            simp only [Option.some.injEq, Addr.mk.injEq] at ha2
            obtain ⟨rfl, rfl, _⟩ := ha2
            have hd2 := hd.below hb
            obtain ⟨d0, d1, d2, d3⟩ := hd2
            obtain ⟨y, hy⟩ : ∃ y, y = nth es (k - 1) := ⟨_, rfl⟩
            rw [← hy] at d0 d1 d2 d3
            have HY : Hid (y = nth es (k - 1)) := hy
            clear hy hd
            obtain ⟨j, hj⟩ : ∃ j, j = k - 1 := ⟨k - 1, rfl⟩
            rw [← hj] at d0 d1 d2 d3
            have HJ : Hid (j = k - 1) := hj
            have hkj : (k : Int) - 1 = (j : Int) := by omega
            have hkp : decide (0 < k) = true := by simp; omega
            have hbn : b < wr.drew.heap.size := hlt2
            have hj1 : (j : Int) < (es.length : Int) := by omega
            have hj0 : (0 : Int) ≤ (j : Int) := by omega
            have hjn : j < es.length := by omega
            have hwr : IntKind.i64.wrap (j : Int) = (j : Int) := by rw [IntKind.wrap_i64]; omega
            have hk1 : (k : Int) < (es.length : Int) := by omega
            clear hj hk0
            go_wp2_with fail
            go_region_held3 (fun w' => w'.cell? ⟨b, off + k * 4, none⟩ = some (.string x.key) ∧ w'.cell? ⟨b, off + k * 4 + 1, none⟩ = some (.string x.val) ∧ w'.cell? ⟨b, off + k * 4 + 2, none⟩ = some (.int .i64 x.seq) ∧ w'.cell? ⟨b, off + k * 4 + 3, none⟩ = some (.bool x.gone) ∧
                w'.cell? ⟨b, off + j * 4, none⟩ = some (.string y.key) ∧ w'.cell? ⟨b, off + j * 4 + 1, none⟩ = some (.string y.val) ∧ w'.cell? ⟨b, off + j * 4 + 2, none⟩ = some (.int .i64 y.seq) ∧ w'.cell? ⟨b, off + j * 4 + 3, none⟩ = some (.bool y.gone)) (go_keep)
              (first
                | (go_at_call 40; refine (l3Entry_yes x _ hfk hok).mono ?_; rintro e w1 ⟨rfl, hb1⟩; have hcc1 : ∀ o, w1.cell? ⟨b, o, none⟩ = wr.cell? ⟨b, o, none⟩ := fun o => (bcell hb1).1 b o (by simpa using hlt2); have hz1 : b < w1.heap.size := by have := hb1.size; simp at this; omega)
                | (go_at_call 41; refine (l3Ahead_any y x _).mono ?_; rintro e w2 ⟨rfl, hb2⟩; have hcc2 : ∀ o, w2.cell? ⟨b, o, none⟩ = wr.cell? ⟨b, o, none⟩ := fun o => ((bcell hb2).1 b o hz1).trans (hcc1 o)))
            have bz := (hb.drew.trans (hb1.mono hb.size)).trans (hb2.mono (by have := hb.size; have := hb1.size; simp at this; omega))
            cases hah : ahd y x with
            | false =>
              have RES : Hid (okL es = false) := okL_no_at hlt (by unfold okAt; rw [← HX.out, ← HY.out, hok, hah]; simp; omega)
              go_wp2
              go_ret
              exact ⟨ret_bool RES.out.symm, bz⟩
            | true =>
              have HO2 : Hid (okTo es (k + 1) = true) := by
                show _ = _
                rw [okTo_succ, HO.out]; unfold okAt; rw [← HX.out, ← HY.out, hok, hah]; simp
              go_wp2
              go_roundw
              case rel => exact ⟨k + 1, by omega, by go_num, HO2, bz⟩
              case measure => simp [intOf]; omega
      · have hke : k = es.length := by omega
        subst hke
        go_wp2
        go_ret
        exact ⟨ret_bool (by simp [okL, HO.out]; omega), hb⟩
end Go.Proofs.Ytjnhhdnfncfedaa
namespace Go.Proofs.Ytjnhhdnfncfedaa
open Go.RowKit
/-- What a function that sees leaves: the entry and true, or the zero entry and false. -/
def SeenPost (w : World) (o : Option Ent) (e : Ending) (w' : World) : Prop :=
  e = .returned (.tuple #[.agg #[.string (o.getD zeroE).key, .string (o.getD zeroE).val, .int .i64 (o.getD zeroE).seq, .bool (o.getD zeroE).gone], .bool o.isSome]) ∧ Below w.heap.size w w'
theorem seenPost_some {w w' : World} {o : Option Ent} {x : Ent} (ho : o = some x) (hb : Below w.heap.size w w') : SeenPost w o (.returned (.tuple #[.agg #[.string x.key, .string x.val, .int .i64 x.seq, .bool x.gone], .bool true])) w' := by
  subst ho; exact ⟨rfl, hb⟩
theorem seenPost_none {w w' : World} {o : Option Ent} (ho : o = none) (hb : Below w.heap.size w w') : SeenPost w o (.returned (.tuple #[.agg #[.string ⟨#[]⟩, .string ⟨#[]⟩, .int .i64 0, .bool false], .bool false])) w' := by
  subst ho; exact ⟨rfl, hb⟩
theorem specOk_yes (v : Value) (es : List Ent) (w : World) (hr : RdE w v es) (hf : ∀ e ∈ es, Fits e) (h : okL es = true) :
    Calls Try.prog 24 #[v] w fun e w' => e = .returned (.bool true) ∧ Below w.heap.size w w' := by
  have := specEntriesOk_any v es w hr hf; rwa [h] at this
theorem specOk_no (v : Value) (es : List Ent) (w : World) (hr : RdE w v es) (hf : ∀ e ∈ es, Fits e) (h : okL es = false) :
    Calls Try.prog 24 #[v] w fun e w' => e = .returned (.bool false) ∧ Below w.heap.size w w' := by
  have := specEntriesOk_any v es w hr hf; rwa [h] at this
/-- A result of the call's own: an entry in a block that is its own. -/
def BoxAt (w : World) (b : Nat) (x : Ent) : Prop := EntAt w b 0 x ∧ ∀ o, w.frozen? ⟨b, o, none⟩ = false
theorem BoxAt.below {w w' : World} {b : Nat} {x : Ent} (h : BoxAt w b x) (hb : Below w.heap.size w w') : BoxAt w' b x :=
  ⟨h.1.below hb, fun o => ((bcell hb).2 b o h.1.lt).trans (h.2 o)⟩
theorem box_zero (w : World) (t : TypeId) : BoxAt (w.alloc (.cells #[.string ⟨#[]⟩, .string ⟨#[]⟩, .int .i64 0, .bool false] t)) w.heap.size zeroE :=
  ⟨⟨by simp [zeroE], by simp [zeroE], by simp [zeroE], by simp [zeroE]⟩, fun o => by simp⟩
theorem BoxAt.facts {w : World} {b : Nat} {x : Ent} (h : BoxAt w b x) : w.cell? ⟨b, 0, none⟩ = some (.string x.key) ∧ w.cell? ⟨b, 1, none⟩ = some (.string x.val) ∧ w.cell? ⟨b, 2, none⟩ = some (.int .i64 x.seq) ∧ w.cell? ⟨b, 3, none⟩ = some (.bool x.gone) ∧
    w.frozen? ⟨b, 0, none⟩ = false ∧ w.frozen? ⟨b, 1, none⟩ = false ∧ w.frozen? ⟨b, 2, none⟩ = false ∧ w.frozen? ⟨b, 3, none⟩ = false := by
  obtain ⟨⟨h0, h1, h2, h3⟩, hf⟩ := h
  simp only [Nat.zero_add] at h1 h2 h3
  exact ⟨h0, h1, h2, h3, hf 0, hf 1, hf 2, hf 3⟩
theorem below4 {B : Nat} {w0 w : World} (h : Below B w0 w) {g : Nat} (hg : B ≤ g) (a b c d : Value) (i j k l : Nat) : Below B w0 ((((w.setCell ⟨g, i, none⟩ a).setCell ⟨g, j, none⟩ b).setCell ⟨g, k, none⟩ c).setCell ⟨g, l, none⟩ d) :=
  (((h.setCell (by exact hg) _).setCell (by exact hg) _).setCell (by exact hg) _).setCell (by exact hg) _
end Go.Proofs.Ytjnhhdnfncfedaa
