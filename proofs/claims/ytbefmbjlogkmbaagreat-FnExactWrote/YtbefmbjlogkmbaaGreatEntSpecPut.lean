/- The contracts of the model's Put. -/
import Derived.Test.YtbefmbjlogkmbaaGreatG05
import Derived.Deep.RegionHeld3
namespace Go.Proofs.YtbefmbjlogkmbaaGreat
open Go.RowKit
theorem entAt_box (W : World) (x : Ent) (t : TypeId) : EntAt (W.alloc (.cells #[.string x.key, .string x.val, .int .i64 x.seq, .bool x.gone] t)) W.heap.size 0 x :=
  ⟨by simp [World.cell?_alloc_at], by simp [World.cell?_alloc_at], by simp [World.cell?_alloc_at], by simp [World.cell?_alloc_at]⟩
theorem nth_take {es : List Ent} {k i : Nat} (h : i < k) (h2 : i < es.length) : nth (es.take k) i = nth es i := by
  rw [nth_eq (by rw [List.length_take]; omega), nth_eq h2, List.getElem_take]
theorem nth_drop {es : List Ent} {k i : Nat} (h : k + i < es.length) : nth (es.drop k) i = nth es (k + i) := by
  rw [nth_eq (by rw [List.length_drop]; omega), nth_eq h, List.getElem_drop]
theorem rdE_take {w : World} {a : Option Addr} {n cap k : Nat} {es : List Ent} (h : RdE w (.slice a n cap) es) (hk : k ≤ es.length) : RdE w (.slice a k cap) (es.take k) := by
  obtain ⟨a', cap', hv, h1, h2, h0, h3⟩ := h
  simp only [Value.slice.injEq] at hv
  obtain ⟨rfl, _, rfl⟩ := hv
  have hl : (es.take k).length = k := by rw [List.length_take]; omega
  refine ⟨a, cap, by rw [hl], by omega, h2, h0, ?_⟩
  rcases h3 with rfl | ⟨b, off, ha, hc⟩
  · exact .inl (by simp)
  · exact .inr ⟨b, off, ha, fun i hi => by rw [nth_take (by omega) (by omega)]; exact hc i (by omega)⟩
theorem rdE_drop {w : World} {b off n cap k : Nat} {es : List Ent} (h : RdE w (.slice (some ⟨b, off, none⟩) n cap) es) (hk : k ≤ es.length) : RdE w (.slice (some ⟨b, off + k * 4, none⟩) (es.length - k) (cap - k)) (es.drop k) := by
  obtain ⟨a', cap', hv, h1, h2, h0, h3⟩ := h
  simp only [Value.slice.injEq] at hv
  obtain ⟨rfl, _, rfl⟩ := hv
  have hl : (es.drop k).length = es.length - k := List.length_drop
  refine ⟨_, _, by rw [hl], by omega, by omega, (fun h => by cases h), ?_⟩
  rcases h3 with rfl | ⟨b', off', ha, hc⟩
  · exact .inl (by simp)
  · cases ha
    refine .inr ⟨b, off + k * 4, rfl, fun i hi => ?_⟩
    rw [nth_drop (by omega), show off + k * 4 + i * 4 = off + (k + i) * 4 by omega]
    exact hc (k + i) (by omega)
theorem rdE_none {w : World} {ad : Option Addr} {cap : Nat} {es : List Ent} (h0 : ad = none → cap = 0) (hm : cap ≤ maxLen) (he : es = []) : RdE w (.slice ad 0 cap) es := by
  subst he; exact ⟨ad, cap, rfl, Nat.zero_le _, hm, h0, .inl rfl⟩
theorem rdE_cut {w : World} {b off n cap k : Nat} {es : List Ent} (h : RdE w (.slice (some ⟨b, off, none⟩) n cap) es) (hk : k ≤ es.length) : RdE w (.slice (if cap = k then some ⟨b, off, none⟩ else some ⟨b, off + k * 4, none⟩) (es.length - k) (cap - k)) (es.drop k) := by
  split
  · rename_i hck
    obtain ⟨a', cap', hv, h1, h2, h0, h3⟩ := h
    simp only [Value.slice.injEq] at hv
    obtain ⟨_, _, rfl⟩ := hv
    have hl : es.length - k = 0 := by omega
    rw [hl]
    exact rdE_none (fun h => by cases h) (by omega) (List.drop_eq_nil_of_le (by omega))
  · exact rdE_drop h hk
theorem rdE_one {w : World} {b : Nat} {x : Ent} (h : EntAt w b 0 x) : RdE w (.slice (some ⟨b, 0, none⟩) 1 1) [x] :=
  ⟨_, 1, rfl, Nat.le_refl _, by decide, (fun h => by cases h), .inr ⟨b, 0, rfl, fun i hi => by
    have : i = 0 := by simpa using hi
    subst this
    exact h⟩⟩
set_option maxHeartbeats 4000000 in
set_option maxRecDepth 100000 in
theorem l3Put_any (v : Value) (es : List Ent) (x : Ent) (w : World) (hr : RdE w v es) (hn : es.length ≤ 1000000) :
    Calls Tryz.prog 61 #[v, .agg #[.string x.key, .string x.val, .int .i64 x.seq, .bool x.gone]] w fun e w' => ∃ u, e = .returned u ∧ OwnE w' w.heap.size u (insE es x) ∧ Below w.heap.size w w' := by
  obtain ⟨a, cap, hv, hl, hm, hnil, _⟩ := id hr
  have hm0 := hm
  unfold maxLen at hm
  subst hv
  have hbx := entAt_box w x 89
  have hb0 := below1 w (.cells #[.string x.key, .string x.val, .int .i64 x.seq, .bool x.gone] 89)
  go_enter Tryz.func61, Tryz.ntmps61
  go_wp2_with fail
  go_loopw [5] (fun i wr => ∃ k : Nat, k ≤ es.length ∧ i = .int .i64 k ∧ Hid (∀ j, j < k → ahd (nth es j) x = true) ∧ EntAt wr w.heap.size 0 x ∧ Below w.heap.size w wr ∧ w.heap.size + 1 ≤ wr.heap.size) (fun i _ => es.length - (intOf i).toNat)
  case atStart => exact ⟨0, Nat.zero_le _, rfl, (fun j hj => absurd hj (Nat.not_lt_zero _)), hbx, hb0, by simp⟩
  case round =>
    obtain ⟨k, hk, rfl, HO, hx0, hb, hsz⟩ := hrel
    clear hbx hb0
    have hrw := hr.below hb
    by_cases hlt : k < es.length
    · obtain ⟨b, off, rfl, hc⟩ := hrw.at rfl k hlt
      obtain ⟨y, hy⟩ : ∃ y, y = nth es k := ⟨_, rfl⟩
      rw [← hy] at hc
      have HY : Hid (y = nth es k) := hy
      clear hy
      have hkl : decide (k < es.length) = true := by simpa using hlt
      cases hah : ahd y x with
      | true =>
        have HO2 : Hid (∀ j, j < k + 1 → ahd (nth es j) x = true) := by
          intro j hj
          by_cases hjk : j = k
          · subst hjk; rw [← HY.out]; exact hah
          · exact HO.out j (by omega)
        go_wp2_with fail
        refine wp_region_noPanic ?_
        refine wp_region_held_drew (S := fun w' => EntAt w' w.heap.size 0 x ∧ EntAt w' b (off + k * 4) y) (by kernel_rfl) ⟨hx0, hc⟩ (fun hH => ?_)
        refine tkA 0 7 hH ?_
        try simp only [Act.put, List.setIfInBounds_toArray, List.set_cons_zero, List.set_cons_succ]
        refine tkA 1 8 hH ?_
        try simp only [Act.put, List.setIfInBounds_toArray, List.set_cons_zero, List.set_cons_succ]
        refine tkA 2 9 hH ?_
        try simp only [Act.put, List.setIfInBounds_toArray, List.set_cons_zero, List.set_cons_succ]
        refine tkA 3 10 hH ?_
        try simp only [Act.put, List.setIfInBounds_toArray, List.set_cons_zero, List.set_cons_succ]
        refine tkA 4 11 hH ?_
        try simp only [Act.put, List.setIfInBounds_toArray, List.set_cons_zero, List.set_cons_succ]
        refine tkA 5 12 hH ?_
        try simp only [Act.put, List.setIfInBounds_toArray, List.set_cons_zero, List.set_cons_succ]
        refine tkA 6 13 hH ?_
        try simp only [Act.put, List.setIfInBounds_toArray, List.set_cons_zero, List.set_cons_succ]
        refine tkA 7 14 hH ?_
        try simp only [Act.put, List.setIfInBounds_toArray, List.set_cons_zero, List.set_cons_succ]
        refine tkA 8 15 hH ?_
        try simp only [Act.put, List.setIfInBounds_toArray, List.set_cons_zero, List.set_cons_succ]
        refine tkA 9 16 hH ?_
        try simp only [Act.put, List.setIfInBounds_toArray, List.set_cons_zero, List.set_cons_succ]
        refine wpAnyH_ready (rs := [10]) (by kernel_rfl) (by simp) ?_
        refine AllReadyH.cons rfl (fun K hK => ?_) AllReadyH.nil
        go_simp
        refine (l3Ahead_any y x _).mono ?_
        rw [hah]
        rintro e w' ⟨rfl, hb'⟩
        refine hK.out _ _ ⟨hH.1.below hb', hH.2.below hb'⟩ (fun hA => ?_)
        clear hK K
        try simp only [Act.put, List.setIfInBounds_toArray, List.set_cons_zero, List.set_cons_succ]
        refine tkA 11 18 hA ?_
        try simp only [Act.put, List.setIfInBounds_toArray, List.set_cons_zero, List.set_cons_succ]
        refine wpAnyH_done (by kernel_rfl) ?_ _
        refine NoPanic.normal ?_
        go_wp2
        go_roundw
        case rel => exact ⟨k + 1, by omega, by go_num, HO2, hA.1, hb.drew.trans (hb'.mono hb.size), by have := hb'.size; simp at this; omega⟩
        case measure => simp [intOf]; omega
      | false =>
        have HK : Hid (atE es x = k) := atE_scan es x k hk HO.out (fun _ => by rw [← HY.out]; exact hah)
        go_wp2_with fail
        refine wp_region_noPanic ?_
        refine wp_region_held_drew (S := fun w' => EntAt w' w.heap.size 0 x ∧ EntAt w' b (off + k * 4) y) (by kernel_rfl) ⟨hx0, hc⟩ (fun hH => ?_)
        refine tkA 0 7 hH ?_
        try simp only [Act.put, List.setIfInBounds_toArray, List.set_cons_zero, List.set_cons_succ]
        refine tkA 1 8 hH ?_
        try simp only [Act.put, List.setIfInBounds_toArray, List.set_cons_zero, List.set_cons_succ]
        refine tkA 2 9 hH ?_
        try simp only [Act.put, List.setIfInBounds_toArray, List.set_cons_zero, List.set_cons_succ]
        refine tkA 3 10 hH ?_
        try simp only [Act.put, List.setIfInBounds_toArray, List.set_cons_zero, List.set_cons_succ]
        refine tkA 4 11 hH ?_
        try simp only [Act.put, List.setIfInBounds_toArray, List.set_cons_zero, List.set_cons_succ]
        refine tkA 5 12 hH ?_
        try simp only [Act.put, List.setIfInBounds_toArray, List.set_cons_zero, List.set_cons_succ]
        refine tkA 6 13 hH ?_
        try simp only [Act.put, List.setIfInBounds_toArray, List.set_cons_zero, List.set_cons_succ]
        refine tkA 7 14 hH ?_
        try simp only [Act.put, List.setIfInBounds_toArray, List.set_cons_zero, List.set_cons_succ]
        refine tkA 8 15 hH ?_
        try simp only [Act.put, List.setIfInBounds_toArray, List.set_cons_zero, List.set_cons_succ]
        refine tkA 9 16 hH ?_
        try simp only [Act.put, List.setIfInBounds_toArray, List.set_cons_zero, List.set_cons_succ]
        refine wpAnyH_ready (rs := [10]) (by kernel_rfl) (by simp) ?_
        refine AllReadyH.cons rfl (fun K hK => ?_) AllReadyH.nil
        go_simp
        refine (l3Ahead_any y x _).mono ?_
        rw [hah]
        rintro e w1 ⟨rfl, hb'⟩
        refine hK.out _ _ ⟨hH.1.below hb', hH.2.below hb'⟩ (fun hA => ?_)
        clear hK K
        try simp only [Act.put, List.setIfInBounds_toArray, List.set_cons_zero, List.set_cons_succ]
        refine tkA 11 18 hA ?_
        try simp only [Act.put, List.setIfInBounds_toArray, List.set_cons_zero, List.set_cons_succ]
        refine wpAnyH_done (by kernel_rfl) ?_ _
        refine NoPanic.normal ?_
        have hr1 := (hrw.drewN 1).below hb'
        have bz := hb.drew.trans (hb'.mono hb.size)
        have hs1 := hb'.size
        have hx1 := hA.1
        clear hA hH hc hb hx0 hb' HO hrw
        simp at hs1
        have hkc : k < cap := by omega
        go_wp2_with (at_builtin; (refine wpList_append_ents rfl _ _ rfl (w.heap.size + 1) _ _ [] (es.take k) rfl rfl ?c1 ?c2 ?c3 ?c4 ?_))
        case c1 => exact (ownE_none _).mono (by omega)
        case c2 => exact rdE_take (hr1.below (below1 _ _)) hk
        case c3 => first | (simp; done) | (simp; omega)
        case c4 => simp; omega
        intro v2 w2 ho2 hg2
        have hx2 : EntAt w2 w.heap.size 0 x := (hx1.below (below1 _ (.cells #[] 89))).of_block (hg2.block _ (by simp; omega) (by simp [Value.ownBlock]; omega))
        have bz2 : Below w.heap.size w w2 := (bz.alloc (by omega) _).grown hg2 (by simp; omega) (fun k hk => by simp [Value.ownBlock] at hk; omega)
        have hr2 := hr.below bz2
        have hs2 := hg2.size
        simp at hs2
        clear hr1 hx1 hg2
        go_wp2_with fail
        refine wp_region_noPanic ?_
        refine wp_region_held_drew (S := fun w' => EntAt w' w.heap.size 0 x) (by kernel_rfl) hx2 (fun hH => ?_)
        refine tkA 0 26 hH ?_
        try simp only [Act.put, List.setIfInBounds_toArray, List.set_cons_zero, List.set_cons_succ]
        refine tkA 1 27 hH ?_
        try simp only [Act.put, List.setIfInBounds_toArray, List.set_cons_zero, List.set_cons_succ]
        refine tkA 4 30 hH ?_
        try simp only [Act.put, List.setIfInBounds_toArray, List.set_cons_zero, List.set_cons_succ]
        refine tkA 5 31 hH ?_
        try simp only [Act.put, List.setIfInBounds_toArray, List.set_cons_zero, List.set_cons_succ]
        refine tkA 6 32 hH ?_
        try simp only [Act.put, List.setIfInBounds_toArray, List.set_cons_zero, List.set_cons_succ]
        refine wpAnyH_ready (rs := [2]) (by kernel_rfl) (by simp) ?_
        refine AllReadyH.cons rfl (fun K hK => ?_) AllReadyH.nil
        go_simp
        refine hK.out _ _ (hH.below (below1 _ _)) (fun h2 => ?_)
        clear hK K
        try simp only [Act.put, List.setIfInBounds_toArray, List.set_cons_zero, List.set_cons_succ]
        refine wpAnyH_ready (rs := [3]) (by kernel_rfl) (by simp) ?_
        refine AllReadyH.cons rfl (fun K hK => ?_) AllReadyH.nil
        refine step_append_ents rfl 29 rfl _ _ rfl (w.heap.size + 1) v2 (.slice (some ⟨w2.heap.size, 0, none⟩) 1 1) ([] ++ es.take k) [x] rfl rfl ?d1 ?d2 ?d3 ?d4 ?_
        case d1 => exact ho2.below (below1 _ _).drew
        case d2 => exact rdE_one (entAt_box _ _ _)
        case d3 => first | (simp; done) | (simp; omega)
        case d4 => simp; omega
        intro v3 w3 ho3 hg3
        have bv2 : ∀ k, v2.ownBlock = some k → w.heap.size + 1 ≤ k := fun k hk => (World.ownsRow.lt ho2 k hk).1
        have hx3 : EntAt w3 w.heap.size 0 x := h2.of_block (hg3.block _ (by simp; omega) (fun e => by have := bv2 _ e.symm; omega))
        have bz3 : Below w.heap.size w w3 := (bz2.alloc bz2.size _).drew.grown hg3 (by simp; omega) (fun k hk => by have := bv2 _ hk; omega)
        have hs3 := hg3.size
        simp at hs3
        refine hK.out _ _ hx3 (fun h3 => ?_)
        clear hK K
        try simp only [Act.put, List.setIfInBounds_toArray, List.set_cons_zero, List.set_cons_succ]
        refine wpAnyH_ready (rs := [7]) (by kernel_rfl) (by simp) ?_
        refine AllReadyH.cons rfl (fun K hK => ?_) AllReadyH.nil
        refine step_append_ents rfl 33 rfl _ _ rfl (w.heap.size + 1) v3 _ ([] ++ es.take k ++ [x]) (es.drop k) rfl rfl ?e1 ?e2 ?e3 ?e4 ?_
        case e1 => exact ho3
        case e2 => exact rdE_cut (hr.below bz3) hk
        case e3 => first | (simp; done) | (simp; omega)
        case e4 => omega
        intro v4 w4 ho4 hg4
        have bv3 : ∀ k, v3.ownBlock = some k → w.heap.size + 1 ≤ k := fun k hk => (World.ownsRow.lt ho3 k hk).1
        have hx4 : EntAt w4 w.heap.size 0 x := h3.of_block (hg4.block _ (by omega) (fun e => by have := bv3 _ e.symm; omega))
        have bz4 : Below w.heap.size w w4 := bz3.grown hg4 bz3.size (fun k hk => by have := bv3 _ hk; omega)
        refine hK.out _ _ hx4 (fun h4 => ?_)
        clear hK K
        try simp only [Act.put, List.setIfInBounds_toArray, List.set_cons_zero, List.set_cons_succ]
        refine tkA 8 4 h4 ?_
        try simp only [Act.put, List.setIfInBounds_toArray, List.set_cons_zero, List.set_cons_succ]
        refine wpAnyH_done (by kernel_rfl) ?_ _
        refine NoPanic.normal ?_
        go_wp2
        all_goals go_ret
        all_goals refine ⟨_, rfl, ?_, bz4⟩
        all_goals have e : insE es x = [] ++ es.take k ++ [x] ++ es.drop k := by unfold insE; rw [HK.out]; simp
        all_goals rw [e]
        all_goals exact ho4.mono (Nat.le_succ _)
    · have hke : k = es.length := by omega
      have HK : Hid (atE es x = k) := atE_scan es x k hk HO.out (fun h => by omega)
      have hkl : decide (k < es.length) = false := by simpa using hlt
      rcases ‹(es = [] ∨ _)› with he | ⟨b, off, ha, _⟩
      · cases a with
        | none =>
          have hc0 := hnil rfl
          subst he
          have hk0 : k = 0 := by simpa using hke
          subst hk0
          subst hc0
          clear hke hkl hlt
          go_wp2_with fail
          refine wp_region_noPanic ?_
          refine wp_region_held_drew (S := fun w' => EntAt w' w.heap.size 0 x) (by kernel_rfl) hx0 (fun hH => ?_)
          refine tkA 0 7 hH ?_
          try simp only [Act.put, List.setIfInBounds_toArray, List.set_cons_zero, List.set_cons_succ]
          refine tkA 1 8 hH ?_
          try simp only [Act.put, List.setIfInBounds_toArray, List.set_cons_zero, List.set_cons_succ]
          refine tkA 2 9 hH ?_
          try simp only [Act.put, List.setIfInBounds_toArray, List.set_cons_zero, List.set_cons_succ]
          refine tkA 3 10 hH ?_
          try simp only [Act.put, List.setIfInBounds_toArray, List.set_cons_zero, List.set_cons_succ]
          refine tkA 4 11 hH ?_
          try simp only [Act.put, List.setIfInBounds_toArray, List.set_cons_zero, List.set_cons_succ]
          refine tkS 5 12 hH ?_
          try simp only [Act.put, List.setIfInBounds_toArray, List.set_cons_zero, List.set_cons_succ]
          refine tkS 6 13 hH ?_
          try simp only [Act.put, List.setIfInBounds_toArray, List.set_cons_zero, List.set_cons_succ]
          refine tkS 7 14 hH ?_
          try simp only [Act.put, List.setIfInBounds_toArray, List.set_cons_zero, List.set_cons_succ]
          refine tkS 8 15 hH ?_
          try simp only [Act.put, List.setIfInBounds_toArray, List.set_cons_zero, List.set_cons_succ]
          refine tkS 9 16 hH ?_
          try simp only [Act.put, List.setIfInBounds_toArray, List.set_cons_zero, List.set_cons_succ]
          refine tkS 10 17 hH ?_
          try simp only [Act.put, List.setIfInBounds_toArray, List.set_cons_zero, List.set_cons_succ]
          refine tkA 11 18 hH ?_
          try simp only [Act.put, List.setIfInBounds_toArray, List.set_cons_zero, List.set_cons_succ]
          refine wpAnyH_done (by kernel_rfl) ?_ _
          refine NoPanic.normal ?_
          have hr1 := hrw.drewN 1
          have bz := hb.drew
          have hx1 : EntAt wr.drew w.heap.size 0 x := hx0
          have hs1 : wr.heap.size ≤ wr.drew.heap.size := Nat.le_refl _
          clear hH hb hx0 hrw HO
          change RdE wr.drew _ [] at hr1
          revert hr1 bz hx1 hs1
          generalize wr.drew = w1
          intro bz hx1 hs1 hr1
          go_wp2_with (at_builtin; (refine wpList_append_ents rfl _ _ rfl (w.heap.size + 1) _ _ [] (([] : List Ent).take 0) rfl rfl ?c1 ?c2 ?c3 ?c4 ?_))
          case c1 => exact (ownE_none _).mono (by omega)
          case c2 => exact rdE_take (hr1.below (below1 _ _)) hk
          case c3 => first | (simp; done) | (simp; omega)
          case c4 => simp; omega
          intro v2 w2 ho2 hg2
          have hx2 : EntAt w2 w.heap.size 0 x := (hx1.below (below1 _ (.cells #[] 89))).of_block (hg2.block _ (by simp; omega) (by simp [Value.ownBlock]; omega))
          have bz2 : Below w.heap.size w w2 := (bz.alloc (by omega) _).grown hg2 (by simp; omega) (fun k hk => by simp [Value.ownBlock] at hk; omega)
          have hr2 := hr.below bz2
          have hs2 := hg2.size
          simp at hs2
          clear hr1 hx1 hg2
          go_wp2_with fail
          refine wp_region_noPanic ?_
          refine wp_region_held_drew (S := fun w' => EntAt w' w.heap.size 0 x) (by kernel_rfl) hx2 (fun hH => ?_)
          refine tkA 0 26 hH ?_
          try simp only [Act.put, List.setIfInBounds_toArray, List.set_cons_zero, List.set_cons_succ]
          refine tkA 1 27 hH ?_
          try simp only [Act.put, List.setIfInBounds_toArray, List.set_cons_zero, List.set_cons_succ]
          refine tkA 4 30 hH ?_
          try simp only [Act.put, List.setIfInBounds_toArray, List.set_cons_zero, List.set_cons_succ]
          refine tkA 5 31 hH ?_
          try simp only [Act.put, List.setIfInBounds_toArray, List.set_cons_zero, List.set_cons_succ]
          refine tkA 6 32 hH ?_
          try simp only [Act.put, List.setIfInBounds_toArray, List.set_cons_zero, List.set_cons_succ]
          refine wpAnyH_ready (rs := [2]) (by kernel_rfl) (by simp) ?_
          refine AllReadyH.cons rfl (fun K hK => ?_) AllReadyH.nil
          go_simp
          refine hK.out _ _ (hH.below (below1 _ _)) (fun h2 => ?_)
          clear hK K
          try simp only [Act.put, List.setIfInBounds_toArray, List.set_cons_zero, List.set_cons_succ]
          refine wpAnyH_ready (rs := [3]) (by kernel_rfl) (by simp) ?_
          refine AllReadyH.cons rfl (fun K hK => ?_) AllReadyH.nil
          refine step_append_ents rfl 29 rfl _ _ rfl (w.heap.size + 1) v2 (.slice (some ⟨w2.heap.size, 0, none⟩) 1 1) ([] ++ ([] : List Ent).take 0) [x] rfl rfl ?d1 ?d2 ?d3 ?d4 ?_
          case d1 => exact ho2.below (below1 _ _).drew
          case d2 => exact rdE_one (entAt_box _ _ _)
          case d3 => first | (simp; done) | (simp; omega)
          case d4 => simp; omega
          intro v3 w3 ho3 hg3
          have bv2 : ∀ k, v2.ownBlock = some k → w.heap.size + 1 ≤ k := fun k hk => (World.ownsRow.lt ho2 k hk).1
          have hx3 : EntAt w3 w.heap.size 0 x := h2.of_block (hg3.block _ (by simp; omega) (fun e => by have := bv2 _ e.symm; omega))
          have bz3 : Below w.heap.size w w3 := (bz2.alloc bz2.size _).drew.grown hg3 (by simp; omega) (fun k hk => by have := bv2 _ hk; omega)
          have hs3 := hg3.size
          simp at hs3
          refine hK.out _ _ hx3 (fun h3 => ?_)
          clear hK K
          try simp only [Act.put, List.setIfInBounds_toArray, List.set_cons_zero, List.set_cons_succ]
          refine wpAnyH_ready (rs := [7]) (by kernel_rfl) (by simp) ?_
          refine AllReadyH.cons rfl (fun K hK => ?_) AllReadyH.nil
          refine step_append_ents rfl 33 rfl _ _ rfl (w.heap.size + 1) v3 _ ([] ++ ([] : List Ent).take 0 ++ [x]) (([] : List Ent).drop 0) rfl rfl ?e1 ?e2 ?e3 ?e4 ?_
          case e1 => exact ho3
          case e2 => exact rdE_none (fun _ => rfl) (Nat.zero_le _) rfl
          case e3 => first | (simp; done) | (simp; omega)
          case e4 => omega
          intro v4 w4 ho4 hg4
          have bv3 : ∀ k, v3.ownBlock = some k → w.heap.size + 1 ≤ k := fun k hk => (World.ownsRow.lt ho3 k hk).1
          have hx4 : EntAt w4 w.heap.size 0 x := h3.of_block (hg4.block _ (by omega) (fun e => by have := bv3 _ e.symm; omega))
          have bz4 : Below w.heap.size w w4 := bz3.grown hg4 bz3.size (fun k hk => by have := bv3 _ hk; omega)
          refine hK.out _ _ hx4 (fun h4 => ?_)
          clear hK K
          try simp only [Act.put, List.setIfInBounds_toArray, List.set_cons_zero, List.set_cons_succ]
          refine tkA 8 4 h4 ?_
          try simp only [Act.put, List.setIfInBounds_toArray, List.set_cons_zero, List.set_cons_succ]
          refine wpAnyH_done (by kernel_rfl) ?_ _
          refine NoPanic.normal ?_
          go_wp2
          all_goals go_ret
          all_goals refine ⟨_, rfl, ?_, bz4⟩
          all_goals have e : insE ([] : List Ent) x = [] ++ ([] : List Ent).take 0 ++ [x] ++ ([] : List Ent).drop 0 := by unfold insE; rw [HK.out]; simp
          all_goals rw [e]
          all_goals exact ho4.mono (Nat.le_succ _)
        | some ad =>
          subst he
          have hk0 : k = 0 := by simpa using hke
          subst hk0
          clear hke hkl hlt
          go_wp2_with fail
          refine wp_region_noPanic ?_
          refine wp_region_held_drew (S := fun w' => EntAt w' w.heap.size 0 x) (by kernel_rfl) hx0 (fun hH => ?_)
          refine tkA 0 7 hH ?_
          try simp only [Act.put, List.setIfInBounds_toArray, List.set_cons_zero, List.set_cons_succ]
          refine tkA 1 8 hH ?_
          try simp only [Act.put, List.setIfInBounds_toArray, List.set_cons_zero, List.set_cons_succ]
          refine tkA 2 9 hH ?_
          try simp only [Act.put, List.setIfInBounds_toArray, List.set_cons_zero, List.set_cons_succ]
          refine tkA 3 10 hH ?_
          try simp only [Act.put, List.setIfInBounds_toArray, List.set_cons_zero, List.set_cons_succ]
          refine tkA 4 11 hH ?_
          try simp only [Act.put, List.setIfInBounds_toArray, List.set_cons_zero, List.set_cons_succ]
          refine tkS 5 12 hH ?_
          try simp only [Act.put, List.setIfInBounds_toArray, List.set_cons_zero, List.set_cons_succ]
          refine tkS 6 13 hH ?_
          try simp only [Act.put, List.setIfInBounds_toArray, List.set_cons_zero, List.set_cons_succ]
          refine tkS 7 14 hH ?_
          try simp only [Act.put, List.setIfInBounds_toArray, List.set_cons_zero, List.set_cons_succ]
          refine tkS 8 15 hH ?_
          try simp only [Act.put, List.setIfInBounds_toArray, List.set_cons_zero, List.set_cons_succ]
          refine tkS 9 16 hH ?_
          try simp only [Act.put, List.setIfInBounds_toArray, List.set_cons_zero, List.set_cons_succ]
          refine tkS 10 17 hH ?_
          try simp only [Act.put, List.setIfInBounds_toArray, List.set_cons_zero, List.set_cons_succ]
          refine tkA 11 18 hH ?_
          try simp only [Act.put, List.setIfInBounds_toArray, List.set_cons_zero, List.set_cons_succ]
          refine wpAnyH_done (by kernel_rfl) ?_ _
          refine NoPanic.normal ?_
          have hr1 := hrw.drewN 1
          have bz := hb.drew
          have hx1 : EntAt wr.drew w.heap.size 0 x := hx0
          have hs1 : wr.heap.size ≤ wr.drew.heap.size := Nat.le_refl _
          clear hH hb hx0 hrw HO
          change RdE wr.drew _ [] at hr1
          revert hr1 bz hx1 hs1
          generalize wr.drew = w1
          intro bz hx1 hs1 hr1
          go_wp2_with (at_builtin; (refine wpList_append_ents rfl _ _ rfl (w.heap.size + 1) _ _ [] (([] : List Ent).take 0) rfl rfl ?c1 ?c2 ?c3 ?c4 ?_))
          case c1 => exact (ownE_none _).mono (by omega)
          case c2 => exact rdE_take (hr1.below (below1 _ _)) hk
          case c3 => first | (simp; done) | (simp; omega)
          case c4 => simp; omega
          intro v2 w2 ho2 hg2
          have hx2 : EntAt w2 w.heap.size 0 x := (hx1.below (below1 _ (.cells #[] 89))).of_block (hg2.block _ (by simp; omega) (by simp [Value.ownBlock]; omega))
          have bz2 : Below w.heap.size w w2 := (bz.alloc (by omega) _).grown hg2 (by simp; omega) (fun k hk => by simp [Value.ownBlock] at hk; omega)
          have hr2 := hr.below bz2
          have hs2 := hg2.size
          simp at hs2
          clear hr1 hx1 hg2
          go_wp2_with fail
          refine wp_region_noPanic ?_
          refine wp_region_held_drew (S := fun w' => EntAt w' w.heap.size 0 x) (by kernel_rfl) hx2 (fun hH => ?_)
          refine tkA 0 26 hH ?_
          try simp only [Act.put, List.setIfInBounds_toArray, List.set_cons_zero, List.set_cons_succ]
          refine tkA 1 27 hH ?_
          try simp only [Act.put, List.setIfInBounds_toArray, List.set_cons_zero, List.set_cons_succ]
          refine tkA 4 30 hH ?_
          try simp only [Act.put, List.setIfInBounds_toArray, List.set_cons_zero, List.set_cons_succ]
          refine tkA 5 31 hH ?_
          try simp only [Act.put, List.setIfInBounds_toArray, List.set_cons_zero, List.set_cons_succ]
          refine tkA 6 32 hH ?_
          try simp only [Act.put, List.setIfInBounds_toArray, List.set_cons_zero, List.set_cons_succ]
          refine wpAnyH_ready (rs := [2]) (by kernel_rfl) (by simp) ?_
          refine AllReadyH.cons rfl (fun K hK => ?_) AllReadyH.nil
          go_simp
          refine hK.out _ _ (hH.below (below1 _ _)) (fun h2 => ?_)
          clear hK K
          try simp only [Act.put, List.setIfInBounds_toArray, List.set_cons_zero, List.set_cons_succ]
          refine wpAnyH_ready (rs := [3]) (by kernel_rfl) (by simp) ?_
          refine AllReadyH.cons rfl (fun K hK => ?_) AllReadyH.nil
          refine step_append_ents rfl 29 rfl _ _ rfl (w.heap.size + 1) v2 (.slice (some ⟨w2.heap.size, 0, none⟩) 1 1) ([] ++ ([] : List Ent).take 0) [x] rfl rfl ?d1 ?d2 ?d3 ?d4 ?_
          case d1 => exact ho2.below (below1 _ _).drew
          case d2 => exact rdE_one (entAt_box _ _ _)
          case d3 => first | (simp; done) | (simp; omega)
          case d4 => simp; omega
          intro v3 w3 ho3 hg3
          have bv2 : ∀ k, v2.ownBlock = some k → w.heap.size + 1 ≤ k := fun k hk => (World.ownsRow.lt ho2 k hk).1
          have hx3 : EntAt w3 w.heap.size 0 x := h2.of_block (hg3.block _ (by simp; omega) (fun e => by have := bv2 _ e.symm; omega))
          have bz3 : Below w.heap.size w w3 := (bz2.alloc bz2.size _).drew.grown hg3 (by simp; omega) (fun k hk => by have := bv2 _ hk; omega)
          have hs3 := hg3.size
          simp at hs3
          refine hK.out _ _ hx3 (fun h3 => ?_)
          clear hK K
          try simp only [Act.put, List.setIfInBounds_toArray, List.set_cons_zero, List.set_cons_succ]
          refine wpAnyH_ready (rs := [7]) (by kernel_rfl) (by simp) ?_
          refine AllReadyH.cons rfl (fun K hK => ?_) AllReadyH.nil
          refine step_append_ents rfl 33 rfl _ _ rfl (w.heap.size + 1) v3 _ ([] ++ ([] : List Ent).take 0 ++ [x]) (([] : List Ent).drop 0) rfl rfl ?e1 ?e2 ?e3 ?e4 ?_
          case e1 => exact ho3
          case e2 => exact rdE_none (fun h => by first | cases h | (split at h <;> cases h)) (by first | exact hm0 | omega) rfl
          case e3 => first | (simp; done) | (simp; omega)
          case e4 => omega
          intro v4 w4 ho4 hg4
          have bv3 : ∀ k, v3.ownBlock = some k → w.heap.size + 1 ≤ k := fun k hk => (World.ownsRow.lt ho3 k hk).1
          have hx4 : EntAt w4 w.heap.size 0 x := h3.of_block (hg4.block _ (by omega) (fun e => by have := bv3 _ e.symm; omega))
          have bz4 : Below w.heap.size w w4 := bz3.grown hg4 bz3.size (fun k hk => by have := bv3 _ hk; omega)
          refine hK.out _ _ hx4 (fun h4 => ?_)
          clear hK K
          try simp only [Act.put, List.setIfInBounds_toArray, List.set_cons_zero, List.set_cons_succ]
          refine tkA 8 4 h4 ?_
          try simp only [Act.put, List.setIfInBounds_toArray, List.set_cons_zero, List.set_cons_succ]
          refine wpAnyH_done (by kernel_rfl) ?_ _
          refine NoPanic.normal ?_
          go_wp2
          all_goals go_ret
          all_goals refine ⟨_, rfl, ?_, bz4⟩
          all_goals have e : insE ([] : List Ent) x = [] ++ ([] : List Ent).take 0 ++ [x] ++ ([] : List Ent).drop 0 := by unfold insE; rw [HK.out]; simp
          all_goals rw [e]
          all_goals exact ho4.mono (Nat.le_succ _)
      · skip
        subst ha
        clear hke
        go_wp2_with fail
        refine wp_region_noPanic ?_
        refine wp_region_held_drew (S := fun w' => EntAt w' w.heap.size 0 x) (by kernel_rfl) hx0 (fun hH => ?_)
        refine tkA 0 7 hH ?_
        try simp only [Act.put, List.setIfInBounds_toArray, List.set_cons_zero, List.set_cons_succ]
        refine tkA 1 8 hH ?_
        try simp only [Act.put, List.setIfInBounds_toArray, List.set_cons_zero, List.set_cons_succ]
        refine tkA 2 9 hH ?_
        try simp only [Act.put, List.setIfInBounds_toArray, List.set_cons_zero, List.set_cons_succ]
        refine tkA 3 10 hH ?_
        try simp only [Act.put, List.setIfInBounds_toArray, List.set_cons_zero, List.set_cons_succ]
        refine tkA 4 11 hH ?_
        try simp only [Act.put, List.setIfInBounds_toArray, List.set_cons_zero, List.set_cons_succ]
        refine tkS 5 12 hH ?_
        try simp only [Act.put, List.setIfInBounds_toArray, List.set_cons_zero, List.set_cons_succ]
        refine tkS 6 13 hH ?_
        try simp only [Act.put, List.setIfInBounds_toArray, List.set_cons_zero, List.set_cons_succ]
        refine tkS 7 14 hH ?_
        try simp only [Act.put, List.setIfInBounds_toArray, List.set_cons_zero, List.set_cons_succ]
        refine tkS 8 15 hH ?_
        try simp only [Act.put, List.setIfInBounds_toArray, List.set_cons_zero, List.set_cons_succ]
        refine tkS 9 16 hH ?_
        try simp only [Act.put, List.setIfInBounds_toArray, List.set_cons_zero, List.set_cons_succ]
        refine tkS 10 17 hH ?_
        try simp only [Act.put, List.setIfInBounds_toArray, List.set_cons_zero, List.set_cons_succ]
        refine tkA 11 18 hH ?_
        try simp only [Act.put, List.setIfInBounds_toArray, List.set_cons_zero, List.set_cons_succ]
        refine wpAnyH_done (by kernel_rfl) ?_ _
        refine NoPanic.normal ?_
        have hr1 := hrw.drewN 1
        have bz := hb.drew
        have hx1 : EntAt wr.drew w.heap.size 0 x := hx0
        have hs1 : wr.heap.size ≤ wr.drew.heap.size := Nat.le_refl _
        clear hH hb hx0 hrw HO
        change RdE wr.drew _ es at hr1
        revert hr1 bz hx1 hs1
        generalize wr.drew = w1
        intro bz hx1 hs1 hr1
        go_wp2_with (at_builtin; (refine wpList_append_ents rfl _ _ rfl (w.heap.size + 1) _ _ [] (es.take k) rfl rfl ?c1 ?c2 ?c3 ?c4 ?_))
        case c1 => exact (ownE_none _).mono (by omega)
        case c2 => exact rdE_take (hr1.below (below1 _ _)) hk
        case c3 => first | (simp; done) | (simp; omega)
        case c4 => simp; omega
        intro v2 w2 ho2 hg2
        have hx2 : EntAt w2 w.heap.size 0 x := (hx1.below (below1 _ (.cells #[] 89))).of_block (hg2.block _ (by simp; omega) (by simp [Value.ownBlock]; omega))
        have bz2 : Below w.heap.size w w2 := (bz.alloc (by omega) _).grown hg2 (by simp; omega) (fun k hk => by simp [Value.ownBlock] at hk; omega)
        have hr2 := hr.below bz2
        have hs2 := hg2.size
        simp at hs2
        clear hr1 hx1 hg2
        go_wp2_with fail
        refine wp_region_noPanic ?_
        refine wp_region_held_drew (S := fun w' => EntAt w' w.heap.size 0 x) (by kernel_rfl) hx2 (fun hH => ?_)
        refine tkA 0 26 hH ?_
        try simp only [Act.put, List.setIfInBounds_toArray, List.set_cons_zero, List.set_cons_succ]
        refine tkA 1 27 hH ?_
        try simp only [Act.put, List.setIfInBounds_toArray, List.set_cons_zero, List.set_cons_succ]
        refine tkA 4 30 hH ?_
        try simp only [Act.put, List.setIfInBounds_toArray, List.set_cons_zero, List.set_cons_succ]
        refine tkA 5 31 hH ?_
        try simp only [Act.put, List.setIfInBounds_toArray, List.set_cons_zero, List.set_cons_succ]
        refine tkA 6 32 hH ?_
        try simp only [Act.put, List.setIfInBounds_toArray, List.set_cons_zero, List.set_cons_succ]
        refine wpAnyH_ready (rs := [2]) (by kernel_rfl) (by simp) ?_
        refine AllReadyH.cons rfl (fun K hK => ?_) AllReadyH.nil
        go_simp
        refine hK.out _ _ (hH.below (below1 _ _)) (fun h2 => ?_)
        clear hK K
        try simp only [Act.put, List.setIfInBounds_toArray, List.set_cons_zero, List.set_cons_succ]
        refine wpAnyH_ready (rs := [3]) (by kernel_rfl) (by simp) ?_
        refine AllReadyH.cons rfl (fun K hK => ?_) AllReadyH.nil
        refine step_append_ents rfl 29 rfl _ _ rfl (w.heap.size + 1) v2 (.slice (some ⟨w2.heap.size, 0, none⟩) 1 1) ([] ++ es.take k) [x] rfl rfl ?d1 ?d2 ?d3 ?d4 ?_
        case d1 => exact ho2.below (below1 _ _).drew
        case d2 => exact rdE_one (entAt_box _ _ _)
        case d3 => first | (simp; done) | (simp; omega)
        case d4 => simp; omega
        intro v3 w3 ho3 hg3
        have bv2 : ∀ k, v2.ownBlock = some k → w.heap.size + 1 ≤ k := fun k hk => (World.ownsRow.lt ho2 k hk).1
        have hx3 : EntAt w3 w.heap.size 0 x := h2.of_block (hg3.block _ (by simp; omega) (fun e => by have := bv2 _ e.symm; omega))
        have bz3 : Below w.heap.size w w3 := (bz2.alloc bz2.size _).drew.grown hg3 (by simp; omega) (fun k hk => by have := bv2 _ hk; omega)
        have hs3 := hg3.size
        simp at hs3
        refine hK.out _ _ hx3 (fun h3 => ?_)
        clear hK K
        try simp only [Act.put, List.setIfInBounds_toArray, List.set_cons_zero, List.set_cons_succ]
        refine wpAnyH_ready (rs := [7]) (by kernel_rfl) (by simp) ?_
        refine AllReadyH.cons rfl (fun K hK => ?_) AllReadyH.nil
        refine step_append_ents rfl 33 rfl _ _ rfl (w.heap.size + 1) v3 _ ([] ++ es.take k ++ [x]) (es.drop k) rfl rfl ?e1 ?e2 ?e3 ?e4 ?_
        case e1 => exact ho3
        case e2 => exact rdE_cut (hr.below bz3) hk
        case e3 => first | (simp; done) | (simp; omega)
        case e4 => omega
        intro v4 w4 ho4 hg4
        have bv3 : ∀ k, v3.ownBlock = some k → w.heap.size + 1 ≤ k := fun k hk => (World.ownsRow.lt ho3 k hk).1
        have hx4 : EntAt w4 w.heap.size 0 x := h3.of_block (hg4.block _ (by omega) (fun e => by have := bv3 _ e.symm; omega))
        have bz4 : Below w.heap.size w w4 := bz3.grown hg4 bz3.size (fun k hk => by have := bv3 _ hk; omega)
        refine hK.out _ _ hx4 (fun h4 => ?_)
        clear hK K
        try simp only [Act.put, List.setIfInBounds_toArray, List.set_cons_zero, List.set_cons_succ]
        refine tkA 8 4 h4 ?_
        try simp only [Act.put, List.setIfInBounds_toArray, List.set_cons_zero, List.set_cons_succ]
        refine wpAnyH_done (by kernel_rfl) ?_ _
        refine NoPanic.normal ?_
        go_wp2
        all_goals go_ret
        all_goals refine ⟨_, rfl, ?_, bz4⟩
        all_goals have e : insE es x = [] ++ es.take k ++ [x] ++ es.drop k := by unfold insE; rw [HK.out]; simp
        all_goals rw [e]
        all_goals exact ho4.mono (Nat.le_succ _)
end Go.Proofs.YtbefmbjlogkmbaaGreat
