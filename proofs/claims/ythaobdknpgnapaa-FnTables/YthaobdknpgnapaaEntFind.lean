/- The contract of the search for a place among entries. -/
import Derived.Test.YthaobdknpgnapaaEntImplOk
import Derived.Deep.LoopGhost
namespace Go.Proofs.Ythaobdknpgnapaa
open Go.RowKit
theorem entAt_boxF (W : World) (x : Ent) (t : TypeId) : EntAt (W.alloc (.cells #[.string x.key, .string x.val, .int .i64 x.seq, .bool x.gone] t)) W.heap.size 0 x := entAt_new W x t
set_option maxHeartbeats 4000000 in
set_option maxRecDepth 100000 in
theorem search_any (v : Value) (es : List Ent) (t : Ent) (w : World) (hr : RdE w v es) (hok : okL es = true) :
    Calls Try.prog 84 #[v, .agg #[.string t.key, .string t.val, .int .i64 t.seq, .bool t.gone], .func (.func 53) #[] #[]] w fun e w' =>
      e = .returned (.tuple #[.int .i64 (atE es t : Nat), .bool (hasKS es t)]) ∧ Below w.heap.size w w' := by
  obtain ⟨a, cap, hv, hl, hm, _⟩ := id hr
  unfold maxLen at hm
  subst hv
  have hlen := okL_len hok
  have hbx := entAt_boxF w t 26
  have hb0 := below1 w (.cells #[.string t.key, .string t.val, .int .i64 t.seq, .bool t.gone] 26)
  go_enter Try.func84, Try.ntmps84
  go_wp2
  go_loopw [9, 10] (fun s9 s10 wr => ∃ lo hi : Nat, s9 = .int .i64 lo ∧ s10 = .int .i64 hi ∧ lo ≤ hi ∧ hi ≤ es.length ∧ Hid (lo ≤ atE es t ∧ atE es t ≤ hi) ∧ EntAt wr w.heap.size 0 t ∧ Below w.heap.size w wr) (fun s9 s10 _ => (intOf s10).toNat - (intOf s9).toNat)
  case atStart => exact ⟨0, es.length, rfl, rfl, Nat.zero_le _, Nat.le_refl _, ⟨Nat.zero_le _, atE_le es t⟩, hbx, hb0⟩
  case round =>
    obtain ⟨lo, hi, rfl, rfl, hlh, hin, HA, hx0, hb⟩ := hrel
    clear hbx hb0
    by_cases hlt : lo < hi
    · obtain ⟨m, hm2⟩ : ∃ m, m = (lo + hi) / 2 := ⟨_, rfl⟩
      have hml : m < es.length := by omega
      have HM : Hid (m = (lo + hi) / 2) := hm2
      obtain ⟨b, off, rfl, hc⟩ := (hr.below hb).at rfl m hml
      obtain ⟨y, hy⟩ : ∃ y, y = nth es m := ⟨_, rfl⟩
      rw [← hy] at hc
      have HY : Hid (y = nth es m) := hy
      clear hy
      have hmid : ((lo : Int) + (hi : Int)) / 2 = (m : Int) := by omega
      cases hah : ahd y t with
      | true =>
        have hor := ordE_lt hah
        have HA2 : Hid (m + 1 ≤ atE es t ∧ atE es t ≤ hi) := by
          refine ⟨?_, HA.out.2⟩
          rcases Nat.lt_or_ge m (atE es t) with h | h
          · exact h
          · have := atE_hi hok t h hml
            rw [← HY.out, hah] at this; cases this
        clear hm2
        go_wp2_with fail
        refine wp_region_noPanic ?_
        refine wp_region_held_drew (S := fun w' => EntAt w' w.heap.size 0 t ∧ EntAt w' b (off + m * 4) y) (by kernel_rfl) ⟨hx0, hc⟩ (fun hH => ?_)
        refine tkA 0 24 hH ?_
        try simp only [Act.put, List.setIfInBounds_toArray, List.set_cons_zero, List.set_cons_succ]
        refine tkA 1 25 hH ?_
        try simp only [Act.put, List.setIfInBounds_toArray, List.set_cons_zero, List.set_cons_succ]
        refine tkA 2 26 hH ?_
        try simp only [Act.put, List.setIfInBounds_toArray, List.set_cons_zero, List.set_cons_succ]
        refine tkA 3 27 hH ?_
        try simp only [Act.put, List.setIfInBounds_toArray, List.set_cons_zero, List.set_cons_succ]
        refine tkA 4 28 hH ?_
        try simp only [Act.put, List.setIfInBounds_toArray, List.set_cons_zero, List.set_cons_succ]
        refine tkA 5 29 hH ?_
        try simp only [Act.put, List.setIfInBounds_toArray, List.set_cons_zero, List.set_cons_succ]
        refine wpAnyH_ready (rs := [6]) (by kernel_rfl) (by simp) ?_
        refine AllReadyH.cons rfl (fun K hK => ?_) AllReadyH.nil
        go_simp
        refine (entryOrder_any y t _).mono ?_
        rintro e w' ⟨rfl, hb'⟩
        refine hK.out _ _ ⟨hH.1.below hb', hH.2.below hb'⟩ (fun hB => ?_)
        clear hK K
        try simp only [Act.put, List.setIfInBounds_toArray, List.set_cons_zero, List.set_cons_succ]
        refine tkA 7 31 hB ?_
        try simp only [Act.put, List.setIfInBounds_toArray, List.set_cons_zero, List.set_cons_succ]
        refine wpAnyH_done (by kernel_rfl) ?_ _
        refine NoPanic.normal ?_
        have bz := hb.drew.trans (hb'.mono hb.size)
        go_wp2
        go_roundw
        case rel => exact ⟨m + 1, hi, by go_num, rfl, by have := HM.out; omega, hin, HA2, hB.1, bz⟩
        case measure => have := HM.out; simp [intOf]; omega
      | false =>
        have hor := ordE_ge hah
        have HA2 : Hid (lo ≤ atE es t ∧ atE es t ≤ m) := by
          refine ⟨HA.out.1, ?_⟩
          rcases Nat.lt_or_ge m (atE es t) with h | h
          · have := atE_lo es t h
            rw [← HY.out, hah] at this; cases this
          · exact h
        clear hm2
        go_wp2_with fail
        refine wp_region_noPanic ?_
        refine wp_region_held_drew (S := fun w' => EntAt w' w.heap.size 0 t ∧ EntAt w' b (off + m * 4) y) (by kernel_rfl) ⟨hx0, hc⟩ (fun hH => ?_)
        refine tkA 0 24 hH ?_
        try simp only [Act.put, List.setIfInBounds_toArray, List.set_cons_zero, List.set_cons_succ]
        refine tkA 1 25 hH ?_
        try simp only [Act.put, List.setIfInBounds_toArray, List.set_cons_zero, List.set_cons_succ]
        refine tkA 2 26 hH ?_
        try simp only [Act.put, List.setIfInBounds_toArray, List.set_cons_zero, List.set_cons_succ]
        refine tkA 3 27 hH ?_
        try simp only [Act.put, List.setIfInBounds_toArray, List.set_cons_zero, List.set_cons_succ]
        refine tkA 4 28 hH ?_
        try simp only [Act.put, List.setIfInBounds_toArray, List.set_cons_zero, List.set_cons_succ]
        refine tkA 5 29 hH ?_
        try simp only [Act.put, List.setIfInBounds_toArray, List.set_cons_zero, List.set_cons_succ]
        refine wpAnyH_ready (rs := [6]) (by kernel_rfl) (by simp) ?_
        refine AllReadyH.cons rfl (fun K hK => ?_) AllReadyH.nil
        go_simp
        refine (entryOrder_any y t _).mono ?_
        rintro e w' ⟨rfl, hb'⟩
        refine hK.out _ _ ⟨hH.1.below hb', hH.2.below hb'⟩ (fun hB => ?_)
        clear hK K
        try simp only [Act.put, List.setIfInBounds_toArray, List.set_cons_zero, List.set_cons_succ]
        refine tkA 7 31 hB ?_
        try simp only [Act.put, List.setIfInBounds_toArray, List.set_cons_zero, List.set_cons_succ]
        refine wpAnyH_done (by kernel_rfl) ?_ _
        refine NoPanic.normal ?_
        have bz := hb.drew.trans (hb'.mono hb.size)
        go_wp2
        go_roundw
        case rel => exact ⟨lo, m, rfl, rfl, by have := HM.out; omega, by omega, HA2, hB.1, bz⟩
        case measure => have := HM.out; simp [intOf]; omega
    · obtain rfl : hi = lo := by omega
      have HP : Hid (atE es t = hi) := by have := HA.out; unfold Hid; omega
      have HH := has_at hok t
      rw [HP.out] at HH
      by_cases hpn : hi < es.length
      · skip
        obtain ⟨b, off, rfl, hc⟩ := (hr.below hb).at rfl hi hpn
        obtain ⟨y, hy⟩ : ∃ y, y = nth es hi := ⟨_, rfl⟩
        rw [← hy] at hc HH
        have HR : Hid (hasKS es t = (ordE y t == 0)) := by
          unfold Hid
          rw [HH, decide_eq_true hpn, Bool.true_and, Bool.eq_iff_iff, beq_iff_eq]
          exact (ordE_zero y t).symm
        have hkl : decide (hi < es.length) = true := by simpa using hpn
        clear hy HH
        go_wp2_with fail
        refine wp_region_noPanic ?_
        refine wp_region_held_drew (S := fun w' => EntAt w' w.heap.size 0 t ∧ EntAt w' b (off + hi * 4) y) (by kernel_rfl) ⟨hx0, hc⟩ (fun hH => ?_)
        refine tkA 0 35 hH ?_
        try simp only [Act.put, List.setIfInBounds_toArray, List.set_cons_zero, List.set_cons_succ]
        refine tkA 1 36 hH ?_
        try simp only [Act.put, List.setIfInBounds_toArray, List.set_cons_zero, List.set_cons_succ]
        refine tkA 2 37 hH ?_
        try simp only [Act.put, List.setIfInBounds_toArray, List.set_cons_zero, List.set_cons_succ]
        refine tkA 3 38 hH ?_
        try simp only [Act.put, List.setIfInBounds_toArray, List.set_cons_zero, List.set_cons_succ]
        refine tkA 4 39 hH ?_
        try simp only [Act.put, List.setIfInBounds_toArray, List.set_cons_zero, List.set_cons_succ]
        refine tkA 5 40 hH ?_
        try simp only [Act.put, List.setIfInBounds_toArray, List.set_cons_zero, List.set_cons_succ]
        refine tkA 6 41 hH ?_
        try simp only [Act.put, List.setIfInBounds_toArray, List.set_cons_zero, List.set_cons_succ]
        refine tkA 7 42 hH ?_
        try simp only [Act.put, List.setIfInBounds_toArray, List.set_cons_zero, List.set_cons_succ]
        refine tkA 8 43 hH ?_
        try simp only [Act.put, List.setIfInBounds_toArray, List.set_cons_zero, List.set_cons_succ]
        refine tkA 9 44 hH ?_
        try simp only [Act.put, List.setIfInBounds_toArray, List.set_cons_zero, List.set_cons_succ]
        refine tkA 10 45 hH ?_
        try simp only [Act.put, List.setIfInBounds_toArray, List.set_cons_zero, List.set_cons_succ]
        refine wpAnyH_ready (rs := [11]) (by kernel_rfl) (by simp) ?_
        refine AllReadyH.cons rfl (fun K hK => ?_) AllReadyH.nil
        go_simp
        refine (entryOrder_any y t _).mono ?_
        rintro e w' ⟨rfl, hb'⟩
        refine hK.out _ _ ⟨hH.1.below hb', hH.2.below hb'⟩ (fun hB => ?_)
        clear hK K
        try simp only [Act.put, List.setIfInBounds_toArray, List.set_cons_zero, List.set_cons_succ]
        refine tkA 12 47 hB ?_
        try simp only [Act.put, List.setIfInBounds_toArray, List.set_cons_zero, List.set_cons_succ]
        refine tkA 13 48 hB ?_
        try simp only [Act.put, List.setIfInBounds_toArray, List.set_cons_zero, List.set_cons_succ]
        refine tkA 14 6 hB ?_
        try simp only [Act.put, List.setIfInBounds_toArray, List.set_cons_zero, List.set_cons_succ]
        refine tkA 15 7 hB ?_
        try simp only [Act.put, List.setIfInBounds_toArray, List.set_cons_zero, List.set_cons_succ]
        refine wpAnyH_done (by kernel_rfl) ?_ _
        refine NoPanic.normal ?_
        have bz := hb.drew.trans (hb'.mono hb.size)
        go_wp2
        go_ret2
        exact ⟨by rw [HP.out, HR.out]; rfl, bz⟩
      · skip
        have HR : Hid (hasKS es t = false) := by
          unfold Hid
          rw [HH]; simp [hpn]
        have hkl : decide (hi < es.length) = false := by simpa using hpn
        clear HH
        go_wp2_with fail
        refine wp_region_noPanic ?_
        refine wp_region_held_drew (S := fun w' => EntAt w' w.heap.size 0 t) (by kernel_rfl) hx0 (fun hH => ?_)
        refine tkA 0 35 hH ?_
        try simp only [Act.put, List.setIfInBounds_toArray, List.set_cons_zero, List.set_cons_succ]
        refine tkA 1 36 hH ?_
        try simp only [Act.put, List.setIfInBounds_toArray, List.set_cons_zero, List.set_cons_succ]
        refine tkA 2 37 hH ?_
        try simp only [Act.put, List.setIfInBounds_toArray, List.set_cons_zero, List.set_cons_succ]
        refine tkA 3 38 hH ?_
        try simp only [Act.put, List.setIfInBounds_toArray, List.set_cons_zero, List.set_cons_succ]
        refine tkA 4 39 hH ?_
        try simp only [Act.put, List.setIfInBounds_toArray, List.set_cons_zero, List.set_cons_succ]
        refine tkS 5 40 hH ?_
        try simp only [Act.put, List.setIfInBounds_toArray, List.set_cons_zero, List.set_cons_succ]
        refine tkS 6 41 hH ?_
        try simp only [Act.put, List.setIfInBounds_toArray, List.set_cons_zero, List.set_cons_succ]
        refine tkS 7 42 hH ?_
        try simp only [Act.put, List.setIfInBounds_toArray, List.set_cons_zero, List.set_cons_succ]
        refine tkS 8 43 hH ?_
        try simp only [Act.put, List.setIfInBounds_toArray, List.set_cons_zero, List.set_cons_succ]
        refine tkS 9 44 hH ?_
        try simp only [Act.put, List.setIfInBounds_toArray, List.set_cons_zero, List.set_cons_succ]
        refine tkS 10 45 hH ?_
        try simp only [Act.put, List.setIfInBounds_toArray, List.set_cons_zero, List.set_cons_succ]
        refine tkS 11 46 hH ?_
        try simp only [Act.put, List.setIfInBounds_toArray, List.set_cons_zero, List.set_cons_succ]
        refine tkS 12 47 hH ?_
        try simp only [Act.put, List.setIfInBounds_toArray, List.set_cons_zero, List.set_cons_succ]
        refine tkA 13 48 hH ?_
        try simp only [Act.put, List.setIfInBounds_toArray, List.set_cons_zero, List.set_cons_succ]
        refine tkA 14 6 hH ?_
        try simp only [Act.put, List.setIfInBounds_toArray, List.set_cons_zero, List.set_cons_succ]
        refine tkA 15 7 hH ?_
        try simp only [Act.put, List.setIfInBounds_toArray, List.set_cons_zero, List.set_cons_succ]
        refine wpAnyH_done (by kernel_rfl) ?_ _
        refine NoPanic.normal ?_
        go_wp2
        go_ret2
        exact ⟨by rw [HP.out, HR.out]; rfl, hb.drew⟩
set_option maxHeartbeats 1000000 in
set_option maxRecDepth 100000 in
theorem placeOf_any (v : Value) (es : List Ent) (key : ByteArray) (q : Int) (w : World) (hr : RdE w v es) (hok : okL es = true) :
    Calls Try.prog 45 #[v, .string key, .int .i64 q] w fun e w' =>
      e = .returned (.tuple #[.int .i64 (atE es ⟨key, ⟨#[]⟩, q, false⟩ : Nat), .bool (hasKS es ⟨key, ⟨#[]⟩, q, false⟩)]) ∧ Below w.heap.size w w' := by
  go_enter Try.func45, Try.ntmps45
  go_wp2_with fail
  refine (search_any v es ⟨key, ⟨#[]⟩, q, false⟩ _ hr hok).mono ?_
  rintro e w1 ⟨rfl, hb1⟩
  go_wp2
  go_ret2
  exact ⟨rfl, hb1⟩
end Go.Proofs.Ythaobdknpgnapaa
