/- The contract of the model's Put. -/
import Derived.Test.YthaobdknpgnapaaEntSpecPut
namespace Go.Proofs.Ythaobdknpgnapaa
open Go.RowKit
/-- What Put leaves: the entries and whether it was done. -/
def PutPost (w : World) (es : List Ent) (x : Ent) (e : Ending) (w' : World) : Prop :=
  ∃ u, e = .returned (.tuple #[u, .bool (putOk es x)]) ∧ OwnE w' w.heap.size u (putL es x) ∧ Below w.heap.size w w'
theorem putPost_no {w w' : World} {es : List Ent} {x : Ent} {u : Value} (h : putOk es x = false) (ho : OwnE w' w.heap.size u []) (hb : Below w.heap.size w w') : PutPost w es x (.returned (.tuple #[u, .bool false])) w' :=
  ⟨u, by rw [h], by unfold putL; rw [if_neg (by simp [h])]; exact ho, hb⟩
theorem putPost_yes {w w' : World} {es : List Ent} {x : Ent} {u : Value} (h : putOk es x = true) (ho : OwnE w' w.heap.size u (insE es x)) (hb : Below w.heap.size w w') : PutPost w es x (.returned (.tuple #[u, .bool true])) w' :=
  ⟨u, by rw [h], by unfold putL; rw [if_pos h]; exact ho, hb⟩
theorem hasKS_no {es : List Ent} {x : Ent} (h : ∀ j, j < es.length → sameKS (nth es j) x = false) : hasKS es x = false := by
  cases e : hasKS es x with
  | false => rfl
  | true =>
    simp only [hasKS, List.any_eq_true] at e
    obtain ⟨a, ha, hk⟩ := e
    obtain ⟨i, hi, rfl⟩ := List.getElem_of_mem ha
    rw [← nth_eq hi, h i hi] at hk; cases hk
theorem hasKS_yes {es : List Ent} {x : Ent} {j : Nat} (hj : j < es.length) (h : sameKS (nth es j) x = true) : hasKS es x = true := by
  simp only [hasKS, List.any_eq_true]
  exact ⟨_, List.getElem_mem hj, by rw [← nth_eq hj]; exact h⟩
theorem ownE_empty {W : World} {B : Nat} (h : B ≤ W.heap.size) : OwnE (W.alloc (.cells #[] 26)) B (.slice (some ⟨W.heap.size, 0, none⟩) 0 0) [] := (ownE_none W).mono h
set_option maxHeartbeats 4000000 in
set_option maxRecDepth 100000 in
theorem specPut_any (v : Value) (es : List Ent) (x : Ent) (w : World) (hr : RdE w v es) (hf : ∀ e ∈ es, Fits e) (hfx : Fits x) :
    Calls Try.prog 12 #[v, .agg #[.string x.key, .string x.val, .int .i64 x.seq, .bool x.gone]] w fun e w' => PutPost w es x e w' := by
  obtain ⟨a, cap, hv, hl, hm, _⟩ := id hr
  unfold maxLen at hm
  subst hv
  have hbx := entAt_box w x 26
  have hb0 := below1 w (.cells #[.string x.key, .string x.val, .int .i64 x.seq, .bool x.gone] 26)
  have hr0 := hr.below hb0
  cases hok : okL es with
  | false =>
    have RES : Hid (putOk es x = false) := by unfold Hid putOk; simp [hok]
    go_enter Try.func12, Try.ntmps12
    go_wp2_with fail
    refine (specOk_no _ es _ hr0 hf hok).mono ?_
    rintro e w1 ⟨rfl, hb1⟩
    have bz := hb0.trans (hb1.mono (by simp))
    go_wp2
    go_ret2
    exact putPost_no RES.out (ownE_empty bz.size) (bz.alloc bz.size _)
  | true =>
    have hlen := okL_len hok
    cases hox : okE x with
    | false =>
      have RES : Hid (putOk es x = false) := by unfold Hid putOk; simp [hox]
      go_enter Try.func12, Try.ntmps12
      go_wp2_with fail
      refine (specOk_yes _ es _ hr0 hf hok).mono ?_
      rintro e w1 ⟨rfl, hb1⟩
      obtain ⟨c0, c1, c2, c3⟩ := hbx.below hb1
      simp only [Nat.zero_add] at c1 c2 c3
      have bz := hb0.trans (hb1.mono (by simp))
      clear hb1 hbx
      go_wp2_with fail
      refine (l3Entry_no x _ hfx hox).mono ?_
      rintro e w2 ⟨rfl, hb2⟩
      have bz2 := bz.trans (hb2.mono bz.size)
      go_wp2
      go_ret2
      exact putPost_no RES.out (ownE_empty bz2.size) (bz2.alloc bz2.size _)
    | true =>
      by_cases h300 : es.length = 300
      · skip
        have RES : Hid (putOk es x = false) := by unfold Hid putOk; simp [h300]
        have hq : ((es.length : Int) == 300) = true := by simp; omega
        clear h300
        go_enter Try.func12, Try.ntmps12
        go_wp2_with fail
        refine (specOk_yes _ es _ hr0 hf hok).mono ?_
        rintro e w1 ⟨rfl, hb1⟩
        obtain ⟨c0, c1, c2, c3⟩ := hbx.below hb1
        simp only [Nat.zero_add] at c1 c2 c3
        have bz := hb0.trans (hb1.mono (by simp))
        clear hb1 hbx
        go_wp2_with fail
        refine (l3Entry_yes x _ hfx hox).mono ?_
        rintro e w2 ⟨rfl, hb2⟩
        have bz2 := bz.trans (hb2.mono bz.size)
        go_wp2
        go_ret2
        exact putPost_no RES.out (ownE_empty bz2.size) (bz2.alloc bz2.size _)
      · have hq : ((es.length : Int) == 300) = false := by simp; omega
        go_enter Try.func12, Try.ntmps12
        go_wp2_with fail
        refine (specOk_yes _ es _ hr0 hf hok).mono ?_
        rintro e w1 ⟨rfl, hb1⟩
        have hbx1 := hbx.below hb1
        obtain ⟨c0, c1, c2, c3⟩ := id hbx1
        simp only [Nat.zero_add] at c1 c2 c3
        have bz := hb0.trans (hb1.mono (by simp))
        have hs1 := hb1.size
        simp at hs1
        clear hb1 hbx
        go_wp2_with fail
        refine (l3Entry_yes x _ hfx hox).mono ?_
        rintro e w2 ⟨rfl, hb2⟩
        have bz2 := bz.trans (hb2.mono bz.size)
        have hbx2 := hbx1.below hb2
        have hs2 := hb2.size
        clear hb2 hbx1 c0 c1 c2 c3
        go_wp2
        go_loopw [6] (fun i wr => ∃ k : Nat, k ≤ es.length ∧ i = .int .i64 k ∧ Hid (∀ j, j < k → sameKS (nth es j) x = false) ∧ EntAt wr w.heap.size 0 x ∧ Below w.heap.size w wr) (fun i _ => es.length - (intOf i).toNat)
        case atStart => exact ⟨0, Nat.zero_le _, rfl, (fun j hj => absurd hj (Nat.not_lt_zero _)), hbx2, bz2⟩
        case round =>
          obtain ⟨k, hk, rfl, HO, hx0, hb⟩ := hrel
          clear hbx2 bz2 bz
          have hrw := hr.below hb
          by_cases hlt : k < es.length
          · obtain ⟨b, off, rfl, hc⟩ := hrw.at rfl k hlt
            obtain ⟨y, hy⟩ : ∃ y, y = nth es k := ⟨_, rfl⟩
            rw [← hy] at hc
            have HY : Hid (y = nth es k) := hy
            clear hy
            have KB := beq_kEq y.key x.key
            cases hke : kEq y.key x.key with
            | false =>
              rw [hke] at KB
              have HO2 : Hid (∀ j, j < k + 1 → sameKS (nth es j) x = false) := by
                intro j hj
                by_cases hjk : j = k
                · subst hjk; rw [← HY.out]; simp [sameKS, hke]
                · exact HO.out j (by omega)
              go_wp2_with fail
              refine wp_region_noPanic ?_
              refine wp_region_held_drew (S := fun w' => EntAt w' w.heap.size 0 x ∧ EntAt w' b (off + k * 4) y) (by kernel_rfl) ⟨hx0, hc⟩ (fun hH => ?_)
              refine tkA 0 27 hH ?_
              try simp only [Act.put, List.setIfInBounds_toArray, List.set_cons_zero, List.set_cons_succ]
              refine tkA 1 28 hH ?_
              try simp only [Act.put, List.setIfInBounds_toArray, List.set_cons_zero, List.set_cons_succ]
              refine tkA 2 29 hH ?_
              try simp only [Act.put, List.setIfInBounds_toArray, List.set_cons_zero, List.set_cons_succ]
              refine tkA 3 30 hH ?_
              try simp only [Act.put, List.setIfInBounds_toArray, List.set_cons_zero, List.set_cons_succ]
              refine tkA 4 31 hH ?_
              try simp only [Act.put, List.setIfInBounds_toArray, List.set_cons_zero, List.set_cons_succ]
              refine tkA 5 32 hH ?_
              try simp only [Act.put, List.setIfInBounds_toArray, List.set_cons_zero, List.set_cons_succ]
              refine tkA 6 33 hH ?_
              try simp only [Act.put, List.setIfInBounds_toArray, List.set_cons_zero, List.set_cons_succ]
              refine tkA 7 34 hH ?_
              try simp only [Act.put, List.setIfInBounds_toArray, List.set_cons_zero, List.set_cons_succ]
              refine tkA 8 35 hH ?_
              try simp only [Act.put, List.setIfInBounds_toArray, List.set_cons_zero, List.set_cons_succ]
              refine tkS 9 36 hH ?_
              try simp only [Act.put, List.setIfInBounds_toArray, List.set_cons_zero, List.set_cons_succ]
              refine tkS 10 37 hH ?_
              try simp only [Act.put, List.setIfInBounds_toArray, List.set_cons_zero, List.set_cons_succ]
              refine tkS 11 38 hH ?_
              try simp only [Act.put, List.setIfInBounds_toArray, List.set_cons_zero, List.set_cons_succ]
              refine tkS 12 39 hH ?_
              try simp only [Act.put, List.setIfInBounds_toArray, List.set_cons_zero, List.set_cons_succ]
              refine tkS 13 40 hH ?_
              try simp only [Act.put, List.setIfInBounds_toArray, List.set_cons_zero, List.set_cons_succ]
              refine tkS 14 41 hH ?_
              try simp only [Act.put, List.setIfInBounds_toArray, List.set_cons_zero, List.set_cons_succ]
              refine tkS 15 42 hH ?_
              try simp only [Act.put, List.setIfInBounds_toArray, List.set_cons_zero, List.set_cons_succ]
              refine tkS 16 43 hH ?_
              try simp only [Act.put, List.setIfInBounds_toArray, List.set_cons_zero, List.set_cons_succ]
              refine tkA 17 44 hH ?_
              try simp only [Act.put, List.setIfInBounds_toArray, List.set_cons_zero, List.set_cons_succ]
              refine wpAnyH_done (by kernel_rfl) ?_ _
              refine NoPanic.normal ?_
              go_wp2
              go_roundw
              case rel => exact ⟨k + 1, by omega, by go_num, HO2, hx0, hb.drew⟩
              case measure => simp [intOf]; omega
            | true =>
              rw [hke] at KB
              by_cases hse : y.seq = x.seq
              · skip
                have hsb : (y.seq == x.seq) = true := by simpa using hse
                have RES : Hid (putOk es x = false) := by
                  have := hasKS_yes hlt (x := x) (by rw [← HY.out]; simp [sameKS, hke, hse])
                  unfold Hid putOk; simp [this]
                clear hse
                go_wp2_with fail
                refine wp_region_noPanic ?_
                refine wp_region_held_drew (S := fun w' => EntAt w' w.heap.size 0 x ∧ EntAt w' b (off + k * 4) y) (by kernel_rfl) ⟨hx0, hc⟩ (fun hH => ?_)
                refine tkA 0 27 hH ?_
                try simp only [Act.put, List.setIfInBounds_toArray, List.set_cons_zero, List.set_cons_succ]
                refine tkA 1 28 hH ?_
                try simp only [Act.put, List.setIfInBounds_toArray, List.set_cons_zero, List.set_cons_succ]
                refine tkA 2 29 hH ?_
                try simp only [Act.put, List.setIfInBounds_toArray, List.set_cons_zero, List.set_cons_succ]
                refine tkA 3 30 hH ?_
                try simp only [Act.put, List.setIfInBounds_toArray, List.set_cons_zero, List.set_cons_succ]
                refine tkA 4 31 hH ?_
                try simp only [Act.put, List.setIfInBounds_toArray, List.set_cons_zero, List.set_cons_succ]
                refine tkA 5 32 hH ?_
                try simp only [Act.put, List.setIfInBounds_toArray, List.set_cons_zero, List.set_cons_succ]
                refine tkA 6 33 hH ?_
                try simp only [Act.put, List.setIfInBounds_toArray, List.set_cons_zero, List.set_cons_succ]
                refine tkA 7 34 hH ?_
                try simp only [Act.put, List.setIfInBounds_toArray, List.set_cons_zero, List.set_cons_succ]
                refine tkA 8 35 hH ?_
                try simp only [Act.put, List.setIfInBounds_toArray, List.set_cons_zero, List.set_cons_succ]
                refine tkA 9 36 hH ?_
                try simp only [Act.put, List.setIfInBounds_toArray, List.set_cons_zero, List.set_cons_succ]
                refine tkA 10 37 hH ?_
                try simp only [Act.put, List.setIfInBounds_toArray, List.set_cons_zero, List.set_cons_succ]
                refine tkA 11 38 hH ?_
                try simp only [Act.put, List.setIfInBounds_toArray, List.set_cons_zero, List.set_cons_succ]
                refine tkA 12 39 hH ?_
                try simp only [Act.put, List.setIfInBounds_toArray, List.set_cons_zero, List.set_cons_succ]
                refine tkA 13 40 hH ?_
                try simp only [Act.put, List.setIfInBounds_toArray, List.set_cons_zero, List.set_cons_succ]
                refine tkA 14 41 hH ?_
                try simp only [Act.put, List.setIfInBounds_toArray, List.set_cons_zero, List.set_cons_succ]
                refine tkA 15 42 hH ?_
                try simp only [Act.put, List.setIfInBounds_toArray, List.set_cons_zero, List.set_cons_succ]
                refine tkA 16 43 hH ?_
                try simp only [Act.put, List.setIfInBounds_toArray, List.set_cons_zero, List.set_cons_succ]
                refine tkA 17 44 hH ?_
                try simp only [Act.put, List.setIfInBounds_toArray, List.set_cons_zero, List.set_cons_succ]
                refine wpAnyH_done (by kernel_rfl) ?_ _
                refine NoPanic.normal ?_
                go_wp2
                go_ret2
                exact putPost_no RES.out (ownE_empty hb.size) (hb.drew.alloc hb.size _)
              · skip
                have hsb : (y.seq == x.seq) = false := by simpa using hse
                have HO2 : Hid (∀ j, j < k + 1 → sameKS (nth es j) x = false) := by
                  intro j hj
                  by_cases hjk : j = k
                  · subst hjk; rw [← HY.out]; simp [sameKS, hse]
                  · exact HO.out j (by omega)
                clear hse
                go_wp2_with fail
                refine wp_region_noPanic ?_
                refine wp_region_held_drew (S := fun w' => EntAt w' w.heap.size 0 x ∧ EntAt w' b (off + k * 4) y) (by kernel_rfl) ⟨hx0, hc⟩ (fun hH => ?_)
                refine tkA 0 27 hH ?_
                try simp only [Act.put, List.setIfInBounds_toArray, List.set_cons_zero, List.set_cons_succ]
                refine tkA 1 28 hH ?_
                try simp only [Act.put, List.setIfInBounds_toArray, List.set_cons_zero, List.set_cons_succ]
                refine tkA 2 29 hH ?_
                try simp only [Act.put, List.setIfInBounds_toArray, List.set_cons_zero, List.set_cons_succ]
                refine tkA 3 30 hH ?_
                try simp only [Act.put, List.setIfInBounds_toArray, List.set_cons_zero, List.set_cons_succ]
                refine tkA 4 31 hH ?_
                try simp only [Act.put, List.setIfInBounds_toArray, List.set_cons_zero, List.set_cons_succ]
                refine tkA 5 32 hH ?_
                try simp only [Act.put, List.setIfInBounds_toArray, List.set_cons_zero, List.set_cons_succ]
                refine tkA 6 33 hH ?_
                try simp only [Act.put, List.setIfInBounds_toArray, List.set_cons_zero, List.set_cons_succ]
                refine tkA 7 34 hH ?_
                try simp only [Act.put, List.setIfInBounds_toArray, List.set_cons_zero, List.set_cons_succ]
                refine tkA 8 35 hH ?_
                try simp only [Act.put, List.setIfInBounds_toArray, List.set_cons_zero, List.set_cons_succ]
                refine tkA 9 36 hH ?_
                try simp only [Act.put, List.setIfInBounds_toArray, List.set_cons_zero, List.set_cons_succ]
                refine tkA 10 37 hH ?_
                try simp only [Act.put, List.setIfInBounds_toArray, List.set_cons_zero, List.set_cons_succ]
                refine tkA 11 38 hH ?_
                try simp only [Act.put, List.setIfInBounds_toArray, List.set_cons_zero, List.set_cons_succ]
                refine tkA 12 39 hH ?_
                try simp only [Act.put, List.setIfInBounds_toArray, List.set_cons_zero, List.set_cons_succ]
                refine tkA 13 40 hH ?_
                try simp only [Act.put, List.setIfInBounds_toArray, List.set_cons_zero, List.set_cons_succ]
                refine tkA 14 41 hH ?_
                try simp only [Act.put, List.setIfInBounds_toArray, List.set_cons_zero, List.set_cons_succ]
                refine tkA 15 42 hH ?_
                try simp only [Act.put, List.setIfInBounds_toArray, List.set_cons_zero, List.set_cons_succ]
                refine tkA 16 43 hH ?_
                try simp only [Act.put, List.setIfInBounds_toArray, List.set_cons_zero, List.set_cons_succ]
                refine tkA 17 44 hH ?_
                try simp only [Act.put, List.setIfInBounds_toArray, List.set_cons_zero, List.set_cons_succ]
                refine wpAnyH_done (by kernel_rfl) ?_ _
                refine NoPanic.normal ?_
                go_wp2
                go_roundw
                case rel => exact ⟨k + 1, by omega, by go_num, HO2, hx0, hb.drew⟩
                case measure => simp [intOf]; omega
          · skip
            have hke : k = es.length := by omega
            have RES : Hid (putOk es x = true) := by
              have := hasKS_no (x := x) (fun j hj => HO.out j (by omega))
              unfold Hid putOk; simp [this, hok, hox, h300]
            obtain ⟨c0, c1, c2, c3⟩ := hx0
            simp only [Nat.zero_add] at c1 c2 c3
            clear h300
            go_wp2_with fail
            refine (l3Put_any _ es x _ hrw (by omega)).mono ?_
            rintro e w3 ⟨u, rfl, ho3, hb3⟩
            go_wp2
            go_ret2
            exact putPost_yes RES.out (ho3.mono hb.size) (hb.trans (hb3.mono hb.size))
end Go.Proofs.Ythaobdknpgnapaa
