/- The contract of the model's Offered. -/
-- UNF Gen
import Derived.Test.YteohiicaiilicaaOffRes
import Derived.Test.YteohiicaiilicaaOffHeap
import Derived.Test.YteohiicaiilicaaOffCp
namespace Go.Proofs.Yteohiicaiilicaa
open Go.RowKit
theorem rdO_slice {w : World} {v : Value} {es : List Off} (h : RdO w v es) : ∃ a n c, v = .slice a n c := by
  obtain ⟨a, c, hv, -⟩ := h
  exact ⟨a, _, c, hv⟩
theorem rdO_one {w : World} {b : Nat} {o : Off} (h : OffAt w b 0 o) : RdO w (.slice (some ⟨b, 0, none⟩) 1 1) [o] :=
  ⟨_, 1, rfl, Nat.le_refl _, by unfold maxLen; omega, (fun h => by cases h), .inr ⟨b, 0, rfl, fun i hi => by
    have : i = 0 := by simp at hi; omega
    subst this
    exact h⟩⟩
theorem listed_asO {P : Program} {md : Region.Mode} {ops : Array Oper} {Q : Exit → Act → World → Prop} {S : World → Prop} {fuel : Nat} {l l' : Array Bool} {a : Act} {w : World} (hl : l = l') (h : wpAnyH P md ops Q S fuel l' a w) : wpAnyH P md ops Q S fuel l a w := by subst hl; exact h
set_option maxHeartbeats 8000000 in
set_option maxRecDepth 100000 in
theorem specOffered_any (v : Value) (es : List Off) (o : Off) (w : World) (hr : RdO w v es) (hf : ∀ e ∈ es, e.text.size ≤ maxLen) (hfo : o.text.size ≤ maxLen) :
    Calls Try.prog 15 #[v, .agg #[.int .i64 o.fee, .string o.text]] w fun e w' => OffRes es o w e w' := by
  obtain ⟨a, cap, hv, hl, hm, _⟩ := id hr
  unfold maxLen at hm
  subst hv
  have b1 := below1 w (.cells #[.int .i64 o.fee, .string o.text] 26)
  have hat := offAt_new w o 26
  have HC : Hid (∀ P, poolOk es = P → ∀ W, RdO W (.slice a es.length cap) es → Calls Try.prog 18 #[.slice a es.length cap] W fun e w' => e = .returned (.bool P) ∧ Below W.heap.size W w') := fun P hP W h => by subst hP; exact specPoolOk_any _ es W h hf
  have HO : Hid (∀ P, okO o = P → ∀ W, Calls Try.prog 44 #[.agg #[.int .i64 o.fee, .string o.text]] W fun e w' => e = .returned (.bool P) ∧ Below W.heap.size W w') := fun P hP W => by subst hP; exact l14Offer_any o W hfo
  have hr1 := hr.below b1
  clear hf hfo
  cases hp : poolOk es with
  | false =>
    have RES : Hid (offO es o = false) := by unfold Hid offO; rw [hp]; rfl
    go_enter Try.func15, Try.ntmps15
    go_wp2_with fail
    refine (HC.out false hp _ hr1).mono ?_
    rintro e w2 ⟨rfl, hb2⟩
    have b2 := b1.trans (hb2.mono b1.size)
    clear hb2 b1 hr1 hat
    go_wp2
    go_ret2
    exact offRes_no RES.out b2
  | true =>
    have hl50 := (poolOk_iff.1 hp).1
    cases hok : okO o with
    | false =>
      have RES : Hid (offO es o = false) := by unfold Hid offO; rw [hp, hok]; rfl
      go_enter Try.func15, Try.ntmps15
      go_wp2_with fail
      refine (HC.out true hp _ hr1).mono ?_
      rintro e w2 ⟨rfl, hb2⟩
      obtain ⟨c0, c1⟩ := hat.below hb2
      have b2 := b1.trans (hb2.mono b1.size)
      clear hb2 b1 hr1 hat
      go_wp2_with fail
      refine (HO.out false hok _).mono ?_
      rintro e w3 ⟨rfl, hb3⟩
      have b3 := b2.trans (hb3.mono b2.size)
      clear hb3 b2 c0 c1
      go_wp2
      go_ret2
      exact offRes_no RES.out b3
    | true =>
      by_cases h50 : es.length = 50
      · have RES : Hid (offO es o = false) := by unfold Hid offO; rw [hp, hok]; simp [h50]
        have heq : ((es.length : Int) == 50) = true := by simp; omega
        have heq2 : decide ((es.length : Int) = 50) = true := by simp; omega
        clear h50
        go_enter Try.func15, Try.ntmps15
        go_wp2_with fail
        refine (HC.out true hp _ hr1).mono ?_
        rintro e w2 ⟨rfl, hb2⟩
        obtain ⟨c0, c1⟩ := hat.below hb2
        have b2 := b1.trans (hb2.mono b1.size)
        clear hb2 b1 hr1 hat
        go_wp2_with fail
        refine (HO.out true hok _).mono ?_
        rintro e w3 ⟨rfl, hb3⟩
        have b3 := b2.trans (hb3.mono b2.size)
        clear hb3 b2 c0 c1
        go_wp2
        go_ret2
        exact offRes_no RES.out b3
      · have RES : Hid (offO es o = true) := by unfold Hid offO; rw [hp, hok]; simp [h50]
        have heq : ((es.length : Int) == 50) = false := by simp; omega
        have heq2 : decide ((es.length : Int) = 50) = false := by simp; omega
        have hl49 : es.length < 50 := by omega
        clear h50
        go_enter Try.func15, Try.ntmps15
        go_wp2_with fail
        refine (HC.out true hp _ hr1).mono ?_
        rintro e w2 ⟨rfl, hb2⟩
        obtain ⟨c0, c1⟩ := hat.below hb2
        have b2 := b1.trans (hb2.mono b1.size)
        clear hb2 b1 hr1 hat
        go_wp2_with fail
        refine (HO.out true hok _).mono ?_
        rintro e w3 ⟨rfl, hb3⟩
        have b3 := b2.trans (hb3.mono b2.size)
        have hat3 := OffAt.below (w := w2) ⟨c0, c1⟩ hb3
        clear hb3 b2 c0 c1
        have hb := b3
        have hat := hat3
        clear b3 hat3
        obtain ⟨N, hN⟩ : ∃ N, N = w.heap.size := ⟨_, rfl⟩
        have HN : Hid (N = w.heap.size) := hN
        rw [← hN] at hat ⊢
        clear hN
        go_wp2_with fail
        refine wp_region_noPanic ?_
        refine wp_region_held_drew (S := fun _ => True) (by kernel_rfl) trivial (fun hS => ?_)
        replace hb := hb.drew
        replace hat := OffAt.below (w := w3) hat ((Below.refl _ _).drew)
        refine tkG 1 24 hS ?_
        try simp only [Act.put, List.setIfInBounds_toArray, List.set_cons_zero, List.set_cons_succ]
        revert hS
        revert hb
        revert hat
        generalize w3.drew = V
        intro hat hb hS
        refine wpAnyH_ready (rs := [0, 3]) (by kernel_rfl) (by simp) ?_
        refine AllReadyH.cons rfl (fun K hK => ?_) ?_
        go_simp
        have hNV := hat.lt
        have ho : OwnO (V.alloc (.cells #[] 26)) (N + 1) (.slice (some ⟨V.heap.size, 0, none⟩) 0 0) [] := (ownO_none V).mono hNV
        clear hNV
        replace hb := hb.alloc hb.size (.cells #[] 26)
        replace hat := hat.below (below1 V (.cells #[] 26))
        clear hS
        refine hK.out _ _ trivial (fun hS => ?_)
        clear hK K
        try simp only [List.setIfInBounds_toArray, List.set_cons_zero, List.set_cons_succ]
        revert hS
        revert ho
        revert hat
        revert hb
        generalize V.alloc (.cells #[] 26) = V1
        generalize V.heap.size = q
        intro hb hat ho hS
        clear hS
        refine listed_asO (l' := #[true, true, false, false, false, false, false]) (by kernel_rfl) ?_
        revert ho
        revert hat
        revert hb
        revert q
        revert V1
        clear V
        refine ?of0
        rotate_left 1
        refine AllReadyH.cons rfl (fun K hK => ?_) AllReadyH.nil
        have c0 := hat.1
        have c1 : V.cell? ⟨N, 1, none⟩ = some (.string o.text) := hat.2
        go_simp
        clear c0 c1 hS
        refine hK.out _ _ trivial (fun hS => ?_)
        clear hK K
        try simp only [List.setIfInBounds_toArray, List.set_cons_zero, List.set_cons_succ]
        clear hS
        refine listed_asO (l' := #[false, true, false, true, false, false, false]) (by kernel_rfl) ?_
        revert hat
        revert hb
        revert V
        refine ?of3
        rotate_left 1
        intro V0 q hb hat ho
        have hS : (fun _ : World => True) V0 := trivial
        refine wpAnyH_ready (rs := [2, 3]) (by kernel_rfl) (by simp) ?_
        refine AllReadyH.cons rfl (fun K hK => ?_) ?_
        refine step_append_offs rfl 25 rfl (.tmp 23) (.tmp 24) rfl (N + 1) _ _ [] es rfl rfl ho (hr.below hb) (by simp; omega) hat.lt ?_
        intro u V1 hu hg
        rw [List.nil_append] at hu
        have hqN := (World.ownsRow.lt ho q rfl).1
        replace hat := hat.of_block (hg.block N hat.lt (fun e => by have : N = q := Option.some.inj e; omega))
        replace hb := hb.grown hg hb.size (fun k hk => by have : q = k := Option.some.inj hk; have := HN.out; omega)
        obtain ⟨ua, un, uc, rfl⟩ := rdO_slice hu.rd
        clear hg ho hqN hS 
        refine hK.out _ _ trivial (fun hS => ?_)
        clear hK K
        try simp only [List.setIfInBounds_toArray, List.set_cons_zero, List.set_cons_succ]
        clear hS
        refine listed_asO (l' := #[true, true, true, false, false, false, false]) (by kernel_rfl) ?_
        revert hu
        revert hat
        revert hb
        revert uc
        revert un
        revert ua
        revert q
        revert V1
        clear V0
        refine ?of02
        rotate_left 1
        refine AllReadyH.cons rfl (fun K hK => ?_) AllReadyH.nil
        have c0 := hat.1
        have c1 : V0.cell? ⟨N, 1, none⟩ = some (.string o.text) := hat.2
        go_simp
        clear c0 c1 hS
        refine hK.out _ _ trivial (fun hS => ?_)
        clear hK K
        try simp only [List.setIfInBounds_toArray, List.set_cons_zero, List.set_cons_succ]
        clear hS
        refine listed_asO (l' := #[true, true, false, true, false, false, false]) (by kernel_rfl) ?_
        revert ho
        revert hat
        revert hb
        revert q
        revert V0
        refine ?of03
        rotate_left 1
        intro V0 hb hat
        have hS : (fun _ : World => True) V0 := trivial
        refine wpAnyH_ready (rs := [0, 4]) (by kernel_rfl) (by simp) ?_
        refine AllReadyH.cons rfl (fun K hK => ?_) ?_
        go_simp
        have hNV := hat.lt
        have ho : OwnO (V0.alloc (.cells #[] 26)) (N + 1) (.slice (some ⟨V0.heap.size, 0, none⟩) 0 0) [] := (ownO_none V0).mono hNV
        clear hNV
        replace hb := hb.alloc hb.size (.cells #[] 26)
        replace hat := hat.below (below1 V0 (.cells #[] 26))
        clear hS
        refine hK.out _ _ trivial (fun hS => ?_)
        clear hK K
        try simp only [List.setIfInBounds_toArray, List.set_cons_zero]
        revert hS
        revert ho
        revert hat
        revert hb
        generalize V0.alloc (.cells #[] 26) = V1
        generalize V0.heap.size = q
        intro hb hat ho hS
        clear hS
        refine listed_asO (l' := #[true, true, false, true, false, false, false]) (by kernel_rfl) ?_
        revert ho
        revert hat
        revert hb
        revert q
        revert V1
        clear V0
        exact ?of03
        refine AllReadyH.cons rfl (fun K hK => ?_) AllReadyH.nil
        go_simp
        have hrow := offAt_new V0 o 26
        replace hb := hb.alloc hb.size (.cells #[.int .i64 o.fee, .string o.text] 26)
        replace hat := hat.below (below1 V0 (.cells #[.int .i64 o.fee, .string o.text] 26))
        clear hS
        refine hK.out _ _ trivial (fun hS => ?_)
        clear hK K
        try simp only [List.setIfInBounds_toArray, List.set_cons_zero, List.set_cons_succ]
        revert hS
        revert hrow
        revert hat
        revert hb
        generalize V0.alloc (.cells #[.int .i64 o.fee, .string o.text] 26) = V1
        generalize V0.heap.size = rb
        intro hb hat hrow hS
        clear hS
        refine listed_asO (l' := #[false, true, false, true, true, false, false]) (by kernel_rfl) ?_
        revert hrow
        revert hat
        revert hb
        revert rb
        revert V1
        clear V0
        refine ?of34
        rotate_left 1
        intro V0 q ua un uc hb hat hu
        have hS : (fun _ : World => True) V0 := trivial
        refine wpAnyH_ready (rs := [3]) (by kernel_rfl) (by simp) ?_
        refine AllReadyH.cons rfl (fun K hK => ?_) AllReadyH.nil
        have c0 := hat.1
        have c1 : V0.cell? ⟨N, 1, none⟩ = some (.string o.text) := hat.2
        go_simp
        clear c0 c1 hS
        refine hK.out _ _ trivial (fun hS => ?_)
        clear hK K
        try simp only [List.setIfInBounds_toArray, List.set_cons_zero, List.set_cons_succ]
        clear hS
        refine listed_asO (l' := #[true, true, true, true, false, false, false]) (by kernel_rfl) ?_
        revert hu
        revert hat
        revert hb
        revert uc
        revert un
        revert ua
        revert q
        revert V0
        refine ?of023
        rotate_left 1
        intro V0 q hb hat ho
        have hS : (fun _ : World => True) V0 := trivial
        refine wpAnyH_ready (rs := [2, 4]) (by kernel_rfl) (by simp) ?_
        refine AllReadyH.cons rfl (fun K hK => ?_) ?_
        refine step_append_offs rfl 25 rfl (.tmp 23) (.tmp 24) rfl (N + 1) _ _ [] es rfl rfl ho (hr.below hb) (by simp; omega) hat.lt ?_
        intro u V1 hu hg
        rw [List.nil_append] at hu
        have hqN := (World.ownsRow.lt ho q rfl).1
        replace hat := hat.of_block (hg.block N hat.lt (fun e => by have : N = q := Option.some.inj e; omega))
        replace hb := hb.grown hg hb.size (fun k hk => by have : q = k := Option.some.inj hk; have := HN.out; omega)
        obtain ⟨ua, un, uc, rfl⟩ := rdO_slice hu.rd
        clear hg ho hqN hS 
        refine hK.out _ _ trivial (fun hS => ?_)
        clear hK K
        try simp only [List.setIfInBounds_toArray, List.set_cons_zero, List.set_cons_succ]
        clear hS
        refine listed_asO (l' := #[true, true, true, true, false, false, false]) (by kernel_rfl) ?_
        revert hu
        revert hat
        revert hb
        revert uc
        revert un
        revert ua
        revert q
        revert V1
        clear V0
        exact ?of023
        refine AllReadyH.cons rfl (fun K hK => ?_) AllReadyH.nil
        go_simp
        have hrow := offAt_new V0 o 26
        have hne : V0.heap.size ≠ q := by have := (World.ownsRow.lt ho q rfl).2; omega
        replace ho := ho.below (below1 V0 (.cells #[.int .i64 o.fee, .string o.text] 26))
        replace hb := hb.alloc hb.size (.cells #[.int .i64 o.fee, .string o.text] 26)
        replace hat := hat.below (below1 V0 (.cells #[.int .i64 o.fee, .string o.text] 26))
        clear hS
        refine hK.out _ _ trivial (fun hS => ?_)
        clear hK K
        try simp only [List.setIfInBounds_toArray, List.set_cons_zero, List.set_cons_succ]
        revert hS
        revert ho
        revert hne
        revert hrow
        revert hat
        revert hb
        generalize V0.alloc (.cells #[.int .i64 o.fee, .string o.text] 26) = V1
        generalize V0.heap.size = rb
        intro hb hat hrow hne ho hS
        clear hS
        refine listed_asO (l' := #[true, true, false, true, true, false, false]) (by kernel_rfl) ?_
        revert hne
        revert hrow
        revert ho
        revert hat
        revert hb
        revert rb
        revert q
        revert V1
        clear V0
        refine ?of034
        rotate_left 1
        intro V0 rb hb hat hrow
        have hS : (fun _ : World => True) V0 := trivial
        refine wpAnyH_ready (rs := [0]) (by kernel_rfl) (by simp) ?_
        refine AllReadyH.cons rfl (fun K hK => ?_) AllReadyH.nil
        go_simp
        have hNV := hat.lt
        have ho : OwnO (V0.alloc (.cells #[] 26)) (N + 1) (.slice (some ⟨V0.heap.size, 0, none⟩) 0 0) [] := (ownO_none V0).mono hNV
        clear hNV
        replace hb := hb.alloc hb.size (.cells #[] 26)
        replace hat := hat.below (below1 V0 (.cells #[] 26))
        have hne : rb ≠ V0.heap.size := by have := hrow.lt; omega
        replace hrow := hrow.below (below1 V0 (.cells #[] 26))
        clear hS
        refine hK.out _ _ trivial (fun hS => ?_)
        clear hK K
        try simp only [List.setIfInBounds_toArray, List.set_cons_zero]
        revert hS
        revert ho
        revert hne
        revert hrow
        revert hat
        revert hb
        generalize V0.alloc (.cells #[] 26) = V1
        generalize V0.heap.size = q
        intro hb hat hrow hne ho hS
        clear hS
        refine listed_asO (l' := #[true, true, false, true, true, false, false]) (by kernel_rfl) ?_
        revert hne
        revert hrow
        revert ho
        revert hat
        revert hb
        revert rb
        revert q
        revert V1
        clear V0
        exact ?of034
        intro V0 q ua un uc hb hat hu
        have hS : (fun _ : World => True) V0 := trivial
        refine wpAnyH_ready (rs := [4]) (by kernel_rfl) (by simp) ?_
        refine AllReadyH.cons rfl (fun K hK => ?_) AllReadyH.nil
        go_simp
        have hrow := offAt_new V0 o 26
        replace hu := hu.below (below1 V0 (.cells #[.int .i64 o.fee, .string o.text] 26))
        replace hb := hb.alloc hb.size (.cells #[.int .i64 o.fee, .string o.text] 26)
        replace hat := hat.below (below1 V0 (.cells #[.int .i64 o.fee, .string o.text] 26))
        clear hS
        refine hK.out _ _ trivial (fun hS => ?_)
        clear hK K
        try simp only [List.setIfInBounds_toArray, List.set_cons_zero, List.set_cons_succ]
        revert hS
        revert hu
        revert hrow
        revert hat
        revert hb
        generalize V0.alloc (.cells #[.int .i64 o.fee, .string o.text] 26) = V1
        generalize V0.heap.size = rb
        intro hb hat hrow hu hS
        clear hS
        refine listed_asO (l' := #[true, true, true, true, true, false, false]) (by kernel_rfl) ?_
        revert hrow
        revert hu
        revert hat
        revert hb
        revert rb
        revert uc
        revert un
        revert ua
        revert q
        revert V1
        clear V0
        refine ?of0234
        rotate_left 1
        intro V0 q rb hb hat ho hrow hne
        have hS : (fun _ : World => True) V0 := trivial
        refine wpAnyH_ready (rs := [2]) (by kernel_rfl) (by simp) ?_
        refine AllReadyH.cons rfl (fun K hK => ?_) AllReadyH.nil
        refine step_append_offs rfl 25 rfl (.tmp 23) (.tmp 24) rfl (N + 1) _ _ [] es rfl rfl ho (hr.below hb) (by simp; omega) hat.lt ?_
        intro u V1 hu hg
        rw [List.nil_append] at hu
        have hqN := (World.ownsRow.lt ho q rfl).1
        replace hrow := hrow.of_block (hg.block rb hrow.lt (fun e => hne (Option.some.inj e)))
        replace hat := hat.of_block (hg.block N hat.lt (fun e => by have : N = q := Option.some.inj e; omega))
        replace hb := hb.grown hg hb.size (fun k hk => by have : q = k := Option.some.inj hk; have := HN.out; omega)
        obtain ⟨ua, un, uc, rfl⟩ := rdO_slice hu.rd
        clear hg ho hqN hS hne
        refine hK.out _ _ trivial (fun hS => ?_)
        clear hK K
        try simp only [List.setIfInBounds_toArray, List.set_cons_zero, List.set_cons_succ]
        clear hS
        refine listed_asO (l' := #[true, true, true, true, true, false, false]) (by kernel_rfl) ?_
        revert hrow
        revert hu
        revert hat
        revert hb
        revert rb
        revert uc
        revert un
        revert ua
        revert q
        revert V1
        clear V0
        exact ?of0234
        intro V0 q ua un uc rb hb hat hu hrow
        have hS : (fun _ : World => True) V0 := trivial
        refine wpAnyH_ready (rs := [5]) (by kernel_rfl) (by simp) ?_
        refine AllReadyH.cons rfl (fun K hK => ?_) AllReadyH.nil
        refine step_append_offs rfl 28 rfl (.tmp 25) (.tmp 27) rfl (N + 1) _ _ es [o] rfl rfl hu (rdO_one hrow) (by simp; omega) hat.lt ?_
        intro u V1 hz hg
        replace hat := hat.of_block (hg.block N hat.lt (fun e => by have := (World.ownsRow.lt hu N e.symm).1; omega))
        replace hb := hb.grown hg hb.size (fun k hk => by have := (World.ownsRow.lt hu k hk).1; have := HN.out; omega)
        obtain ⟨za, zn, zc, rfl⟩ := rdO_slice hz.rd
        clear hg hu hrow hS
        refine hK.out _ _ trivial (fun hS => ?_)
        clear hK K
        try simp only [List.setIfInBounds_toArray, List.set_cons_zero, List.set_cons_succ]
        refine tkG 6 6 hS ?_
        try simp only [Act.put, List.setIfInBounds_toArray, List.set_cons_zero, List.set_cons_succ]
        clear hS
        refine listed_asO (l' := #[true, true, true, true, true, true, true]) (by kernel_rfl) ?_
        revert hz
        revert hat
        revert hb
        revert zc
        revert zn
        revert za
        revert rb
        revert uc
        revert un
        revert ua
        revert q
        revert V1
        clear V0
        refine ?of02345
        rotate_left 1
        intro V0 q ua un uc rb za zn zc hb hat hz
        have hS : (fun _ : World => True) V0 := trivial
        refine wpAnyH_done (by kernel_rfl) ?_ _
        refine NoPanic.normal ?_
        clear hS
        obtain ⟨hzn, hzl, hzm, hzg⟩ := ownO_shape hz
        rw [List.length_append, List.length_singleton] at hzn
        obtain ⟨g, rfl⟩ := hzg (by omega)
        have hgN : N + 1 ≤ g := (World.ownsRow.lt hz g rfl).1
        subst hzn
        unfold maxLen at hzm
        go_wp2
        go_loopw [7] (fun jv wr => ∃ (i : Nat) (es1 : List Off), jv = .int .i64 i ∧ i < es.length + 1 ∧ es1.length = es.length + 1 ∧ OwnO wr (N + 1) (.slice (some ⟨g, 0, none⟩) (es.length + 1) zc) es1 ∧ Hid (nthO es1 i = o) ∧ Hid (upL es1 i = offL es o) ∧ OffAt wr N 0 o ∧ Below w.heap.size w wr) (fun jv _ => (intOf jv).toNat)
        case atStart => exact ⟨es.length, es ++ [o], rfl, by omega, by simp, hz, nthO_append_last es o, rfl, hat, hb⟩
        case round =>
          obtain ⟨i, es1, rfl, hi, hel, ho1, HNI, HU, hat1, hb1⟩ := hrel
          clear hz hat hb
          have hos := ho1
          unfold OwnO at hos
          rw [hel] at hos
          obtain ⟨b0, b1⟩ := id hat1
          by_cases hi0 : i = 0
          · have HE : Hid (OffRes es o w (.returned (.tuple #[.slice (some ⟨g, 0, none⟩) (es.length + 1) zc, .bool true])) wr.drew) := offRes_yes RES.out (by have h := HU.out; rw [hi0, upL_zero] at h; rw [← h]; exact ho1) (by have := HN.out; omega) hb1.drew
            have hkn : decide (0 < i) = false := by simpa using hi0
            clear hi0 ho1 hos hat1 hb1
            go_wp2_with fail
            refine wp_region_noPanic ?_
            refine wp_region_held_drew (S := fun _ => True) (by kernel_rfl) trivial (fun hH => ?_)
            refine tkG 0 31 hH ?_
            try simp only [Act.put, List.setIfInBounds_toArray, List.set_cons_zero, List.set_cons_succ]
            refine tkG 1 32 hH ?_
            try simp only [Act.put, List.setIfInBounds_toArray, List.set_cons_zero, List.set_cons_succ]
            refine tkG 2 33 hH ?_
            try simp only [Act.put, List.setIfInBounds_toArray, List.set_cons_zero, List.set_cons_succ]
            refine tkS 3 34 hH ?_
            try simp only [Act.put, List.setIfInBounds_toArray, List.set_cons_zero, List.set_cons_succ]
            refine tkS 4 35 hH ?_
            try simp only [Act.put, List.setIfInBounds_toArray, List.set_cons_zero, List.set_cons_succ]
            refine tkS 5 36 hH ?_
            try simp only [Act.put, List.setIfInBounds_toArray, List.set_cons_zero, List.set_cons_succ]
            refine tkS 6 37 hH ?_
            try simp only [Act.put, List.setIfInBounds_toArray, List.set_cons_zero, List.set_cons_succ]
            refine tkS 7 38 hH ?_
            try simp only [Act.put, List.setIfInBounds_toArray, List.set_cons_zero, List.set_cons_succ]
            refine tkS 8 39 hH ?_
            try simp only [Act.put, List.setIfInBounds_toArray, List.set_cons_zero, List.set_cons_succ]
            refine tkS 9 40 hH ?_
            try simp only [Act.put, List.setIfInBounds_toArray, List.set_cons_zero, List.set_cons_succ]
            refine tkS 10 41 hH ?_
            try simp only [Act.put, List.setIfInBounds_toArray, List.set_cons_zero, List.set_cons_succ]
            refine tkG 11 42 hH ?_
            try simp only [Act.put, List.setIfInBounds_toArray, List.set_cons_zero, List.set_cons_succ]
            refine wpAnyH_done (by kernel_rfl) ?_ _
            refine NoPanic.normal ?_
            clear hH
            go_wp2
            go_ret2
            exact HE.out
          · obtain ⟨j, hj⟩ : ∃ j, j = (i - 1) / 2 := ⟨_, rfl⟩
            obtain ⟨m, hm'⟩ : ∃ m, m = i - 1 := ⟨_, rfl⟩
            have hkm : (i : Int) - 1 = (m : Int) := by omega
            have hwm : IntKind.i64.wrap (m : Int) = (m : Int) := by rw [IntKind.wrap_i64]; omega
            have hdv : (m : Int).tdiv 2 = (j : Int) := by rw [hj, ← hm', Int.tdiv_eq_ediv_of_nonneg (by omega)]; omega
            have hkp : decide (0 < i) = true := by simp; omega
            have hjl : j < es.length + 1 := by omega
            have hij : ¬ i = j := by omega
            have hji2 : j < i := by omega
            have hji : ¬ j = i := by omega
            have hj1 : (j : Int) < (es.length : Int) + 1 := by omega
            have hj0 : (0 : Int) ≤ (j : Int) := by omega
            have hwr : IntKind.i64.wrap (j : Int) = (j : Int) := by rw [IntKind.wrap_i64]; omega
            obtain ⟨d0, d1⟩ := ownO_cell hos hel.symm j hjl
            obtain ⟨y, hy⟩ : ∃ y, y = nthO es1 j := ⟨_, rfl⟩
            rw [← hy] at d0 d1
            have HCA : Hid (∀ W, Calls Try.prog 45 #[.agg #[.int .i64 o.fee, .string o.text], .agg #[.int .i64 y.fee, .string y.text]] W fun e w' => e = .returned (.bool (ahO o y)) ∧ Below W.heap.size W w') := fun W => l14Ahead_any o y W
            obtain ⟨A, hA⟩ : ∃ A, A = ahO o y := ⟨_, rfl⟩
            have HA : Hid (ahO (nthO es1 i) (nthO es1 ((i - 1) / 2)) = A) := by unfold Hid; rw [HNI.out, ← hj, ← hy]; exact hA.symm
            rw [← hA] at HCA
            have HJ : Hid (j = (i - 1) / 2) := hj
            have HY : Hid (y = nthO es1 j) := hy
            clear hA hj hm' hy hi0
            go_wp2_with fail
            refine wp_region_noPanic ?_
            refine wp_region_held_drew (S := fun w' => (w'.cell? ⟨N, 0, none⟩ = some (.int .i64 o.fee) ∧ w'.cell? ⟨N, 0 + 1, none⟩ = some (.string o.text)) ∧ (w'.cell? ⟨g, j * 2, none⟩ = some (.int .i64 y.fee) ∧ w'.cell? ⟨g, j * 2 + 1, none⟩ = some (.string y.text))) (by kernel_rfl) ⟨⟨b0, b1⟩, ⟨d0, d1⟩⟩ (fun hH => ?_)
            refine tkG 0 31 hH ?_
            try simp only [Act.put, List.setIfInBounds_toArray, List.set_cons_zero, List.set_cons_succ]
            refine tkG 1 32 hH ?_
            try simp only [Act.put, List.setIfInBounds_toArray, List.set_cons_zero, List.set_cons_succ]
            refine tkG 2 33 hH ?_
            try simp only [Act.put, List.setIfInBounds_toArray, List.set_cons_zero, List.set_cons_succ]
            refine tkG 3 34 hH ?_
            try simp only [Act.put, List.setIfInBounds_toArray, List.set_cons_zero, List.set_cons_succ]
            refine tkG 4 35 hH ?_
            try simp only [Act.put, List.setIfInBounds_toArray, List.set_cons_zero, List.set_cons_succ]
            refine tkG 5 36 hH ?_
            try simp only [Act.put, List.setIfInBounds_toArray, List.set_cons_zero, List.set_cons_succ]
            refine tkG 6 37 hH ?_
            try simp only [Act.put, List.setIfInBounds_toArray, List.set_cons_zero, List.set_cons_succ]
            refine tkG 7 38 hH ?_
            try simp only [Act.put, List.setIfInBounds_toArray, List.set_cons_zero, List.set_cons_succ]
            refine tkG 8 39 hH ?_
            try simp only [Act.put, List.setIfInBounds_toArray, List.set_cons_zero, List.set_cons_succ]
            refine tkG 9 40 hH ?_
            try simp only [Act.put, List.setIfInBounds_toArray, List.set_cons_zero, List.set_cons_succ]
            refine wpAnyH_ready (rs := [10]) (by kernel_rfl) (by simp) ?_
            refine AllReadyH.cons rfl (fun K hK => ?_) AllReadyH.nil
            go_simp
            refine (HCA.out _).mono ?_
            rintro e w1 ⟨rfl, hb2⟩
            refine hK.out _ _ ⟨OffAt.below (w := wr.drew) (e := o) hH.1 hb2, OffAt.below (w := wr.drew) (e := y) hH.2 hb2⟩ (fun hB => ?_)
            clear hK K
            try simp only [Act.put, List.setIfInBounds_toArray, List.set_cons_zero, List.set_cons_succ]
            refine tkG 11 42 hB ?_
            try simp only [Act.put, List.setIfInBounds_toArray, List.set_cons_zero, List.set_cons_succ]
            refine wpAnyH_done (by kernel_rfl) ?_ _
            refine NoPanic.normal ?_
            have bz := hb1.drew.trans (hb2.mono hb1.size)
            have hat2 : OffAt w1 N 0 o := OffAt.below (w := wr.drew) hat1 hb2
            have ho2 : OwnO w1 (N + 1) (.slice (some ⟨g, 0, none⟩) (es.length + 1) zc) es1 := OwnO.below (w := wr.drew) ho1 hb2
            clear hH hB b0 b1 d0 d1 hb1 hb2 hat1 ho1 hos
            cases A with
            | false =>
              have HE : Hid (OffRes es o w (.returned (.tuple #[.slice (some ⟨g, 0, none⟩) (es.length + 1) zc, .bool true])) w1) := offRes_yes RES.out (by have h := HU.out; rw [upL_stop HA.out] at h; rw [← h]; exact ho2) (by have := HN.out; omega) bz
              clear hat2 ho2 bz
              go_wp2
              go_ret2
              exact HE.out
            | true =>
              have HU2 : Hid (upL (swO es1 j i) j = offL es o) := by
                have := upL_go (by omega) HA.out
                rw [← HJ.out] at this
                exact this.symm.trans HU.out
              have HNI2 : Hid (nthO (swO es1 j i) j = o) := by unfold Hid; rw [nthO_sw (by omega), if_neg hij, if_pos rfl]; exact HNI.out
              have hos := ho2
              unfold OwnO at hos
              rw [hel] at hos
              obtain ⟨d0, d1⟩ := ownO_cell hos hel.symm j hjl
              obtain ⟨c0, c1⟩ := ownO_cell hos hel.symm i hi
              rw [← HY.out] at d0 d1
              generalize hcx : nthO es1 i = cx at c0 c1
              have f1 := World.ownsRow.frozenAt hos (i * 2)
              have f2 := World.ownsRow.frozenAt hos (i * 2 + 1)
              have f3 := World.ownsRow.frozenAt hos (j * 2)
              have f4 := World.ownsRow.frozenAt hos (j * 2 + 1)
              obtain ⟨e0, e1⟩ := id hat2
              have e1' : w1.cell? ⟨N, 1, none⟩ = some (.string o.text) := e1
              have hNg : ¬ N = g := by omega
              have hgn : ¬ g = N := by omega
              have HR : Hid (OwnO ((((w1.setCell ⟨g, i * 2, none⟩ (.int .i64 y.fee)).setCell ⟨g, i * 2 + 1, none⟩ (.string y.text)).setCell ⟨g, j * 2, none⟩ (.int .i64 o.fee)).setCell ⟨g, j * 2 + 1, none⟩ (.string o.text)) (N + 1) (.slice (some ⟨g, 0, none⟩) (es.length + 1) zc) (swO es1 j i) ∧ OffAt ((((w1.setCell ⟨g, i * 2, none⟩ (.int .i64 y.fee)).setCell ⟨g, i * 2 + 1, none⟩ (.string y.text)).setCell ⟨g, j * 2, none⟩ (.int .i64 o.fee)).setCell ⟨g, j * 2 + 1, none⟩ (.string o.text)) N 0 o ∧ Below w.heap.size w ((((w1.setCell ⟨g, i * 2, none⟩ (.int .i64 y.fee)).setCell ⟨g, i * 2 + 1, none⟩ (.string y.text)).setCell ⟨g, j * 2, none⟩ (.int .i64 o.fee)).setCell ⟨g, j * 2 + 1, none⟩ (.string o.text))) := by
                have hwg : w.heap.size ≤ g := by have := HN.out; omega
                have r1 := ownO_store2 hos (k := i) (by omega) y
                have r2 := ownO_store2 r1 (k := j) (by rw [List.length_set]; omega) o
                refine ⟨?_, hat2.of_block ?_, (((bz.setCell hwg _).setCell hwg _).setCell hwg _).setCell hwg _⟩
                · have e : (es1.set i y).set j o = swO es1 j i := by unfold swO; rw [hcx, ← HY.out, ← hcx, HNI.out]; exact List.set_comm _ _ hij
                  rw [e] at r2
                  unfold OwnO
                  rw [swO_len, hel]
                  exact r2
                · rw [heap_setCell_other _ _ _ _ (by simp; omega), heap_setCell_other _ _ _ _ (by simp; omega), heap_setCell_other _ _ _ _ (by simp; omega), heap_setCell_other _ _ _ _ (by simp; omega)]
              clear hos ho2 hat2 bz hcx
              go_wp2
              go_roundw
              case rel => exact ⟨j, _, by first | rfl | go_num | (congr 1; omega), hjl, by rw [swO_len]; exact hel, HR.out.1, HNI2, HU2, HR.out.2.1, HR.out.2.2⟩
              case measure => simp [intOf]; exact hji2
end Go.Proofs.Yteohiicaiilicaa
