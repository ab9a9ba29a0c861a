/- The contracts of the program's numbers of groups, step by step. -/
-- UNF Gen
import Derived.Test.YtmfopbkhlekhkaaDoorTriImp
namespace Go.Proofs.YtmfopbkhlekhkaaDoor
open Go.RowKit
theorem empA_new (w : World) : ArrAt (w.alloc (.cells #[.int .i64 (emp 0), .int .i64 (emp 1), .int .i64 (emp 2), .int .i64 (emp 3), .int .i64 (emp 4), .int .i64 (emp 5), .int .i64 (emp 6), .int .i64 (emp 7), .int .i64 (emp 8)] 77)) w.heap.size w.heap.size empA := arr_new w _ empA rfl rfl
theorem betL_head {w : World} {u : Value} {es : List Lef} (h : RdL w u es) : (es = [] ∧ ∃ a c, u = .slice a 0 c) ∨ ∃ x r b off c, es = x :: r ∧ u = .slice (some ⟨b, off, none⟩) es.length c ∧ es.length ≤ c ∧ c ≤ maxLen ∧ LefAt w b off x := by
  cases es with
  | nil =>
    obtain ⟨a, c, hv, -⟩ := h
    exact .inl ⟨rfl, a, c, hv⟩
  | cons x r =>
    obtain ⟨a, c, hv, h1, h2, -, h3⟩ := id h
    obtain ⟨b, off, ha, hc⟩ := (by rw [hv] at h; exact h : RdL w (.slice a (x :: r).length c) (x :: r)).at rfl 0 (by simp)
    rw [nthL_zero, Nat.zero_mul, Nat.add_zero] at hc
    subst ha
    exact .inr ⟨x, r, b, off, c, rfl, hv, h1, h2, hc⟩
set_option maxHeartbeats 4000000 in
set_option maxRecDepth 100000 in
theorem group0_any (q : Nat) (hq : q < 256) (v : Value) (es : List Lef) (w : World) (hr : RdL w v es) (hok : LefOk es) (ht : Tab w) :
    Calls Tryd.prog 56 #[EArr, v, .int .i64 (q : Int), .int .i64 0] w fun e w' => e = .returned (.int .i64 (grp (fL es) 0 q)) ∧ Below w.heap.size w w' := by
  have qa := empA_new w
  have b0 := below1 w (.cells #[.int .i64 (emp 0), .int .i64 (emp 1), .int .i64 (emp 2), .int .i64 (emp 3), .int .i64 (emp 4), .int .i64 (emp 5), .int .i64 (emp 6), .int .i64 (emp 7), .int .i64 (emp 8)] 77)
  have hr0 := hr.below b0
  have HO : Hid (LefOk es) := hok
  have hq2 : (q : Int) + 1 = ((q + 1 : Nat) : Int) := by omega
  have e1 : ((q * 2 ^ 0 : Nat) : Int) = (q : Int) := by simp
  have e2 : (((q + 1) * 2 ^ 0 : Nat) : Int) = (q : Int) + 1 := by simp
  have HM : Hid (∀ x r, betL es (q : Int) ((q : Int) + 1) = x :: r → grp (fL es) 0 q = pr x.pl x.va) := fun x r h => grp_leaf HO.out q (by rw [e1, e2]; exact h)
  have HZ : Hid (betL es (q : Int) ((q : Int) + 1) = [] → grp (fL es) 0 q = emp 0) := fun h => grp_empty HO.out 0 q (by rw [e1, e2]; exact h)
  have HB : ∀ W, RdL W v es → Calls Tryd.prog 74 #[v, .int .i64 (q : Int), .int .i64 ((q : Int) + 1)] W fun e w' => ∃ u, e = .returned u ∧ RdL w' u (betL es (q : Int) ((q : Int) + 1)) ∧ Below W.heap.size W w' := fun W h => leavesBetween_any v es _ _ W h HO.out (by omega)
  have HI : Hid (∀ x ∈ betL es (q : Int) ((q : Int) + 1), I64 x.pl ∧ I64 x.va) := fun x hx => by
    obtain ⟨i, hi, rfl⟩ := nthL_mem hx
    have := (betL_ok HO.out (q : Int) ((q : Int) + 1) i hi).1
    exact ⟨⟨by have := this.1.1; omega, by have := this.1.2; omega⟩, ⟨by have := this.2.1; omega, by have := this.2.2; omega⟩⟩
  generalize betL es (q : Int) ((q : Int) + 1) = ins at HM HZ HB HI
  clear e1 e2 hq2 hr hok
  unfold EArr
  go_enter Tryd.func56, Tryd.ntmps56
  go_wp2_with fail
  refine (HB _ hr0).mono ?_
  rintro e w1 ⟨u, rfl, hu, hb1⟩
  have b1 := b0.trans (hb1.mono (by simp))
  have qa1 := qa.below hb1
  have ht1 := ht.on b1
  clear hb1 hr0 HB qa b0
  rcases betL_head hu with ⟨hi, a, c, rfl⟩ | ⟨x, r, b, off, c, hi, rfl, hl, hc, hx⟩
  · have HG : Hid (grp (fL es) 0 q = emp 0) := HZ.out hi
    obtain ⟨c0, -⟩ := qa1.all
    go_wp2
    go_ret
    exact ⟨ret_intE HG.out.symm, b1⟩
  · have HG : Hid (grp (fL es) 0 q = pr x.pl x.va) := HM.out x r hi
    have hix := HI.out x (by rw [hi]; exact List.mem_cons_self)
    have hn0 : 0 < ins.length := by rw [hi]; simp
    obtain ⟨n, hn⟩ : ∃ n, n = ins.length := ⟨_, rfl⟩
    rw [← hn] at hl hn0 ⊢
    obtain ⟨d0, d1⟩ := hx
    have hnz : ((n : Int) == 0) = false := by simp; omega
    have hn1 : (0 : Int) < (n : Int) := by omega
    unfold maxLen at hc
    clear hn hi hu HM HZ HI
    go_wp2_with fail
    refine wp_region_noPanic ?_
    refine wp_region_held_drew (S := fun w' => w'.cell? ⟨b, off, none⟩ = some (.int .i64 x.pl) ∧ w'.cell? ⟨b, off + 1, none⟩ = some (.int .i64 x.va)) (by kernel_rfl) ⟨d0, d1⟩ (fun hH => ?_)
    refine tkG 0 29 hH ?_
    try simp only [Act.put, List.setIfInBounds_toArray, List.set_cons_zero, List.set_cons_succ]
    refine tkG 1 30 hH ?_
    try simp only [Act.put, List.setIfInBounds_toArray, List.set_cons_zero, List.set_cons_succ]
    refine tkG 2 31 hH ?_
    try simp only [Act.put, List.setIfInBounds_toArray, List.set_cons_zero, List.set_cons_succ]
    refine tkG 3 32 hH ?_
    try simp only [Act.put, List.setIfInBounds_toArray, List.set_cons_zero, List.set_cons_succ]
    refine tkG 4 33 hH ?_
    try simp only [Act.put, List.setIfInBounds_toArray, List.set_cons_zero, List.set_cons_succ]
    refine tkG 5 34 hH ?_
    try simp only [Act.put, List.setIfInBounds_toArray, List.set_cons_zero, List.set_cons_succ]
    refine tkG 6 35 hH ?_
    try simp only [Act.put, List.setIfInBounds_toArray, List.set_cons_zero, List.set_cons_succ]
    refine tkG 7 36 hH ?_
    try simp only [Act.put, List.setIfInBounds_toArray, List.set_cons_zero, List.set_cons_succ]
    refine wpAnyH_ready (rs := [8]) (by kernel_rfl) (by simp) ?_
    refine AllReadyH.cons rfl (fun K hK => ?_) AllReadyH.nil
    go_simp
    refine (implPr x.pl x.va _ hix.1 hix.2 (ht.on b1.drew)).mono ?_
    rintro e w2 ⟨rfl, hb2⟩
    refine hK.out _ _ ⟨(hb2.cell (World.block_lt_of_cell? _ _ hH.1)).trans hH.1, (hb2.cell (World.block_lt_of_cell? _ _ hH.2)).trans hH.2⟩ (fun hA => ?_)
    clear hK K
    try simp only [Act.put, List.setIfInBounds_toArray, List.set_cons_zero, List.set_cons_succ]
    refine tkG 9 8 hA ?_
    try simp only [Act.put, List.setIfInBounds_toArray, List.set_cons_zero, List.set_cons_succ]
    refine wpAnyH_done (by kernel_rfl) ?_ _
    refine NoPanic.normal ?_
    have b2 := b1.drew.trans (hb2.mono b1.drew.size)
    clear hH hA d0 d1
    go_wp2
    go_ret
    exact ⟨ret_intE HG.out.symm, b2⟩
end Go.Proofs.YtmfopbkhlekhkaaDoor
