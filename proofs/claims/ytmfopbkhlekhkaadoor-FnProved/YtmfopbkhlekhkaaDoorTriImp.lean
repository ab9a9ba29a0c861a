/- The contracts of the program's numbers of groups, and of its Peak. -/
-- UNF Gen
import Derived.Test.YtmfopbkhlekhkaaDoorTriSpec
import Derived.Test.YtmfopbkhlekhkaaDoorLefFind
namespace Go.Proofs.YtmfopbkhlekhkaaDoor
open Go.RowKit
theorem rdL_cut {w : World} {b off n cap k m : Nat} {es : List Lef} (h : RdL w (.slice (some ⟨b, off, none⟩) n cap) es) (hkm : k ≤ m) (hm : m ≤ n) : RdL w (.slice (if cap = k then some ⟨b, off, none⟩ else some ⟨b, off + k * 2, none⟩) (m - k) (cap - k)) ((es.take m).drop k) := by
  obtain ⟨a', cap', hv, h1, h2, h0, h3⟩ := h
  simp only [Value.slice.injEq] at hv
  obtain ⟨rfl, rfl, rfl⟩ := hv
  have hl : ((es.take m).drop k).length = m - k := by rw [List.length_drop, List.length_take]; omega
  by_cases hc : cap = k
  · rw [if_pos hc]
    refine ⟨_, _, by rw [hl], by rw [hl]; omega, by omega, (fun e => by cases e), .inl ?_⟩
    exact List.eq_nil_of_length_eq_zero (by rw [hl]; omega)
  · rw [if_neg hc]
    refine ⟨_, _, by rw [hl], by rw [hl]; omega, by omega, (fun e => by cases e), ?_⟩
    rcases h3 with rfl | ⟨b', off', ha, hcell⟩
    · left; simp
    · cases ha
      right
      refine ⟨b, off + k * 2, rfl, fun i hi => ?_⟩
      rw [hl] at hi
      have := hcell (k + i) (by omega)
      rw [nthL_drop, nthL_take (by omega)]
      rw [show off + k * 2 + i * 2 = off + (k + i) * 2 by omega]
      exact this
set_option maxHeartbeats 1000000 in
set_option maxRecDepth 100000 in
theorem leavesBetween_any (v : Value) (es : List Lef) (p q : Int) (w : World) (hr : RdL w v es) (hok : LefOk es) (hpq : p ≤ q) :
    Calls Tryd.prog 74 #[v, .int .i64 p, .int .i64 q] w fun e w' => ∃ u, e = .returned u ∧ RdL w' u (betL es p q) ∧ Below w.heap.size w w' := by
  have H1 := fun W (h : RdL W v es) => leafPlace_any v es p W h hok
  have H2 := fun W (h : RdL W v es) => leafPlace_any v es q W h hok
  have hm := atL_mono es hpq
  have hb := atL_le es q
  have HE : Hid (betL es p q = (es.take (atL es q)).drop (atL es p)) := rfl
  generalize atL es p = i at H1 hm HE
  generalize atL es q = j at H2 hm hb HE
  obtain ⟨a, cap, hv, h1, h2, h0, _⟩ := id hr
  unfold maxLen at h2
  subst hv
  obtain ⟨n, hn⟩ : ∃ n, n = es.length := ⟨_, rfl⟩
  rw [← hn] at hb h1
  have HR : Hid (RdL w (.slice a n cap) es) := by unfold Hid; rw [hn]; exact hr
  rw [← hn] at H1 H2 ⊢
  have hij : (i : Int) ≤ (j : Int) := by omega
  have hjn : (j : Int) ≤ (cap : Int) := by omega
  have hjc : j ≤ cap := by omega
  clear hr hn
  cases a with
  | none =>
    have hc0 := h0 rfl
    subst hc0
    obtain rfl : n = 0 := by omega
    obtain rfl : j = 0 := by omega
    obtain rfl : i = 0 := by omega
    clear h0
    go_enter Tryd.func74, Tryd.ntmps74
    go_wp2_with fail
    refine (H1 _ HR.out).mono ?_
    rintro e w1 ⟨rfl, b1⟩
    go_wp2_with fail
    refine (H2 _ (HR.out.below b1)).mono ?_
    rintro e w2 ⟨rfl, hb2⟩
    have b2 := b1.trans (hb2.mono b1.size)
    go_wp2
    go_ret
    exact ⟨_, rfl, by rw [HE.out]; exact rdL_nil _, b2⟩
  | some ad =>
    obtain ⟨b, off, spot⟩ := ad
    by_cases hsp : spot = none
    · subst hsp
      go_enter Tryd.func74, Tryd.ntmps74
      go_wp2_with fail
      refine (H1 _ HR.out).mono ?_
      rintro e w1 ⟨rfl, b1⟩
      go_wp2_with fail
      refine (H2 _ (HR.out.below b1)).mono ?_
      rintro e w2 ⟨rfl, hb2⟩
      have b2 := b1.trans (hb2.mono b1.size)
      have hcut := rdL_cut (HR.out.below b2) hm hb
      rw [← HE.out] at hcut
      have HC : Hid (RdL w2 (.slice (if cap = i then some ⟨b, off, none⟩ else some ⟨b, off + i * 2, none⟩) (j - i) (cap - i)) (betL es p q)) := hcut
      clear hcut hb2
      by_cases hci : cap = i
      · rw [if_pos hci] at HC
        subst hci
        rw [Nat.sub_self, show j - cap = 0 by omega] at HC
        go_wp2
        go_ret
        exact ⟨_, rfl, HC.out, b2⟩
      · rw [if_neg hci] at HC
        go_wp2
        go_ret
        exact ⟨_, rfl, HC.out, b2⟩
    · obtain rfl : es = [] := by
        obtain ⟨a', cap', hv, -, -, -, h3⟩ := HR.out
        simp only [Value.slice.injEq] at hv
        rcases h3 with h | ⟨b', off', ha, -⟩
        · exact h
        · rw [← hv.1] at ha
          simp only [Option.some.injEq, Addr.mk.injEq] at ha
          exact absurd ha.2.2 hsp
      obtain rfl : n = 0 := by
        obtain ⟨a', cap', hv, -⟩ := HR.out
        simp only [Value.slice.injEq] at hv
        exact hv.2.1
      obtain rfl : j = 0 := by omega
      obtain rfl : i = 0 := by omega
      have RES : ∀ W (a : Addr) (c : Nat), c ≤ cap → RdL W (.slice (some a) 0 c) (betL [] p q) := fun W a c hc => by
        rw [HE.out]
        exact ⟨some a, c, rfl, Nat.zero_le _, by unfold maxLen; omega, (fun e => by cases e), .inl rfl⟩
      clear h0
      go_enter Tryd.func74, Tryd.ntmps74
      go_wp2_with fail
      refine (H1 _ HR.out).mono ?_
      rintro e w1 ⟨rfl, b1⟩
      go_wp2_with fail
      refine (H2 _ (HR.out.below b1)).mono ?_
      rintro e w2 ⟨rfl, hb2⟩
      have b2 := b1.trans (hb2.mono b1.size)
      by_cases hc0 : cap = 0
      · subst hc0
        go_wp2
        go_ret
        exact ⟨_, rfl, RES _ _ _ (by omega), b2⟩
      · go_wp2
        go_ret
        exact ⟨_, rfl, RES _ _ _ (by omega), b2⟩
/-- The numbers of groups without a Leaf, as an array. -/
def empA : List Int := [emp 0, emp 1, emp 2, emp 3, emp 4, emp 5, emp 6, emp 7, emp 8]
def EArr : Value := .agg #[.int .i64 (emp 0), .int .i64 (emp 1), .int .i64 (emp 2), .int .i64 (emp 3), .int .i64 (emp 4), .int .i64 (emp 5), .int .i64 (emp 6), .int .i64 (emp 7), .int .i64 (emp 8)]
/-- The first k + 1 of them are known. -/
def arrE (k : Nat) : List Int := (List.range 9).map fun j => if j ≤ k then emp j else 0
theorem arrE_len (k : Nat) : (arrE k).length = 9 := by unfold arrE; simp
theorem arrE_at (k j : Nat) (hj : j ≤ k) (h9 : j < 9) : (arrE k)[j]'(by rw [arrE_len]; exact h9) = emp j := by unfold arrE; simp [hj]
theorem arrE_get (k j : Nat) : (arrE k)[j]? = if j < 9 then some (if j ≤ k then emp j else 0) else none := by
  unfold arrE
  rw [List.getElem?_map]
  by_cases h : j < 9
  · rw [if_pos h, List.getElem?_range h]; rfl
  · rw [if_neg h, List.getElem?_eq_none (by simp; omega)]; rfl
theorem arrE_step (k : Nat) : (arrE k).set (k + 1) (pr (emp k) (emp k)) = arrE (k + 1) := by
  apply List.ext_getElem?
  intro j
  rw [List.getElem?_set, arrE_get, arrE_get, arrE_len]
  by_cases e : k + 1 = j
  · rw [if_pos e]
    by_cases h : j < 9
    · rw [if_pos h, if_pos (by omega), if_pos (by omega), ← e]; rfl
    · rw [if_neg h, if_neg (by omega)]
  · rw [if_neg e]
    by_cases h : j < 9
    · rw [if_pos h, if_pos h]
      by_cases h2 : j ≤ k
      · rw [if_pos h2, if_pos (by omega)]
      · rw [if_neg h2, if_neg (by omega)]
    · rw [if_neg h, if_neg h]
theorem arrE_8 : arrE 8 = empA := rfl
/-- An array of nine numbers lies in block b. -/
def ArrAt (w : World) (B b : Nat) (ns : List Int) : Prop := w.ownsRow B 77 1 (.slice (some ⟨b, 0, none⟩) 9 9) 9 (IV ns)
theorem ArrAt.below {w w' : World} {B b : Nat} {ns : List Int} (h : ArrAt w B b ns) (hb : Below w.heap.size w w') : ArrAt w' B b ns := own_below h hb
theorem ArrAt.cell {w : World} {B b : Nat} {ns : List Int} (h : ArrAt w B b ns) (j : Nat) (hj : j < 9) : w.cell? ⟨b, j, none⟩ = some (.int .i64 (ns.getD j 0)) := by
  have hl : ns.length = 9 := by have := h.1; rw [IV_length] at this; omega
  rw [World.ownsRow.cellAt h j (by omega), IV_get _ _ (by omega), getD_at]
theorem ArrAt.set {w : World} {B b : Nat} {ns : List Int} (h : ArrAt w B b ns) (j : Nat) (x : Int) : ArrAt (w.setCell ⟨b, j, none⟩ (.int .i64 x)) B b (ns.set j x) := by
  unfold ArrAt
  rw [IV_set]
  exact (h.stored j (.int .i64 x)).1
theorem ArrAt.other {w : World} {B b c j : Nat} {ns : List Int} {x : Value} (h : ArrAt w B b ns) (hc : c ≠ b) : ArrAt (w.setCell ⟨c, j, none⟩ x) B b ns := row_set h (fun k hk => by cases hk; exact hc)
theorem arr_new (w : World) (cs : Array Value) (ns : List Int) (h : cs.toList = IV ns) (hl : ns.length = 9) : ArrAt (w.alloc (.cells cs 77)) w.heap.size w.heap.size ns := by
  have : (w.alloc (.cells cs 77)).ownsRow w.heap.size 77 1 (.slice (some ⟨w.heap.size, 0, none⟩) 9 9) 9 cs.toList := World.ownsRow_lit w cs 9 (Nat.le_refl _) (by unfold maxLen; omega) (by rw [← Array.length_toList, h, IV_length, hl])
  rw [h] at this
  exact this
theorem ArrAt.all {w : World} {B b : Nat} (h : ArrAt w B b empA) : w.cell? ⟨b, 0, none⟩ = some (.int .i64 (emp 0)) ∧ w.cell? ⟨b, 1, none⟩ = some (.int .i64 (emp 1)) ∧ w.cell? ⟨b, 2, none⟩ = some (.int .i64 (emp 2)) ∧ w.cell? ⟨b, 3, none⟩ = some (.int .i64 (emp 3)) ∧ w.cell? ⟨b, 4, none⟩ = some (.int .i64 (emp 4)) ∧ w.cell? ⟨b, 5, none⟩ = some (.int .i64 (emp 5)) ∧ w.cell? ⟨b, 6, none⟩ = some (.int .i64 (emp 6)) ∧ w.cell? ⟨b, 7, none⟩ = some (.int .i64 (emp 7)) ∧ w.cell? ⟨b, 8, none⟩ = some (.int .i64 (emp 8)) :=
  ⟨h.cell 0 (by omega), h.cell 1 (by omega), h.cell 2 (by omega), h.cell 3 (by omega), h.cell 4 (by omega), h.cell 5 (by omega), h.cell 6 (by omega), h.cell 7 (by omega), h.cell 8 (by omega)⟩
theorem i64_emp (k : Nat) : I64 (emp k) := i64_small (emp_lo k) (emp_hi k)
set_option maxHeartbeats 4000000 in
set_option maxRecDepth 100000 in
theorem numbersOfEmpty_any (w : World) (ht : Tab w) :
    Calls Tryd.prog 55 #[] w fun e w' => e = .returned EArr ∧ Below w.heap.size w w' := by
  have a0 := arr_new w #[.int .i64 0, .int .i64 0, .int .i64 0, .int .i64 0, .int .i64 0, .int .i64 0, .int .i64 0, .int .i64 0, .int .i64 0] [0, 0, 0, 0, 0, 0, 0, 0, 0] rfl rfl
  have a1 := arr_new (w.alloc (.cells #[.int .i64 0, .int .i64 0, .int .i64 0, .int .i64 0, .int .i64 0, .int .i64 0, .int .i64 0, .int .i64 0, .int .i64 0] 77)) #[.int .i64 0, .int .i64 0, .int .i64 0, .int .i64 0, .int .i64 0, .int .i64 0, .int .i64 0, .int .i64 0, .int .i64 0] (arrE 0) rfl rfl
  have b2 := below2 w (.cells #[.int .i64 0, .int .i64 0, .int .i64 0, .int .i64 0, .int .i64 0, .int .i64 0, .int .i64 0, .int .i64 0, .int .i64 0] 77) (.cells #[.int .i64 0, .int .i64 0, .int .i64 0, .int .i64 0, .int .i64 0, .int .i64 0, .int .i64 0, .int .i64 0, .int .i64 0] 77)
  replace a0 := a0.below (below1 _ (.cells #[.int .i64 0, .int .i64 0, .int .i64 0, .int .i64 0, .int .i64 0, .int .i64 0, .int .i64 0, .int .i64 0, .int .i64 0] 77))
  have hsz : (w.alloc (.cells #[.int .i64 0, .int .i64 0, .int .i64 0, .int .i64 0, .int .i64 0, .int .i64 0, .int .i64 0, .int .i64 0, .int .i64 0] 77)).heap.size = w.heap.size + 1 := by simp
  rw [hsz] at a1
  go_enter Tryd.func55, Tryd.ntmps55
  go_wp2
  go_loopw [4] (fun i wr => ∃ k : Nat, k ≤ 8 ∧ i = .int .i64 k ∧ ArrAt wr w.heap.size w.heap.size [0, 0, 0, 0, 0, 0, 0, 0, 0] ∧ ArrAt wr (w.heap.size + 1) (w.heap.size + 1) (arrE k) ∧ Below w.heap.size w wr) (fun i _ => 8 - (intOf i).toNat)
  case atStart => exact ⟨0, by omega, rfl, a0, a1, b2⟩
  case round =>
    obtain ⟨k, hk, rfl, q0, q1, hb⟩ := hrel
    clear a0 a1 b2 hsz
    by_cases hlt : k < 8
    · have c0 : wr.cell? ⟨w.heap.size + 1, k, none⟩ = some (.int .i64 (emp k)) := by
        have := q1.cell k (by omega)
        rwa [show (arrE k).getD k 0 = emp k by simp [List.getD, arrE_get, show k < 9 by omega]] at this
      have hk1 : (k : Int) < 8 := by omega
      have hk9 : (k : Int) < 9 := by omega
      have hk19 : (k : Int) + 1 < 9 := by omega
      have hk10 : (0 : Int) ≤ (k : Int) + 1 := by omega
      have hw : IntKind.i64.wrap ((k : Int) + 1) = (k : Int) + 1 := by rw [IntKind.wrap_i64]; omega
      go_wp2_with fail
      refine wp_region_noPanic ?_
      refine wp_region_held_drew (S := fun w' => w'.cell? ⟨w.heap.size + 1, k, none⟩ = some (.int .i64 (emp k))) (by kernel_rfl) c0 (fun hH => ?_)
      have qb := hb.drew
      have qt := ht.on hb.drew
      replace q0 : ArrAt wr.drew _ _ _ := q0
      replace q1 : ArrAt wr.drew _ _ _ := q1
      clear hb c0
      revert hH
      revert qt
      revert qb
      revert q1
      revert q0
      generalize wr.drew = W0
      intro q0 q1 qb qt hH
      refine tkG 0 7 hH ?_
      try simp only [Act.put, List.setIfInBounds_toArray, List.set_cons_zero, List.set_cons_succ]
      refine tkG 1 8 hH ?_
      try simp only [Act.put, List.setIfInBounds_toArray, List.set_cons_zero, List.set_cons_succ]
      refine tkG 2 9 hH ?_
      try simp only [Act.put, List.setIfInBounds_toArray, List.set_cons_zero, List.set_cons_succ]
      refine tkG 3 10 hH ?_
      try simp only [Act.put, List.setIfInBounds_toArray, List.set_cons_zero, List.set_cons_succ]
      refine tkG 4 11 hH ?_
      try simp only [Act.put, List.setIfInBounds_toArray, List.set_cons_zero, List.set_cons_succ]
      refine tkG 5 12 hH ?_
      try simp only [Act.put, List.setIfInBounds_toArray, List.set_cons_zero, List.set_cons_succ]
      refine tkG 6 13 hH ?_
      try simp only [Act.put, List.setIfInBounds_toArray, List.set_cons_zero, List.set_cons_succ]
      refine tkG 7 14 hH ?_
      try simp only [Act.put, List.setIfInBounds_toArray, List.set_cons_zero, List.set_cons_succ]
      refine wpAnyH_ready (rs := [8]) (by kernel_rfl) (by simp) ?_
      refine AllReadyH.cons rfl (fun K hK => ?_) AllReadyH.nil
      go_simp
      refine (implPr (emp k) (emp k) _ (i64_emp k) (i64_emp k) qt).mono ?_
      rintro e w1 ⟨rfl, hb1⟩
      replace q0 := q0.below hb1
      replace q1 := q1.below hb1
      replace qb := qb.trans (hb1.mono qb.size)
      refine hK.out _ _ ((hb1.cell (World.block_lt_of_cell? _ _ hH)).trans hH) (fun hA => ?_)
      clear hK K
      try simp only [Act.put, List.setIfInBounds_toArray, List.set_cons_zero, List.set_cons_succ]
      refine tkG 9 16 hA ?_
      try simp only [Act.put, List.setIfInBounds_toArray, List.set_cons_zero, List.set_cons_succ]
      have d0 : w1.cell? ⟨w.heap.size + 1, k + 1, none⟩ = some (.int .i64 ((arrE k).getD (k + 1) 0)) := q1.cell (k + 1) (by omega)
      have f0 := World.ownsRow.frozenAt q1 (k + 1)
      have r1 := q1.set (k + 1) (pr (emp k) (emp k))
      rw [arrE_step] at r1
      have r0 : ArrAt (w1.setCell ⟨w.heap.size + 1, k + 1, none⟩ (.int .i64 (pr (emp k) (emp k)))) w.heap.size w.heap.size [0, 0, 0, 0, 0, 0, 0, 0, 0] := q0.other (by omega)
      have rb := qb.setCell (p := ⟨w.heap.size + 1, k + 1, none⟩) (Nat.le_succ _) (.int .i64 (pr (emp k) (emp k)))
      have hA2 : (w1.setCell ⟨w.heap.size + 1, k + 1, none⟩ (.int .i64 (pr (emp k) (emp k)))).cell? ⟨w.heap.size + 1, k, none⟩ = some (.int .i64 (emp k)) := by
        have := r1.cell k (by omega)
        rwa [show (arrE (k + 1)).getD k 0 = emp k by simp [List.getD, arrE_get, show k < 9 by omega]] at this
      refine wpAnyH_ready (rs := [10]) (by kernel_rfl) (by simp) ?_
      refine AllReadyH.cons rfl (fun K hK => ?_) AllReadyH.nil
      go_simp
      refine hK.out _ _ hA2 (fun hC => ?_)
      clear hK K
      try simp only [Act.put, List.setIfInBounds_toArray, List.set_cons_zero, List.set_cons_succ]
      refine wpAnyH_done (by kernel_rfl) ?_ _
      refine NoPanic.normal ?_
      have H1 : Hid (ArrAt _ _ _ _) := r1
      clear hH hA hA2 hC r1 q0 q1 qb d0 f0
      go_wp2
      go_roundw
      case rel => exact ⟨k + 1, by omega, by go_num, r0, H1.out, rb⟩
      case measure => simp [intOf]; omega
    · obtain rfl : k = 8 := by omega
      rw [arrE_8] at q1
      obtain ⟨c0, c1, c2, c3, c4, c5, c6, c7, c8⟩ := q1.all
      have z := fun j hj => q0.cell j hj
      have z0 := z 0 (by omega)
      have z1 := z 1 (by omega)
      have z2 := z 2 (by omega)
      have z3 := z 3 (by omega)
      have z4 := z 4 (by omega)
      have z5 := z 5 (by omega)
      have z6 := z 6 (by omega)
      have z7 := z 7 (by omega)
      have z8 := z 8 (by omega)
      have f := fun j => World.ownsRow.frozenAt q0 j
      have bz := (((((((((hb.setCell (p := ⟨w.heap.size, 0, none⟩) (Nat.le_refl _) (.int .i64 (emp 0))).setCell (p := ⟨w.heap.size, 1, none⟩) (Nat.le_refl _) (.int .i64 (emp 1))).setCell (p := ⟨w.heap.size, 2, none⟩) (Nat.le_refl _) (.int .i64 (emp 2))).setCell (p := ⟨w.heap.size, 3, none⟩) (Nat.le_refl _) (.int .i64 (emp 3))).setCell (p := ⟨w.heap.size, 4, none⟩) (Nat.le_refl _) (.int .i64 (emp 4))).setCell (p := ⟨w.heap.size, 5, none⟩) (Nat.le_refl _) (.int .i64 (emp 5))).setCell (p := ⟨w.heap.size, 6, none⟩) (Nat.le_refl _) (.int .i64 (emp 6))).setCell (p := ⟨w.heap.size, 7, none⟩) (Nat.le_refl _) (.int .i64 (emp 7))).setCell (p := ⟨w.heap.size, 8, none⟩) (Nat.le_refl _) (.int .i64 (emp 8)))
      have HF : Hid (ArrAt _ w.heap.size w.heap.size empA) := (((((((((q0.set 0 (emp 0)).set 1 (emp 1)).set 2 (emp 2)).set 3 (emp 3)).set 4 (emp 4)).set 5 (emp 5)).set 6 (emp 6)).set 7 (emp 7)).set 8 (emp 8))
      clear z
      go_wp2
      refine bodyPost_ret (v := EArr) ?_ rfl ⟨rfl, bz⟩
      obtain ⟨e0, e1, e2, e3, e4, e5, e6, e7, e8⟩ := HF.out.all
      clear c0 c1 c2 c3 c4 c5 c6 c7 c8 z0 z1 z2 z3 z4 z5 z6 z7 z8
      simp [results, Tryd.results55, go_sem, EArr, e0, e1, e2, e3, e4, e5, e6, e7, e8]
end Go.Proofs.YtmfopbkhlekhkaaDoor
