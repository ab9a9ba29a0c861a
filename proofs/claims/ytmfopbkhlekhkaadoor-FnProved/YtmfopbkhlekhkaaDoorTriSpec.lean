/- The contracts of the model's numbers of places and groups, and of its Peak. -/
-- UNF Gen
import Derived.Test.YtmfopbkhlekhkaaDoorTriMath
import Derived.Test.YtmfopbkhlekhkaaDoorNumHelp
namespace Go.Proofs.YtmfopbkhlekhkaaDoor
open Go.RowKit
/-- A number such as a program can hold. -/
def I64 (n : Int) : Prop := -9223372036854775808 ≤ n ∧ n ≤ 9223372036854775807
theorem i64_small {n : Int} (h0 : 0 ≤ n) (h1 : n < 2147483647) : I64 n := ⟨by omega, by omega⟩
theorem specPr (a b : Int) (w : World) (ha : I64 a) (hb : I64 b) :
    Calls Tryd.prog 54 #[.int .i64 a, .int .i64 b] w fun e w' => e = .returned (.int .i64 (pr a b)) ∧ Below w.heap.size w w' := specPair_any a b w ha.1 ha.2 hb.1 hb.2
theorem implPr (a b : Int) (w : World) (ha : I64 a) (hb : I64 b) (ht : Tab w) :
    Calls Tryd.prog 28 #[.int .i64 a, .int .i64 b] w fun e w' => e = .returned (.int .i64 (pr a b)) ∧ Below w.heap.size w w' := implPair_any a b w ha.1 ha.2 hb.1 hb.2 ht
set_option maxHeartbeats 400000 in
set_option maxRecDepth 100000 in
theorem l12Number_any (p v : Int) (w : World) (hp : I64 p) (hv : I64 v) :
    Calls Tryd.prog 52 #[.int .i64 p, .int .i64 v] w fun e w' => e = .returned (.int .i64 (numP p v)) ∧ Below w.heap.size w w' := by
  by_cases h : v < 0
  · have e : numP p v = 0 := by unfold numP; rw [if_pos h]
    rw [e]
    go_enter Tryd.func52, Tryd.ntmps52
    go_wp2
    go_ret
    exact ⟨rfl, Below.refl _ _⟩
  · have e : numP p v = pr p v := by unfold numP; rw [if_neg h]
    rw [e]
    go_enter Tryd.func52, Tryd.ntmps52
    go_wp2_with fail
    refine (specPr p v _ hp hv).mono ?_
    rintro e w1 ⟨rfl, hb⟩
    go_wp2
    go_ret
    exact ⟨rfl, hb⟩
theorem getD_at {ns : List Int} {i : Nat} (h : i < ns.length) : ns[i] = ns.getD i 0 := by simp [List.getD, List.getElem?_eq_getElem h]
set_option maxHeartbeats 4000000 in
set_option maxRecDepth 100000 in
theorem l12Up_any (v : Value) (ns : List Int) (m : Nat) (w : World) (hr : RdI w v ns) (hn : ns.length = 2 * m) (hm : m ≤ 128) (hi : ∀ j, I64 (ns.getD j 0)) :
    Calls Tryd.prog 58 #[v] w fun e w' => ∃ u, e = .returned u ∧ OwnI w' w.heap.size u (upR ns m) ∧ Below w.heap.size w w' := by
  obtain ⟨a, cap, hv, hl, hc, _⟩ := id hr
  unfold maxLen at hc
  subst hv
  obtain ⟨n, hnn⟩ : ∃ n, n = ns.length := ⟨_, rfl⟩
  have HN : Hid (n = ns.length) := hnn
  have hr1 : RdI w (.slice a n cap) ns := by rw [hnn]; exact hr
  have HR : Hid (RdI w (.slice a n cap) ns) := hr1
  rw [← hnn] at hl hn ⊢
  have HI : Hid (∀ j, I64 (ns.getD j 0)) := hi
  have ho0 := ownI_none w
  have b0 := below1 w (.cells #[] 2)
  have HNM : Hid (n = 2 * m) := hn
  clear hr hr1 hnn hi hn
  go_enter Tryd.func58, Tryd.ntmps58
  go_wp2
  go_loopw [3, 4] (fun s3 s4 wr => ∃ (k : Nat) (u : Value), k ≤ m ∧ s3 = u ∧ s4 = .int .i64 (2 * (k : Int)) ∧ OwnI wr w.heap.size u (upR ns k) ∧ Below w.heap.size w wr) (fun _ s4 _ => n - (intOf s4).toNat)
  case atStart => exact ⟨0, _, Nat.zero_le _, rfl, rfl, ho0, b0⟩
  case round =>
    obtain ⟨k, u, hk, rfl, rfl, ho, hb⟩ := hrel
    clear ho0 b0
    by_cases hlt : k < m
    · have hnm := HNM.out
      obtain ⟨i, hi⟩ : ∃ i, i = 2 * k := ⟨_, rfl⟩
      have h2k : 2 * (k : Int) = (i : Int) := by omega
      rw [h2k]
      obtain ⟨j, hj⟩ : ∃ j, j = 2 * k + 1 := ⟨_, rfl⟩
      have hij : (i : Int) + 1 = (j : Int) := by omega
      have hin : i < n := by omega
      have hjn : j < n := by omega
      obtain ⟨b, off, rfl, c0⟩ := (HR.out.below hb).at i (by rw [← HN.out]; exact hin)
      obtain ⟨b2, off2, hbb, c1⟩ := (HR.out.below hb).at j (by rw [← HN.out]; exact hjn)
      cases hbb
      rw [getD_at] at c0 c1
      obtain ⟨x, hx⟩ : ∃ x, x = ns.getD i 0 := ⟨_, rfl⟩
      obtain ⟨y, hy⟩ : ∃ y, y = ns.getD j 0 := ⟨_, rfl⟩
      have HX : Hid (x = ns.getD i 0) := hx
      have HY : Hid (y = ns.getD j 0) := hy
      have hix : I64 x := by rw [hx]; exact HI.out _
      have hiy : I64 y := by rw [hy]; exact HI.out _
      rw [← hx] at c0
      rw [← hy] at c1
      have e5 : Hid (upR ns (k + 1) = upR ns k ++ [pr x y]) := by unfold Hid; rw [upR_succ, hx, hy, hi, hj]
      have hlk := upR_len ns k
      generalize upR ns k = ys at ho e5 hlk
      have hyl : ys.length ≤ 128 := by omega
      have hi1 : (i : Int) < (n : Int) := by omega
      have hj1 : (j : Int) < (n : Int) := by omega
      have hj0 : (0 : Int) ≤ (j : Int) := by omega
      have hwj : IntKind.i64.wrap (j : Int) = (j : Int) := by rw [IntKind.wrap_i64]; omega
      have e2 : (i : Int) + 2 = 2 * ((k + 1 : Nat) : Int) := by omega
      have HE2 : Hid ((i : Int) + 2 = 2 * ((k + 1 : Nat) : Int)) := e2
      have HM : Hid (n - ((i : Int) + 2).toNat < n - (i : Int).toNat) := by unfold Hid; omega
      clear hx hy hi hj h2k hlk e2 hnm
      go_wp2_with fail
      refine wp_region_noPanic ?_
      refine wp_region_held_drew (S := fun w' => w'.cell? ⟨b, off + i, none⟩ = some (.int .i64 x) ∧ w'.cell? ⟨b, off + j, none⟩ = some (.int .i64 y)) (by kernel_rfl) ⟨c0, c1⟩ (fun hH => ?_)
      have qo : OwnI wr.drew _ _ ys := ho.drewN 1
      have qb := hb.drew
      clear ho hb c0 c1
      revert hH qo qb
      generalize wr.drew = W0
      intro hH qo qb
      refine tkG 0 12 hH ?_
      try simp only [Act.put, List.setIfInBounds_toArray, List.set_cons_zero, List.set_cons_succ]
      refine tkG 1 13 hH ?_
      try simp only [Act.put, List.setIfInBounds_toArray, List.set_cons_zero, List.set_cons_succ]
      refine tkG 2 14 hH ?_
      try simp only [Act.put, List.setIfInBounds_toArray, List.set_cons_zero, List.set_cons_succ]
      refine tkG 3 15 hH ?_
      try simp only [Act.put, List.setIfInBounds_toArray, List.set_cons_zero, List.set_cons_succ]
      refine tkG 4 16 hH ?_
      try simp only [Act.put, List.setIfInBounds_toArray, List.set_cons_zero, List.set_cons_succ]
      refine tkG 5 17 hH ?_
      try simp only [Act.put, List.setIfInBounds_toArray, List.set_cons_zero, List.set_cons_succ]
      refine tkG 6 18 hH ?_
      try simp only [Act.put, List.setIfInBounds_toArray, List.set_cons_zero, List.set_cons_succ]
      refine tkG 7 19 hH ?_
      try simp only [Act.put, List.setIfInBounds_toArray, List.set_cons_zero, List.set_cons_succ]
      refine tkG 8 20 hH ?_
      try simp only [Act.put, List.setIfInBounds_toArray, List.set_cons_zero, List.set_cons_succ]
      refine tkG 9 21 hH ?_
      try simp only [Act.put, List.setIfInBounds_toArray, List.set_cons_zero, List.set_cons_succ]
      refine wpAnyH_ready (rs := [10]) (by kernel_rfl) (by simp) ?_
      refine AllReadyH.cons rfl (fun K hK => ?_) AllReadyH.nil
      go_simp
      refine (specPr x y _ hix hiy).mono ?_
      rintro e w1 ⟨rfl, hb1⟩
      replace qo := qo.below hb1
      replace qb := qb.trans (hb1.mono qb.size)
      refine hK.out _ _ ⟨(hb1.cell (World.block_lt_of_cell? _ _ hH.1)).trans hH.1, (hb1.cell (World.block_lt_of_cell? _ _ hH.2)).trans hH.2⟩ (fun hA => ?_)
      clear hK K
      try simp only [Act.put, List.setIfInBounds_toArray, List.set_cons_zero, List.set_cons_succ]
      have hr3 := (ownI_one w1 (pr x y)).rd
      have o3 := qo.below (below1 w1 (.cells #[.int .i64 (pr x y)] 2))
      have b3 := qb.trans ((below1 w1 (.cells #[.int .i64 (pr x y)] 2)).mono qb.size)
      have hB1 := below1 w1 (.cells #[.int .i64 (pr x y)] 2)
      have hA2 : (w1.alloc (.cells #[.int .i64 (pr x y)] 2)).cell? ⟨b, off + i, none⟩ = some (.int .i64 x) ∧ (w1.alloc (.cells #[.int .i64 (pr x y)] 2)).cell? ⟨b, off + j, none⟩ = some (.int .i64 y) := ⟨(hB1.cell (World.block_lt_of_cell? _ _ hA.1)).trans hA.1, (hB1.cell (World.block_lt_of_cell? _ _ hA.2)).trans hA.2⟩
      refine wpAnyH_ready (rs := [11]) (by kernel_rfl) (by simp) ?_
      refine AllReadyH.cons rfl (fun K hK => ?_) AllReadyH.nil
      go_simp
      refine hK.out _ _ hA2 (fun hC => ?_)
      clear hK K
      try simp only [Act.put, List.setIfInBounds_toArray, List.set_cons_zero, List.set_cons_succ]
      generalize hW3 : w1.alloc (.cells #[.int .i64 (pr x y)] 2) = W3 at hr3 o3 b3 hA2 hC hB1 ⊢
      refine wpAnyH_ready (rs := [12]) (by kernel_rfl) (by simp) ?_
      refine AllReadyH.cons rfl (fun K hK => ?_) AllReadyH.nil
      refine step_append_ints rfl 24 rfl _ _ rfl w.heap.size _ _ ys [pr x y] rfl rfl o3 hr3 (by simp; omega) b3.size ?_
      intro v4 w4 ho4 hg4
      have b4 : Below w.heap.size w w4 := b3.grown hg4 b3.size (fun k hk => (World.ownsRow.lt o3 k hk).1)
      have hc4 : w4.cell? ⟨b, off + i, none⟩ = some (.int .i64 x) ∧ w4.cell? ⟨b, off + j, none⟩ = some (.int .i64 y) := by
        obtain ⟨b5, o5, h5, d0⟩ := (HR.out.below b4).at i (by rw [← HN.out]; exact hin)
        obtain ⟨b6, o6, h6, d1⟩ := (HR.out.below b4).at j (by rw [← HN.out]; exact hjn)
        cases h5
        cases h6
        rw [getD_at] at d0 d1
        exact ⟨d0.trans (by rw [HX.out]), d1.trans (by rw [HY.out])⟩
      refine hK.out _ _ hc4 (fun hD => ?_)
      clear hK K
      try simp only [Act.put, List.setIfInBounds_toArray, List.set_cons_zero, List.set_cons_succ]
      refine tkG 13 3 hD ?_
      try simp only [Act.put, List.setIfInBounds_toArray, List.set_cons_zero, List.set_cons_succ]
      refine wpAnyH_done (by kernel_rfl) ?_ _
      refine NoPanic.normal ?_
      clear hH hA hA2 hC hD hg4 o3 hr3 b3 qo qb hc4 hW3 hB1
      rw [← e5.out] at ho4
      go_wp2
      go_roundw
      case rel => exact ⟨k + 1, _, by omega, rfl, by rw [HE2.out], ho4, b4⟩
      case measure => have := HM.out; simp [intOf]; omega
    · have hke : k = m := by omega
      subst hke
      have hge : ¬ 2 * (k : Int) < (n : Int) := by have := HNM.out; omega
      go_wp2
      go_ret
      exact ⟨_, rfl, ho, hb⟩
set_option maxHeartbeats 4000000 in
set_option maxRecDepth 100000 in
theorem l12Row_any (v : Value) (es : List Lef) (w : World) (hr : RdL w v es) (hok : LefOk es) :
    Calls Tryd.prog 57 #[v] w fun e w' => ∃ u, e = .returned u ∧ OwnI w' w.heap.size u (rowG (fL es) 0) ∧ Below w.heap.size w w' := by
  obtain ⟨i0, hi, hz0, hz1, hz2⟩ := info_parts Tryd.info2
  obtain ⟨a, cap, hv, hl, hm, _⟩ := id hr
  unfold maxLen at hm
  subst hv
  obtain ⟨n, hn⟩ : ∃ n, n = es.length := ⟨_, rfl⟩
  have HN : Hid (n = es.length) := hn
  have HR : Hid (RdL w (.slice a n cap) es) := by unfold Hid; rw [hn]; exact hr
  have HO : Hid (LefOk es) := hok
  rw [← hn] at hl ⊢
  clear hr hn hok
  go_enter Tryd.func57, Tryd.ntmps57
  go_wp2_with (at_make; (refine wpList_make_full _ rfl _ _ 28 rfl w.heap.size 2 i0 _ 1 Tryd.underlying28 hi hz0 hz1 .i64 .i64 (256 : Int) (256 : Int) 256 rfl rfl rfl rfl ?c1 ?c2 ?c3 ?_))
  case c1 => rw [hz2]; omega
  case c2 => unfold maxLen; omega
  case c3 => omega
  intro w1 ho1 hg1
  have ho2 : w1.ownsRow w.heap.size 2 1 (.slice (some ⟨w.heap.size, 0, none⟩) 256 256) 256 (IV (rowK es 0)) := by rw [rowK_zero, ← made_IV]; exact ho1
  have hb1 : Below w.heap.size w w1 := (Below.refl _ _).grown hg1 (Nat.le_refl _) (fun k hk => by cases hk)
  clear hg1 ho1
  go_wp2
  go_loopw [4] (fun i wr => ∃ k : Nat, k ≤ n ∧ i = .int .i64 k ∧ wr.ownsRow w.heap.size 2 1 (.slice (some ⟨w.heap.size, 0, none⟩) 256 256) 256 (IV (rowK es k)) ∧ Below w.heap.size w wr) (fun i _ => n - (intOf i).toNat)
  case atStart => exact ⟨0, Nat.zero_le _, rfl, ho2, hb1⟩
  case round =>
    obtain ⟨k, hk, rfl, ho, hb⟩ := hrel
    clear ho2 hb1
    by_cases hlt : k < n
    · have hke : k < es.length := by rw [← HN.out]; exact hlt
      obtain ⟨b, off, rfl, hc⟩ := (HR.out.below hb).at HN.out k hke
      have hin := (HO.out k hke).1
      obtain ⟨P, hP⟩ : ∃ P : Nat, (nthL es k).pl = (P : Int) := ⟨(nthL es k).pl.toNat, by have := hin.1.1; omega⟩
      obtain ⟨u, hu⟩ : ∃ u, u = (nthL es k).va := ⟨_, rfl⟩
      have hPl : P ≤ 255 := by have := hin.1.2; omega
      have hP1 : (P : Int) < 256 := by omega
      have hiP : I64 (P : Int) := ⟨by omega, by omega⟩
      have hiu : I64 u := by rw [hu]; exact ⟨by have := hin.2.1; omega, by have := hin.2.2; omega⟩
      obtain ⟨c0, c1⟩ := hc
      rw [hP] at c0
      rw [← hu] at c1
      have e5 : Hid ((rowK es k).set P (numP (P : Int) u) = rowK es (k + 1)) := by unfold Hid; rw [hu, ← hP]; exact rowK_step HO.out hke hP
      have hk1 : (k : Int) < (n : Int) := by omega
      have hlr := rowK_len es k
      generalize rowK es k = ys at ho e5 hlr
      have HPP : Hid ((nthL es k).pl = (P : Int)) := hP
      have HU : Hid (u = (nthL es k).va) := hu
      clear hP hu hin
      go_wp2_with fail
      refine wp_region_noPanic ?_
      refine wp_region_held_drew (S := fun w' => w'.cell? ⟨b, off + k * 2, none⟩ = some (.int .i64 (P : Int)) ∧ w'.cell? ⟨b, off + k * 2 + 1, none⟩ = some (.int .i64 u)) (by kernel_rfl) ⟨c0, c1⟩ (fun hH => ?_)
      have qo : wr.drew.ownsRow w.heap.size 2 1 (.slice (some ⟨w.heap.size, 0, none⟩) 256 256) 256 (IV ys) := ho
      have qb := hb.drew
      clear ho hb c0 c1
      revert hH qo qb
      generalize wr.drew = W0
      intro hH qo qb
      refine tkG 0 12 hH ?_
      try simp only [Act.put, List.setIfInBounds_toArray, List.set_cons_zero, List.set_cons_succ]
      refine tkG 1 13 hH ?_
      try simp only [Act.put, List.setIfInBounds_toArray, List.set_cons_zero, List.set_cons_succ]
      refine tkG 2 14 hH ?_
      try simp only [Act.put, List.setIfInBounds_toArray, List.set_cons_zero, List.set_cons_succ]
      refine tkG 3 15 hH ?_
      try simp only [Act.put, List.setIfInBounds_toArray, List.set_cons_zero, List.set_cons_succ]
      refine tkG 4 16 hH ?_
      try simp only [Act.put, List.setIfInBounds_toArray, List.set_cons_zero, List.set_cons_succ]
      refine tkG 5 17 hH ?_
      try simp only [Act.put, List.setIfInBounds_toArray, List.set_cons_zero, List.set_cons_succ]
      refine tkG 6 18 hH ?_
      try simp only [Act.put, List.setIfInBounds_toArray, List.set_cons_zero, List.set_cons_succ]
      refine tkG 7 19 hH ?_
      try simp only [Act.put, List.setIfInBounds_toArray, List.set_cons_zero, List.set_cons_succ]
      refine tkG 8 20 hH ?_
      try simp only [Act.put, List.setIfInBounds_toArray, List.set_cons_zero, List.set_cons_succ]
      refine tkG 9 21 hH ?_
      try simp only [Act.put, List.setIfInBounds_toArray, List.set_cons_zero, List.set_cons_succ]
      refine tkG 10 22 hH ?_
      try simp only [Act.put, List.setIfInBounds_toArray, List.set_cons_zero, List.set_cons_succ]
      refine tkG 11 23 hH ?_
      try simp only [Act.put, List.setIfInBounds_toArray, List.set_cons_zero, List.set_cons_succ]
      refine tkG 12 24 hH ?_
      try simp only [Act.put, List.setIfInBounds_toArray, List.set_cons_zero, List.set_cons_succ]
      refine tkG 13 25 hH ?_
      try simp only [Act.put, List.setIfInBounds_toArray, List.set_cons_zero, List.set_cons_succ]
      refine tkG 14 26 hH ?_
      try simp only [Act.put, List.setIfInBounds_toArray, List.set_cons_zero, List.set_cons_succ]
      refine tkG 15 27 hH ?_
      try simp only [Act.put, List.setIfInBounds_toArray, List.set_cons_zero, List.set_cons_succ]
      refine wpAnyH_ready (rs := [16]) (by kernel_rfl) (by simp) ?_
      refine AllReadyH.cons rfl (fun K hK => ?_) AllReadyH.nil
      go_simp
      refine (l12Number_any (P : Int) u _ hiP hiu).mono ?_
      rintro e w1 ⟨rfl, hb1⟩
      replace qo := own_below qo hb1
      replace qb := qb.trans (hb1.mono qb.size)
      refine hK.out _ _ ⟨(hb1.cell (World.block_lt_of_cell? _ _ hH.1)).trans hH.1, (hb1.cell (World.block_lt_of_cell? _ _ hH.2)).trans hH.2⟩ (fun hA => ?_)
      clear hK K
      try simp only [Act.put, List.setIfInBounds_toArray, List.set_cons_zero, List.set_cons_succ]
      refine tkG 17 29 hA ?_
      try simp only [Act.put, List.setIfInBounds_toArray, List.set_cons_zero, List.set_cons_succ]
      have d0 : w1.cell? ⟨w.heap.size, P, none⟩ = some (.int .i64 (ys.getD P 0)) := by
        rw [qo.cellAt P (by omega), IV_get _ _ (by omega), getD_at]
      have f0 := qo.frozenAt P
      have R1 := (qo.stored P (.int .i64 (numP (P : Int) u))).1
      rw [← IV_set, e5.out] at R1
      have hA2 : (w1.setCell ⟨w.heap.size, P, none⟩ (.int .i64 (numP (P : Int) u))).cell? ⟨b, off + k * 2, none⟩ = some (.int .i64 (P : Int)) ∧ (w1.setCell ⟨w.heap.size, P, none⟩ (.int .i64 (numP (P : Int) u))).cell? ⟨b, off + k * 2 + 1, none⟩ = some (.int .i64 u) := by
        have hb2 := qb.setCell (p := ⟨w.heap.size, P, none⟩) (Nat.le_refl _) (.int .i64 (numP (P : Int) u))
        obtain ⟨b5, o5, h5, g0, g1⟩ := (HR.out.below hb2).at HN.out k hke
        cases h5
        exact ⟨g0.trans (by rw [HPP.out]), g1.trans (by rw [HU.out])⟩
      refine wpAnyH_ready (rs := [18]) (by kernel_rfl) (by simp) ?_
      refine AllReadyH.cons rfl (fun K hK => ?_) AllReadyH.nil
      go_simp
      refine hK.out _ _ hA2 (fun hC => ?_)
      clear hK K
      try simp only [Act.put, List.setIfInBounds_toArray, List.set_cons_zero, List.set_cons_succ]
      refine wpAnyH_done (by kernel_rfl) ?_ _
      refine NoPanic.normal ?_
      have H1 : Hid (World.ownsRow _ _ _ _ _ _ _) := R1
      have bz := qb.setCell (p := ⟨w.heap.size, P, none⟩) (Nat.le_refl _) (.int .i64 (numP (P : Int) u))
      clear hH hA hA2 hC R1 qo qb d0 f0
      go_wp2
      go_roundw
      case rel => exact ⟨k + 1, by omega, by go_num, H1.out, bz⟩
      case measure => simp [intOf]; omega
    · have hke : k = n := by omega
      subst hke
      have H1 : OwnI wr w.heap.size (.slice (some ⟨w.heap.size, 0, none⟩) 256 256) (rowG (fL es) 0) := by
        unfold OwnI
        rw [← rowK_end, rowK_len, ← HN.out]
        exact ho
      clear ho
      go_wp2
      go_ret
      exact ⟨_, rfl, H1, hb⟩
/-- The length of a slice. -/
def lenV : Value → Nat
  | .slice _ n _ => n
  | _ => 0
/-- The number of all. -/
def peakL (es : List Lef) : Int := grp (fL es) 8 0
theorem rowG_i64 (es : List Lef) (s j : Nat) : I64 ((rowG (fL es) s).getD j 0) := by
  by_cases h : j < 2 ^ (8 - s)
  · rw [rowG_get _ _ _ h]
    exact i64_small (grp_lo (fL_lo es) s j) (grp_hi (fL_hi es) s j)
  · have : (rowG (fL es) s).getD j 0 = 0 := by simp [List.getD, List.getElem?_eq_none (show (rowG (fL es) s).length ≤ j by rw [rowG_len]; omega)]
    rw [this]; exact ⟨by omega, by omega⟩
theorem rowG_half {s : Nat} (h : s < 8) : 2 ^ (8 - s) = 2 * 2 ^ (8 - (s + 1)) := by rw [show 8 - s = 8 - (s + 1) + 1 by omega, Nat.pow_succ, Nat.mul_comm]
theorem pow_le8 (s : Nat) : 2 ^ (8 - (s + 1)) ≤ 128 := Nat.pow_le_pow_right (by omega) (show 8 - (s + 1) ≤ 7 by omega)
theorem pow_pos8 (s : Nat) : 1 ≤ 2 ^ (8 - s) := Nat.one_le_two_pow
set_option maxHeartbeats 4000000 in
set_option maxRecDepth 100000 in
theorem specPeak_any (v : Value) (es : List Lef) (w : World) (hr : RdL w v es) :
    Calls Tryd.prog 18 #[v] w fun e w' => e = .returned (.int .i64 (if lefOk es = true then peakL es else -1)) ∧ Below w.heap.size w w' := by
  cases hk : lefOk es with
  | false =>
    have HL : ∀ u w', RdL w' u es → Calls Tryd.prog 23 #[u] w' fun e w'' => e = .returned (.bool false) ∧ Drew w' w'' := fun u w' h => by rw [← hk]; exact specLeavesOk_any u es w' h
    clear hk
    go_enter Tryd.func18, Tryd.ntmps18
    go_wp2_with (go_at_call 23; refine (HL _ _ hr).mono ?_; rintro e w1 ⟨rfl, hd1⟩)
    go_ret
    exact ⟨rfl, hd1.below⟩
  | true =>
    have HO : Hid (LefOk es) := lefOk_iff.1 hk
    have HL : ∀ u w', RdL w' u es → Calls Tryd.prog 23 #[u] w' fun e w'' => e = .returned (.bool true) ∧ Drew w' w'' := fun u w' h => by rw [← hk]; exact specLeavesOk_any u es w' h
    clear hk
    rw [if_pos rfl]
    go_enter Tryd.func18, Tryd.ntmps18
    go_wp2_with (first
      | (go_at_call 23; refine (HL _ _ hr).mono ?_; rintro e w1 ⟨rfl, hd1⟩)
      | (go_at_call 57; refine (l12Row_any _ es _ (hr.below hd1.below) HO.out).mono ?_; rintro e w2 ⟨u2, rfl, ho2, hb2⟩))
    have b1 := hd1.below
    have b2 := b1.trans (hb2.mono b1.size)
    have o2 := ho2.mono b1.size
    clear ho2 hb2 b1 hd1 HL
    obtain ⟨a2, c2, rfl, hc2⟩ : ∃ a c, u2 = .slice a 256 c ∧ 256 ≤ c := by
      obtain ⟨a, c, h1, h2, _⟩ := o2.rd
      rw [rowG_len] at h1 h2
      exact ⟨a, c, h1, h2⟩
    go_loopw [3] (fun s3 wr => ∃ (s n c : Nat) (a : Option Addr), s ≤ 8 ∧ s3 = .slice a n c ∧ Hid (n = 2 ^ (8 - s)) ∧ OwnI wr w.heap.size (.slice a n c) (rowG (fL es) s) ∧ Below w.heap.size w wr) (fun s3 _ => lenV s3)
    case atStart => exact ⟨0, 256, c2, a2, by omega, rfl, rfl, o2, b2⟩
    case round =>
      obtain ⟨s, n, c, a, hs, rfl, HN, ho, hb⟩ := hrel
      clear o2 b2 hc2
      by_cases hlt : s < 8
      · have hp := pow_pos8 (s + 1)
        have hh := rowG_half hlt
        have h8 := pow_le8 s
        have hn2 : 1 < n := by rw [HN.out]; omega
        have hn3 : (1 : Int) < (n : Int) := by omega
        have hn4 : 2 ^ (8 - (s + 1)) < n := by rw [HN.out]; omega
        have HN4 : Hid (2 ^ (8 - (s + 1)) < n) := hn4
        have HU : Hid (∀ W, RdI W (.slice a n c) (rowG (fL es) s) → Calls Tryd.prog 58 #[.slice a n c] W fun e w' => ∃ u, e = .returned u ∧ OwnI w' W.heap.size u (rowG (fL es) (s + 1)) ∧ Below W.heap.size W w') := fun W h => by
          rw [← upR_row _ _ hlt]
          exact l12Up_any _ _ _ W h (by rw [rowG_len, hh]) h8 (rowG_i64 es s)
        clear hp hh h8 hn2 hn4
        go_wp2_with fail
        refine (HU.out _ ho.rd).mono ?_
        rintro e w3 ⟨u3, rfl, ho3, hb3⟩
        obtain ⟨a3, c3, e3⟩ : ∃ a c, u3 = .slice a (2 ^ (8 - (s + 1))) c := by
          obtain ⟨a, c, h1, _⟩ := ho3.rd
          rw [rowG_len] at h1
          exact ⟨a, c, h1⟩
        obtain ⟨n3, hn3⟩ : ∃ n3, n3 = 2 ^ (8 - (s + 1)) := ⟨_, rfl⟩
        rw [← hn3] at e3
        have HN3 : Hid (n3 = 2 ^ (8 - (s + 1))) := hn3
        subst e3
        have b3 := hb.trans (hb3.mono hb.size)
        have o3 := ho3.mono hb.size
        clear ho hb ho3 hb3 hn3
        go_wp2
        go_roundw
        case rel => exact ⟨s + 1, n3, c3, a3, by omega, rfl, HN3, o3, b3⟩
        case measure => show n3 < n; rw [HN3.out]; exact HN4.out
      · have hs8 : s = 8 := by omega
        subst hs8
        have hn1 : n = 1 := HN.out
        subst hn1
        obtain ⟨b, off, rfl, c0⟩ := ho.rd.at 0 (by rw [rowG_len]; exact Nat.one_pos)
        have hc0 : wr.cell? ⟨b, off, none⟩ = some (.int .i64 (peakL es)) := c0
        obtain ⟨-, cc, hcc, h1, -⟩ := ho.rd
        clear c0
        go_wp2
        go_ret
        exact ⟨rfl, hb⟩
end Go.Proofs.YtmfopbkhlekhkaaDoor
