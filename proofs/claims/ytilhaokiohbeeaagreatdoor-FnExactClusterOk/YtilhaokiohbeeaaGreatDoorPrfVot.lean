/- The contract of the program's votes of a proof. -/
import Derived.Test.YtilhaokiohbeeaaGreatDoorG24
import Derived.Deep.RegionHeld3
-- UNF Gen
namespace Go.Proofs.YtilhaokiohbeeaaGreatDoor
open Go.RowKit
theorem ownVo_one (w : World) (x : Vot) : OwnVo (w.alloc (.cells #[.int .i64 x.vw, .int .i64 x.nm, .int .i64 x.sv, .int .i64 x.tg] 36)) w.heap.size (.slice (some ⟨w.heap.size, 0, none⟩) 1 1) [x] :=
  World.ownsRow_lit w #[.int .i64 x.vw, .int .i64 x.nm, .int .i64 x.sv, .int .i64 x.tg] 1 (Nat.le_refl _) (by unfold maxLen; omega) rfl
theorem szX (w : World) (o : Obj) : (w.alloc o).heap.size = w.heap.size + 1 := by simp
theorem ret_tb {u : Value} {a b : Bool} (h : a = b) : Ending.returned (.tuple #[u, .bool a]) = .returned (.tuple #[u, .bool b]) := by rw [h]
/-- Can the votes be told? -/
def votB (p : Prf) : Bool := decide (p.sv.length = p.tg.length ∧ p.sv.length ≤ 7)
/-- What votes leaves. -/
def VotesP (w : World) (p : Prf) (e : Ending) (w' : World) : Prop := ∃ u, e = .returned (.tuple #[u, .bool (votB p)]) ∧ OwnVo w' w.heap.size u (votesR p) ∧ Below w.heap.size w w'
set_option maxHeartbeats 4000000 in
set_option maxRecDepth 100000 in
theorem votes_at (p : Prf) (a1 a2 : Option Addr) (n1 c1 n2 c2 : Nat) (w : World) (h1 : RdI w (.slice a1 n1 c1) p.sv) (h2 : RdI w (.slice a2 n2 c2) p.tg) (e1 : n1 = p.sv.length) (e2 : n2 = p.tg.length) :
    Calls Tryz.prog 224 #[.agg #[.int .i64 p.vw, .int .i64 p.nm, .slice a1 n1 c1, .slice a2 n2 c2]] w fun e w' => VotesP w p e w' := by
  obtain ⟨_, _, hx1, hl1, hm1, -, -⟩ := id h1
  obtain ⟨_, _, hx2, hl2, hm2, -, -⟩ := id h2
  simp only [Value.slice.injEq] at hx1 hx2
  obtain ⟨-, -, rfl⟩ := hx1
  obtain ⟨-, -, rfl⟩ := hx2
  rw [← e1] at hl1
  rw [← e2] at hl2
  unfold maxLen at hm1 hm2
  have HRS : Hid (RdI w (.slice a1 n1 c1) p.sv) := h1
  have HRT : Hid (RdI w (.slice a2 n2 c2) p.tg) := h2
  have HN1 : Hid (n1 = p.sv.length) := e1
  have HN2 : Hid (n2 = p.tg.length) := e2
  have X0 := bx_new w 26 #[.int .i64 p.vw, .int .i64 p.nm, .slice a1 n1 c1, .slice a2 n2 c2]
  obtain ⟨p0, p1, p2, p3⟩ := X0.c4
  have HB0 : Hid (Below w.heap.size w (w.alloc (.cells #[.int .i64 p.vw, .int .i64 p.nm, .slice a1 n1 c1, .slice a2 n2 c2] 26))) := below1 w _
  obtain ⟨w2, hw2⟩ : ∃ w2, w2 = w.alloc (.cells #[.int .i64 p.vw, .int .i64 p.nm, .slice a1 n1 c1, .slice a2 n2 c2] 26) := ⟨_, rfl⟩
  clear h1 h2 e1 e2
  by_cases hl : n1 = n2
  · by_cases h7 : n1 ≤ 7
    · have HV : Hid (votesR p = votesL p ∧ votB p = true) := ⟨by unfold votesR; rw [if_pos ⟨by rw [← HN1.out, ← HN2.out]; exact hl, by rw [← HN1.out]; exact h7⟩], by unfold votB; exact decide_eq_true ⟨by rw [← HN1.out, ← HN2.out]; exact hl, by rw [← HN1.out]; exact h7⟩⟩
      subst hl
      have hne : ((n1 : Int) != (n1 : Int)) = false := by simp
      have h7d : ¬ (7 : Int) < (n1 : Int) := by omega
      have s2 : w2.heap.size = w.heap.size + 1 := by rw [hw2]; simp
      rw [← hw2] at X0 HB0
      go_enter Tryz.func224, Tryz.ntmps224
      go_wp2
      rw [← hw2]
      have O0 : OwnVo (w2.alloc (.cells #[] 36)) w2.heap.size (.slice (some ⟨w.heap.size + 1, 0, none⟩) 0 0) [] := by
        have h := ownVo_none w2
        rw [← s2]
        exact h
      have HX : Hid (Bx w2 w.heap.size 26 #[.int .i64 p.vw, .int .i64 p.nm, .slice a1 n1 c1, .slice a2 n1 c2]) := X0
      clear p0 p1 p2 p3 hw2 X0
      go_loopw [4, 25] (fun uu ii wr => ∃ (k : Nat) (ua : Option Addr) (un uc : Nat) (ys : List Vot), k ≤ n1 ∧ ii = .int .i64 k ∧ uu = .slice ua un uc ∧ Hid (OwnVo wr w2.heap.size (.slice ua un uc) ys) ∧ Hid (ys = (List.range k).map (vAt p)) ∧ Hid (Below w2.heap.size w2 wr)) (fun _ ii _ => n1 - (intOf ii).toNat)
      case atStart => exact ⟨0, some ⟨w.heap.size + 1, 0, none⟩, 0, 0, [], Nat.zero_le _, rfl, rfl, O0, rfl, (Below.refl _ _).alloc (Nat.le_refl _) _⟩
      case round =>
        obtain ⟨k, ua, un, uc, ys, hk, rfl, rfl, HO, HY, HW⟩ := hrel
        clear O0
        by_cases hlt : k < n1
        · have hks : k < p.sv.length := by rw [← HN1.out]; exact hlt
          have HYL : Hid (ys.length = k) := by unfold Hid; rw [HY.out]; simp
          obtain ⟨b1, o1, rfl, hc1⟩ := HRS.out.at k hks
          obtain ⟨b2, o2, rfl, hc2⟩ := HRT.out.at k (by rw [← HN2.out]; exact hlt)
          rw [← nI_eq] at hc1 hc2
          obtain ⟨y, hy⟩ : ∃ y, y = nI p.sv k := ⟨_, rfl⟩
          obtain ⟨t, ht⟩ : ∃ t, t = nI p.tg k := ⟨_, rfl⟩
          rw [← hy] at hc1
          rw [← ht] at hc2
          have HY2 : Hid (ys ++ [⟨p.vw, p.nm, y, t⟩] = (List.range (k + 1)).map (vAt p)) := by
            unfold Hid
            rw [HY.out, List.range_succ, List.map_append, hy, ht]; rfl
          have hk1 : (k : Int) < (n1 : Int) := by omega
          have HS : Hid (∀ V, Below w2.heap.size w2 V → V.cell? ⟨w.heap.size, 0, none⟩ = some (.int .i64 p.vw) ∧ V.cell? ⟨w.heap.size, 1, none⟩ = some (.int .i64 p.nm) ∧ V.cell? ⟨w.heap.size, 3, none⟩ = some (.slice (some ⟨b2, o2, none⟩) n1 c2) ∧ V.cell? ⟨b2, o2 + k, none⟩ = some (.int .i64 t)) := fun V hb => ⟨(HX.out.below hb).c4.1, (HX.out.below hb).c4.2.1, (HX.out.below hb).c4.2.2.2, ((Below.cell (HB0.out.trans (hb.mono HB0.out.size)) (p := ⟨b2, o2 + k, none⟩) (World.block_lt_of_cell? w _ hc2)).trans hc2)⟩
          have hcr : wr.cell? ⟨b1, o1 + k, none⟩ = some (.int .i64 y) := (Below.cell (HB0.out.trans (HW.out.mono HB0.out.size)) (p := ⟨b1, o1 + k, none⟩) (World.block_lt_of_cell? w _ hc1)).trans hc1
          clear hy ht hc1
          go_wp2_with fail
          refine wp_region_noPanic ?_
          refine wp_region_held_drew (S := fun w' => w'.cell? ⟨w.heap.size, 0, none⟩ = some (.int .i64 p.vw) ∧ w'.cell? ⟨w.heap.size, 1, none⟩ = some (.int .i64 p.nm) ∧ w'.cell? ⟨w.heap.size, 3, none⟩ = some (.slice (some ⟨b2, o2, none⟩) n1 c2) ∧ w'.cell? ⟨b2, o2 + k, none⟩ = some (.int .i64 t)) (by kernel_rfl) (HS.out _ HW.out.drew) (fun h0 => ?_)
          refine tkG 0 30 h0 ?_
          try simp only [Act.put, List.setIfInBounds_toArray, List.set_cons_zero, List.set_cons_succ]
          refine tkG 1 31 h0 ?_
          try simp only [Act.put, List.setIfInBounds_toArray, List.set_cons_zero, List.set_cons_succ]
          refine tkG 2 32 h0 ?_
          try simp only [Act.put, List.setIfInBounds_toArray, List.set_cons_zero, List.set_cons_succ]
          refine tkG 3 33 h0 ?_
          try simp only [Act.put, List.setIfInBounds_toArray, List.set_cons_zero, List.set_cons_succ]
          refine tkG 4 34 h0 ?_
          try simp only [Act.put, List.setIfInBounds_toArray, List.set_cons_zero, List.set_cons_succ]
          refine tkG 5 35 h0 ?_
          try simp only [Act.put, List.setIfInBounds_toArray, List.set_cons_zero, List.set_cons_succ]
          refine tkG 6 36 h0 ?_
          try simp only [Act.put, List.setIfInBounds_toArray, List.set_cons_zero, List.set_cons_succ]
          refine tkG 7 37 h0 ?_
          try simp only [Act.put, List.setIfInBounds_toArray, List.set_cons_zero, List.set_cons_succ]
          refine tkG 8 38 h0 ?_
          try simp only [Act.put, List.setIfInBounds_toArray, List.set_cons_zero, List.set_cons_succ]
          refine tkG 9 39 h0 ?_
          try simp only [Act.put, List.setIfInBounds_toArray, List.set_cons_zero, List.set_cons_succ]
          refine tkG 10 40 h0 ?_
          try simp only [Act.put, List.setIfInBounds_toArray, List.set_cons_zero, List.set_cons_succ]
          refine tkG 11 41 h0 ?_
          try simp only [Act.put, List.setIfInBounds_toArray, List.set_cons_zero, List.set_cons_succ]
          refine wpAnyH_ready (rs := [12]) (by kernel_rfl) (by simp) ?_
          refine AllReadyH.cons rfl (fun K hK => ?_) AllReadyH.nil
          refine step_objX rfl 42 rfl (.cells #[.int .i64 p.vw, .int .i64 p.nm, .int .i64 y, .int .i64 t] 36) (.slice (some ⟨wr.drew.heap.size, 0, none⟩) 1 1) (by go_simp; (try rfl)) ?_
          have hrow : RdVo (wr.drew.alloc (.cells #[.int .i64 p.vw, .int .i64 p.nm, .int .i64 y, .int .i64 t] 36)) (.slice (some ⟨wr.drew.heap.size, 0, none⟩) 1 1) [⟨p.vw, p.nm, y, t⟩] := (ownVo_one wr.drew _).rd
          have HW1 : Below w2.heap.size w2 (wr.drew.alloc (.cells #[.int .i64 p.vw, .int .i64 p.nm, .int .i64 y, .int .i64 t] 36)) := HW.out.drew.alloc HW.out.drew.size _
          have OW1 := OwnVo.below HO.out (w' := wr.drew.alloc (.cells #[.int .i64 p.vw, .int .i64 p.nm, .int .i64 y, .int .i64 t] 36)) ((Below.refl _ _).drew.alloc (by simp) _)
          refine hK.out _ _ (HS.out _ HW1) (fun h1 => ?_)
          clear hK K
          try simp only [Act.put, List.setIfInBounds_toArray, List.set_cons_zero, List.set_cons_succ]
          clear h0
          refine wpAnyH_ready (rs := [13]) (by kernel_rfl) (by simp) ?_
          refine AllReadyH.cons rfl (fun K hK => ?_) AllReadyH.nil
          refine step_append_votes rfl 43 rfl _ _ rfl w2.heap.size (.slice ua un uc) (.slice (some ⟨wr.drew.heap.size, 0, none⟩) 1 1) ys [⟨p.vw, p.nm, y, t⟩] rfl rfl OW1 hrow (by have := HYL.out; simp; omega) HW1.size ?_
          intro u2 W2 OW2 hg2
          have HW2 : Below w2.heap.size w2 W2 := HW1.grown hg2 HW1.size (fun q hq => (World.ownsRow.lt OW1 q hq).1)
          obtain ⟨ua, uc, hu2⟩ := ownSlX OW2
          have HO2 : Hid (OwnVo W2 w2.heap.size u2 (ys ++ [⟨p.vw, p.nm, y, t⟩])) := OW2
          clear OW2 hg2 OW1 hrow
          generalize (ys ++ [(⟨p.vw, p.nm, y, t⟩ : Vot)]).length = un at hu2
          subst hu2
          refine hK.out _ _ (HS.out _ HW2) (fun h2 => ?_)
          clear hK K
          try simp only [Act.put, List.setIfInBounds_toArray, List.set_cons_zero, List.set_cons_succ]
          clear h1
          refine tkG 14 4 h2 ?_
          try simp only [Act.put, List.setIfInBounds_toArray, List.set_cons_zero, List.set_cons_succ]
          refine wpAnyH_done (by kernel_rfl) ?_ _
          refine NoPanic.normal ?_
          have HWN : Hid (Below w2.heap.size w2 W2) := HW2
          clear HW1 HW2
          go_wp2
          go_roundw
          case rel => exact ⟨k + 1, ua, un, uc, _, by omega, by go_num, rfl, HO2, HY2, HWN⟩
          case measure => simp [intOf]; omega
        · have hke : k = n1 := by omega
          subst hke
          have RES : Hid (ys = votesR p) := by unfold Hid; rw [HV.out.1, HY.out, HN1.out]; rfl
          go_wp2
          go_ret2
          exact ⟨_, ret_tb HV.out.2.symm, by rw [← RES.out]; exact HO.out.mono HB0.out.size, HB0.out.trans (HW.out.mono HB0.out.size)⟩
    · have HV : Hid (votesR p = [] ∧ votB p = false) := ⟨by unfold votesR; rw [if_neg (fun h => h7 (by rw [HN1.out]; exact h.2))], by unfold votB; exact decide_eq_false (fun h => h7 (by rw [HN1.out]; exact h.2))⟩
      subst hl
      have hne : ((n1 : Int) != (n1 : Int)) = false := by simp
      have h7d : (7 : Int) < (n1 : Int) := by omega
      have O0 := ownVo_none (w.alloc (.cells #[.int .i64 p.vw, .int .i64 p.nm, .slice a1 n1 c1, .slice a2 n1 c2] 26))
      simp only [szX] at O0
      have BZ := HB0.out.alloc HB0.out.size (.cells #[] 36)
      clear hw2 w2 h7
      go_enter Tryz.func224, Tryz.ntmps224
      go_wp2
      go_ret2
      exact ⟨_, ret_tb HV.out.2.symm, by rw [HV.out.1]; exact O0.mono (by omega), BZ⟩
  · have HV : Hid (votesR p = [] ∧ votB p = false) := ⟨by unfold votesR; rw [if_neg (fun h => hl (by rw [HN1.out, HN2.out]; exact h.1))], by unfold votB; exact decide_eq_false (fun h => hl (by rw [HN1.out, HN2.out]; exact h.1))⟩
    have hne : ((n1 : Int) != (n2 : Int)) = true := by simp; omega
    have O0 := ownVo_none (w.alloc (.cells #[.int .i64 p.vw, .int .i64 p.nm, .slice a1 n1 c1, .slice a2 n2 c2] 26))
    simp only [szX] at O0
    have BZ := HB0.out.alloc HB0.out.size (.cells #[] 36)
    clear hw2 w2 hl
    go_enter Tryz.func224, Tryz.ntmps224
    go_wp2
    go_ret2
    exact ⟨_, ret_tb HV.out.2.symm, by rw [HV.out.1]; exact O0.mono (by omega), BZ⟩
end Go.Proofs.YtilhaokiohbeeaaGreatDoor
