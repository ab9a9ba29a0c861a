/- The contract of the model's l16Done. -/
import Derived.Test.YtilhaokiohbeeaaGreatDoorG33
-- UNF Gen
namespace Go.Proofs.YtilhaokiohbeeaaGreatDoor
open Go.RowKit
theorem lst_no {bs : List Blk} {d pa vw : Int} {k : Nat} (h : nxtB d pa vw (bs.getD k ⟨0, 0, prfZ, [], 0⟩) = false) : lstB bs d pa vw (k + 1) = lstB bs d pa vw k := by
  rw [lstB, if_neg (by rw [h]; simp)]
theorem lst_yes {bs : List Blk} {d pa vw : Int} {k : Nat} (h : nxtB d pa vw (bs.getD k ⟨0, 0, prfZ, [], 0⟩) = true) : lstB bs d pa vw (k + 1) = some k := by
  rw [lstB, if_pos h]
theorem lst_lt {bs : List Blk} {d pa vw : Int} : ∀ {n k : Nat}, lstB bs d pa vw n = some k → k < n
  | 0, k, h => by simp [lstB] at h
  | n + 1, k, h => by
    rw [lstB] at h
    split at h
    · have := Option.some.inj h; omega
    · have := lst_lt h; omega
def dnStep (bs : List Blk) (dn : List Int) (o : Option Nat) (i : Nat) : Bool := match o with
  | none => false
  | some k => dnS bs (dn.drop (i + 1)) (dn.getD i 0) (bs.getD k ⟨0, 0, prfZ, [], 0⟩).vw
theorem dnS_step {bs : List Blk} {dn : List Int} {i : Nat} {pa vw : Int} (hi : i < dn.length) : dnS bs (dn.drop i) pa vw = dnStep bs dn (lstB bs (dn.getD i 0) pa vw bs.length) i := by
  rw [List.drop_eq_getElem_cons hi, dnS]
  have : dn.getD i 0 = dn[i] := by simp [List.getD, List.getElem?_eq_getElem hi]
  unfold dnStep
  rw [this]
  cases lstB bs dn[i] pa vw bs.length <;> rfl
theorem optI_neg (o : Option Nat) : optI o < 0 ↔ o = none := by
  cases o with
  | none => simp [optI]
  | some k => simp [optI]
set_option maxHeartbeats 4000000 in
set_option maxRecDepth 100000 in
theorem l16Done_any (v vd : Value) (Xs : List BlX) (dn : List Int) (w : World) (hr : RdBs w v Xs) (hi : InBs w Xs) (hs : SmB Xs) (hd : RdI w vd dn) :
    Calls Tryz.prog 79 #[v, vd] w fun e w' => e = .returned (.bool (dnS (bsOf Xs) dn 0 0)) ∧ Below w.heap.size w w' := by
  obtain ⟨a, cap, hv, hla, hma, -⟩ := id hr
  obtain ⟨a2, cap2, hv2, hla2, hma2, -⟩ := id hd
  obtain ⟨nn, hnn⟩ : ∃ nn, nn = Xs.length := ⟨_, rfl⟩
  obtain ⟨dl, hdl⟩ : ∃ dl, dl = dn.length := ⟨_, rfl⟩
  have HNN : Hid (nn = Xs.length) := hnn
  have HDL : Hid (dl = dn.length) := hdl
  rw [← hnn] at hv hla
  rw [← hdl] at hv2 hla2
  subst hv hv2
  unfold maxLen at hma hma2
  have HS : Hid (SmB Xs) := hs
  clear hnn hs hdl
  go_enter Tryz.func79, Tryz.ntmps79
  go_wp2
  go_loopw [5, 6, 7] (fun pv vv iv wr => ∃ (i : Nat) (pa vw : Int), i ≤ dl ∧ iv = .int .i64 i ∧ pv = .int .i64 pa ∧ vv = .int .i64 vw ∧ Hid (dnS (bsOf Xs) dn 0 0 = dnS (bsOf Xs) (dn.drop i) pa vw) ∧ Below w.heap.size w wr) (fun _ _ iv _ => dl - (intOf iv).toNat)
  case atStart => exact ⟨0, 0, 0, Nat.zero_le _, rfl, rfl, rfl, by unfold Hid; simp, Below.refl _ _⟩
  case round =>
    obtain ⟨i, pa, vw, hil, rfl, rfl, rfl, HJ, hb⟩ := hrel
    by_cases hlt : i < dl
    · have hdi : i < dn.length := by rw [← HDL.out]; exact hlt
      obtain ⟨b2, off2, rfl, hdc⟩ := (hd.below hb).at i hdi
      obtain ⟨d, hde⟩ : ∃ d, d = dn[i] := ⟨_, rfl⟩
      rw [← hde] at hdc
      have HST : Hid (dnS (bsOf Xs) dn 0 0 = dnStep (bsOf Xs) dn (lstB (bsOf Xs) d pa vw nn) i) := by
        unfold Hid
        rw [HJ.out, dnS_step hdi, hde, HNN.out, bsOf_len]
        simp [List.getD, List.getElem?_eq_getElem hdi]
      have HDE : Hid (dn.getD i 0 = d) := by unfold Hid; rw [hde]; simp [List.getD, List.getElem?_eq_getElem hdi]
      have hic : i < cap2 := by omega
      clear hde HJ
      go_wp2
      go_loopw [8, 9] (fun fv kv wk => ∃ (k : Nat) (y : Int), k ≤ nn ∧ kv = .int .i64 k ∧ fv = .int .i64 y ∧ Hid (y = optI (lstB (bsOf Xs) d pa vw k)) ∧ Below wr.heap.size wr wk) (fun _ kv _ => nn - (intOf kv).toNat)
      case atStart => exact ⟨0, -1, Nat.zero_le _, rfl, rfl, rfl, Below.refl _ _⟩
      case round =>
        obtain ⟨k, y, hkn, rfl, rfl, HV, hbk⟩ := hrel
        have hbw := hb.trans (hbk.mono hb.size)
        have hdc2 : wr.cell? ⟨b2, off2 + i, none⟩ = some (.int .i64 d) := (hbk.cell (World.block_lt_of_cell? _ _ hdc)).trans hdc
        by_cases hlk : k < nn
        · have hkl : k < Xs.length := by rw [← HNN.out]; exact hlk
          obtain ⟨b, off, rfl, hc⟩ := (hr.below hbw).atN k hkl
          have hri := (hi.below hbw).nth hkl
          have hkc : k < cap := by omega
          have HGD : Hid ((bsOf Xs).getD k ⟨0, 0, prfZ, [], 0⟩ = (nthBs Xs k).b) := bsOf_getD Xs k hkl
          have HC : Hid (∀ W, RdBl W (nthBs Xs k) → Calls Tryz.prog 78 #[.agg #[.int .i64 (nthBs Xs k).b.vw, .int .i64 (nthBs Xs k).b.pa, .int .i64 (nthBs Xs k).b.p.vw, .int .i64 (nthBs Xs k).b.p.nm, (nthBs Xs k).vs, (nthBs Xs k).vt, (nthBs Xs k).vm, .int .i64 (nthBs Xs k).b.sv]] W fun e w' => e = .returned (.int .i64 (namN (nthBs Xs k).b)) ∧ Below W.heap.size W w') := fun W h => l15NameOf_any _ W h (HS.out.nth hkl)
          generalize nthBs Xs k = t at hc hri HGD HC
          obtain ⟨m, hm⟩ : ∃ m, namN t.b = m := ⟨_, rfl⟩
          rw [hm] at HC
          have HNX : Hid (nxtB d pa vw ((bsOf Xs).getD k ⟨0, 0, prfZ, [], 0⟩) = ((m == d) && ((t.b.pa == pa) && (t.b.p.vw == vw)))) := by unfold Hid nxtB; rw [HGD.out, hm, beq_dec, beq_dec, beq_dec]
          unfold BlkAt at hc
          clear hm hkl HGD
          cases h1 : (m == d) with
          | false =>
            have HV2 : Hid (y = optI (lstB (bsOf Xs) d pa vw (k + 1))) := by unfold Hid; rw [lst_no (by rw [HNX.out, h1]; rfl)]; exact HV.out
            go_wp2_with fail
            refine wp_region_noPanic ?_
            refine wp_region_held_drew (S := fun w' => (w'.cell? ⟨b, off + k * 8, none⟩ = some (.int .i64 t.b.vw) ∧ w'.cell? ⟨b, off + k * 8 + 1, none⟩ = some (.int .i64 t.b.pa) ∧ w'.cell? ⟨b, off + k * 8 + 2, none⟩ = some (.int .i64 t.b.p.vw) ∧ w'.cell? ⟨b, off + k * 8 + 3, none⟩ = some (.int .i64 t.b.p.nm) ∧ w'.cell? ⟨b, off + k * 8 + 4, none⟩ = some (t.vs) ∧ w'.cell? ⟨b, off + k * 8 + 5, none⟩ = some (t.vt) ∧ w'.cell? ⟨b, off + k * 8 + 6, none⟩ = some (t.vm) ∧ w'.cell? ⟨b, off + k * 8 + 7, none⟩ = some (.int .i64 t.b.sv)) ∧ w'.cell? ⟨b2, off2 + i, none⟩ = some (.int .i64 d)) (by kernel_rfl) ⟨hc, hdc2⟩ (fun h0 => ?_)
            refine tkG 0 22 h0 ?_
            try simp only [Act.put, List.setIfInBounds_toArray, List.set_cons_zero, List.set_cons_succ]
            refine tkG 1 23 h0 ?_
            try simp only [Act.put, List.setIfInBounds_toArray, List.set_cons_zero, List.set_cons_succ]
            refine tkG 2 24 h0 ?_
            try simp only [Act.put, List.setIfInBounds_toArray, List.set_cons_zero, List.set_cons_succ]
            refine tkG 3 25 h0 ?_
            try simp only [Act.put, List.setIfInBounds_toArray, List.set_cons_zero, List.set_cons_succ]
            refine tkG 5 27 h0 ?_
            try simp only [Act.put, List.setIfInBounds_toArray, List.set_cons_zero, List.set_cons_succ]
            refine tkG 6 28 h0 ?_
            try simp only [Act.put, List.setIfInBounds_toArray, List.set_cons_zero, List.set_cons_succ]
            refine tkG 7 29 h0 ?_
            try simp only [Act.put, List.setIfInBounds_toArray, List.set_cons_zero, List.set_cons_succ]
            refine tkG 8 30 h0 ?_
            try simp only [Act.put, List.setIfInBounds_toArray, List.set_cons_zero, List.set_cons_succ]
            refine wpAnyH_ready (rs := [4]) (by kernel_rfl) (by simp) ?_
            refine AllReadyH.cons rfl (fun K hK => ?_) AllReadyH.nil
            go_simp
            refine (HC.out _ (hri.below (Below.refl _ _).drew)).mono ?_
            rintro e w9 ⟨rfl, hb9⟩
            have bz := hbk.drew.trans (hb9.mono hbk.size)
            refine hK.out _ _ (⟨BlkAt.below (w := wr.drew) (e := t) h0.1 hb9, (hb9.cell (World.block_lt_of_cell? _ _ h0.2)).trans h0.2⟩) (fun h1 => ?_)
            clear hK K
            try simp only [Act.put, List.setIfInBounds_toArray, List.set_cons_zero, List.set_cons_succ]
            clear h0
            refine tkG 9 31 h1 ?_
            try simp only [Act.put, List.setIfInBounds_toArray, List.set_cons_zero, List.set_cons_succ]
            refine tkG 10 32 h1 ?_
            try simp only [Act.put, List.setIfInBounds_toArray, List.set_cons_zero, List.set_cons_succ]
            refine tkS 11 33 h1 ?_
            try simp only [Act.put, List.setIfInBounds_toArray, List.set_cons_zero, List.set_cons_succ]
            refine tkS 12 34 h1 ?_
            try simp only [Act.put, List.setIfInBounds_toArray, List.set_cons_zero, List.set_cons_succ]
            refine tkS 13 35 h1 ?_
            try simp only [Act.put, List.setIfInBounds_toArray, List.set_cons_zero, List.set_cons_succ]
            refine tkS 14 36 h1 ?_
            try simp only [Act.put, List.setIfInBounds_toArray, List.set_cons_zero, List.set_cons_succ]
            refine tkS 15 37 h1 ?_
            try simp only [Act.put, List.setIfInBounds_toArray, List.set_cons_zero, List.set_cons_succ]
            refine tkS 16 38 h1 ?_
            try simp only [Act.put, List.setIfInBounds_toArray, List.set_cons_zero, List.set_cons_succ]
            refine tkS 17 39 h1 ?_
            try simp only [Act.put, List.setIfInBounds_toArray, List.set_cons_zero, List.set_cons_succ]
            refine tkG 18 40 h1 ?_
            try simp only [Act.put, List.setIfInBounds_toArray, List.set_cons_zero, List.set_cons_succ]
            refine tkG 19 41 h1 ?_
            try simp only [Act.put, List.setIfInBounds_toArray, List.set_cons_zero, List.set_cons_succ]
            refine tkS 20 42 h1 ?_
            try simp only [Act.put, List.setIfInBounds_toArray, List.set_cons_zero, List.set_cons_succ]
            refine tkS 21 43 h1 ?_
            try simp only [Act.put, List.setIfInBounds_toArray, List.set_cons_zero, List.set_cons_succ]
            refine tkS 22 44 h1 ?_
            try simp only [Act.put, List.setIfInBounds_toArray, List.set_cons_zero, List.set_cons_succ]
            refine tkS 23 45 h1 ?_
            try simp only [Act.put, List.setIfInBounds_toArray, List.set_cons_zero, List.set_cons_succ]
            refine tkS 24 46 h1 ?_
            try simp only [Act.put, List.setIfInBounds_toArray, List.set_cons_zero, List.set_cons_succ]
            refine tkS 25 47 h1 ?_
            try simp only [Act.put, List.setIfInBounds_toArray, List.set_cons_zero, List.set_cons_succ]
            refine tkS 26 48 h1 ?_
            try simp only [Act.put, List.setIfInBounds_toArray, List.set_cons_zero, List.set_cons_succ]
            refine tkS 27 49 h1 ?_
            try simp only [Act.put, List.setIfInBounds_toArray, List.set_cons_zero, List.set_cons_succ]
            refine tkG 28 50 h1 ?_
            try simp only [Act.put, List.setIfInBounds_toArray, List.set_cons_zero, List.set_cons_succ]
            refine wpAnyH_done (by kernel_rfl) ?_ _
            refine NoPanic.normal ?_
            clear h1 hc hri HC
            go_wp2
            go_roundw
            case rel => exact ⟨k + 1, y, by omega, by go_num, rfl, HV2, bz⟩
            case measure => simp [intOf]; omega
          | true =>
            cases h2 : (t.b.pa == pa) with
            | false =>
              have HV2 : Hid (y = optI (lstB (bsOf Xs) d pa vw (k + 1))) := by unfold Hid; rw [lst_no (by rw [HNX.out, h1, h2]; rfl)]; exact HV.out
              go_wp2_with fail
              refine wp_region_noPanic ?_
              refine wp_region_held_drew (S := fun w' => (w'.cell? ⟨b, off + k * 8, none⟩ = some (.int .i64 t.b.vw) ∧ w'.cell? ⟨b, off + k * 8 + 1, none⟩ = some (.int .i64 t.b.pa) ∧ w'.cell? ⟨b, off + k * 8 + 2, none⟩ = some (.int .i64 t.b.p.vw) ∧ w'.cell? ⟨b, off + k * 8 + 3, none⟩ = some (.int .i64 t.b.p.nm) ∧ w'.cell? ⟨b, off + k * 8 + 4, none⟩ = some (t.vs) ∧ w'.cell? ⟨b, off + k * 8 + 5, none⟩ = some (t.vt) ∧ w'.cell? ⟨b, off + k * 8 + 6, none⟩ = some (t.vm) ∧ w'.cell? ⟨b, off + k * 8 + 7, none⟩ = some (.int .i64 t.b.sv)) ∧ w'.cell? ⟨b2, off2 + i, none⟩ = some (.int .i64 d)) (by kernel_rfl) ⟨hc, hdc2⟩ (fun h0 => ?_)
              refine tkG 0 22 h0 ?_
              try simp only [Act.put, List.setIfInBounds_toArray, List.set_cons_zero, List.set_cons_succ]
              refine tkG 1 23 h0 ?_
              try simp only [Act.put, List.setIfInBounds_toArray, List.set_cons_zero, List.set_cons_succ]
              refine tkG 2 24 h0 ?_
              try simp only [Act.put, List.setIfInBounds_toArray, List.set_cons_zero, List.set_cons_succ]
              refine tkG 3 25 h0 ?_
              try simp only [Act.put, List.setIfInBounds_toArray, List.set_cons_zero, List.set_cons_succ]
              refine tkG 5 27 h0 ?_
              try simp only [Act.put, List.setIfInBounds_toArray, List.set_cons_zero, List.set_cons_succ]
              refine tkG 6 28 h0 ?_
              try simp only [Act.put, List.setIfInBounds_toArray, List.set_cons_zero, List.set_cons_succ]
              refine tkG 7 29 h0 ?_
              try simp only [Act.put, List.setIfInBounds_toArray, List.set_cons_zero, List.set_cons_succ]
              refine tkG 8 30 h0 ?_
              try simp only [Act.put, List.setIfInBounds_toArray, List.set_cons_zero, List.set_cons_succ]
              refine wpAnyH_ready (rs := [4]) (by kernel_rfl) (by simp) ?_
              refine AllReadyH.cons rfl (fun K hK => ?_) AllReadyH.nil
              go_simp
              refine (HC.out _ (hri.below (Below.refl _ _).drew)).mono ?_
              rintro e w9 ⟨rfl, hb9⟩
              have bz := hbk.drew.trans (hb9.mono hbk.size)
              refine hK.out _ _ (⟨BlkAt.below (w := wr.drew) (e := t) h0.1 hb9, (hb9.cell (World.block_lt_of_cell? _ _ h0.2)).trans h0.2⟩) (fun h1 => ?_)
              clear hK K
              try simp only [Act.put, List.setIfInBounds_toArray, List.set_cons_zero, List.set_cons_succ]
              clear h0
              refine tkG 9 31 h1 ?_
              try simp only [Act.put, List.setIfInBounds_toArray, List.set_cons_zero, List.set_cons_succ]
              refine tkG 10 32 h1 ?_
              try simp only [Act.put, List.setIfInBounds_toArray, List.set_cons_zero, List.set_cons_succ]
              refine tkG 11 33 h1 ?_
              try simp only [Act.put, List.setIfInBounds_toArray, List.set_cons_zero, List.set_cons_succ]
              refine tkG 12 34 h1 ?_
              try simp only [Act.put, List.setIfInBounds_toArray, List.set_cons_zero, List.set_cons_succ]
              refine tkG 13 35 h1 ?_
              try simp only [Act.put, List.setIfInBounds_toArray, List.set_cons_zero, List.set_cons_succ]
              refine tkG 14 36 h1 ?_
              try simp only [Act.put, List.setIfInBounds_toArray, List.set_cons_zero, List.set_cons_succ]
              refine tkG 15 37 h1 ?_
              try simp only [Act.put, List.setIfInBounds_toArray, List.set_cons_zero, List.set_cons_succ]
              refine tkG 16 38 h1 ?_
              try simp only [Act.put, List.setIfInBounds_toArray, List.set_cons_zero, List.set_cons_succ]
              refine tkG 17 39 h1 ?_
              try simp only [Act.put, List.setIfInBounds_toArray, List.set_cons_zero, List.set_cons_succ]
              refine tkG 18 40 h1 ?_
              try simp only [Act.put, List.setIfInBounds_toArray, List.set_cons_zero, List.set_cons_succ]
              refine tkG 19 41 h1 ?_
              try simp only [Act.put, List.setIfInBounds_toArray, List.set_cons_zero, List.set_cons_succ]
              refine tkS 20 42 h1 ?_
              try simp only [Act.put, List.setIfInBounds_toArray, List.set_cons_zero, List.set_cons_succ]
              refine tkS 21 43 h1 ?_
              try simp only [Act.put, List.setIfInBounds_toArray, List.set_cons_zero, List.set_cons_succ]
              refine tkS 22 44 h1 ?_
              try simp only [Act.put, List.setIfInBounds_toArray, List.set_cons_zero, List.set_cons_succ]
              refine tkS 23 45 h1 ?_
              try simp only [Act.put, List.setIfInBounds_toArray, List.set_cons_zero, List.set_cons_succ]
              refine tkS 24 46 h1 ?_
              try simp only [Act.put, List.setIfInBounds_toArray, List.set_cons_zero, List.set_cons_succ]
              refine tkS 25 47 h1 ?_
              try simp only [Act.put, List.setIfInBounds_toArray, List.set_cons_zero, List.set_cons_succ]
              refine tkS 26 48 h1 ?_
              try simp only [Act.put, List.setIfInBounds_toArray, List.set_cons_zero, List.set_cons_succ]
              refine tkS 27 49 h1 ?_
              try simp only [Act.put, List.setIfInBounds_toArray, List.set_cons_zero, List.set_cons_succ]
              refine tkG 28 50 h1 ?_
              try simp only [Act.put, List.setIfInBounds_toArray, List.set_cons_zero, List.set_cons_succ]
              refine wpAnyH_done (by kernel_rfl) ?_ _
              refine NoPanic.normal ?_
              clear h1 h2 hc hri HC
              go_wp2
              go_roundw
              case rel => exact ⟨k + 1, y, by omega, by go_num, rfl, HV2, bz⟩
              case measure => simp [intOf]; omega
            | true =>
              cases h3 : (t.b.p.vw == vw) with
              | false =>
                have HV2 : Hid (y = optI (lstB (bsOf Xs) d pa vw (k + 1))) := by unfold Hid; rw [lst_no (by rw [HNX.out, h1, h2, h3]; rfl)]; exact HV.out
                go_wp2_with fail
                refine wp_region_noPanic ?_
                refine wp_region_held_drew (S := fun w' => (w'.cell? ⟨b, off + k * 8, none⟩ = some (.int .i64 t.b.vw) ∧ w'.cell? ⟨b, off + k * 8 + 1, none⟩ = some (.int .i64 t.b.pa) ∧ w'.cell? ⟨b, off + k * 8 + 2, none⟩ = some (.int .i64 t.b.p.vw) ∧ w'.cell? ⟨b, off + k * 8 + 3, none⟩ = some (.int .i64 t.b.p.nm) ∧ w'.cell? ⟨b, off + k * 8 + 4, none⟩ = some (t.vs) ∧ w'.cell? ⟨b, off + k * 8 + 5, none⟩ = some (t.vt) ∧ w'.cell? ⟨b, off + k * 8 + 6, none⟩ = some (t.vm) ∧ w'.cell? ⟨b, off + k * 8 + 7, none⟩ = some (.int .i64 t.b.sv)) ∧ w'.cell? ⟨b2, off2 + i, none⟩ = some (.int .i64 d)) (by kernel_rfl) ⟨hc, hdc2⟩ (fun h0 => ?_)
                refine tkG 0 22 h0 ?_
                try simp only [Act.put, List.setIfInBounds_toArray, List.set_cons_zero, List.set_cons_succ]
                refine tkG 1 23 h0 ?_
                try simp only [Act.put, List.setIfInBounds_toArray, List.set_cons_zero, List.set_cons_succ]
                refine tkG 2 24 h0 ?_
                try simp only [Act.put, List.setIfInBounds_toArray, List.set_cons_zero, List.set_cons_succ]
                refine tkG 3 25 h0 ?_
                try simp only [Act.put, List.setIfInBounds_toArray, List.set_cons_zero, List.set_cons_succ]
                refine tkG 5 27 h0 ?_
                try simp only [Act.put, List.setIfInBounds_toArray, List.set_cons_zero, List.set_cons_succ]
                refine tkG 6 28 h0 ?_
                try simp only [Act.put, List.setIfInBounds_toArray, List.set_cons_zero, List.set_cons_succ]
                refine tkG 7 29 h0 ?_
                try simp only [Act.put, List.setIfInBounds_toArray, List.set_cons_zero, List.set_cons_succ]
                refine tkG 8 30 h0 ?_
                try simp only [Act.put, List.setIfInBounds_toArray, List.set_cons_zero, List.set_cons_succ]
                refine wpAnyH_ready (rs := [4]) (by kernel_rfl) (by simp) ?_
                refine AllReadyH.cons rfl (fun K hK => ?_) AllReadyH.nil
                go_simp
                refine (HC.out _ (hri.below (Below.refl _ _).drew)).mono ?_
                rintro e w9 ⟨rfl, hb9⟩
                have bz := hbk.drew.trans (hb9.mono hbk.size)
                refine hK.out _ _ (⟨BlkAt.below (w := wr.drew) (e := t) h0.1 hb9, (hb9.cell (World.block_lt_of_cell? _ _ h0.2)).trans h0.2⟩) (fun h1 => ?_)
                clear hK K
                try simp only [Act.put, List.setIfInBounds_toArray, List.set_cons_zero, List.set_cons_succ]
                clear h0
                refine tkG 9 31 h1 ?_
                try simp only [Act.put, List.setIfInBounds_toArray, List.set_cons_zero, List.set_cons_succ]
                refine tkG 10 32 h1 ?_
                try simp only [Act.put, List.setIfInBounds_toArray, List.set_cons_zero, List.set_cons_succ]
                refine tkG 11 33 h1 ?_
                try simp only [Act.put, List.setIfInBounds_toArray, List.set_cons_zero, List.set_cons_succ]
                refine tkG 12 34 h1 ?_
                try simp only [Act.put, List.setIfInBounds_toArray, List.set_cons_zero, List.set_cons_succ]
                refine tkG 13 35 h1 ?_
                try simp only [Act.put, List.setIfInBounds_toArray, List.set_cons_zero, List.set_cons_succ]
                refine tkG 14 36 h1 ?_
                try simp only [Act.put, List.setIfInBounds_toArray, List.set_cons_zero, List.set_cons_succ]
                refine tkG 15 37 h1 ?_
                try simp only [Act.put, List.setIfInBounds_toArray, List.set_cons_zero, List.set_cons_succ]
                refine tkG 16 38 h1 ?_
                try simp only [Act.put, List.setIfInBounds_toArray, List.set_cons_zero, List.set_cons_succ]
                refine tkG 17 39 h1 ?_
                try simp only [Act.put, List.setIfInBounds_toArray, List.set_cons_zero, List.set_cons_succ]
                refine tkG 18 40 h1 ?_
                try simp only [Act.put, List.setIfInBounds_toArray, List.set_cons_zero, List.set_cons_succ]
                refine tkG 19 41 h1 ?_
                try simp only [Act.put, List.setIfInBounds_toArray, List.set_cons_zero, List.set_cons_succ]
                refine tkG 20 42 h1 ?_
                try simp only [Act.put, List.setIfInBounds_toArray, List.set_cons_zero, List.set_cons_succ]
                refine tkG 21 43 h1 ?_
                try simp only [Act.put, List.setIfInBounds_toArray, List.set_cons_zero, List.set_cons_succ]
                refine tkG 22 44 h1 ?_
                try simp only [Act.put, List.setIfInBounds_toArray, List.set_cons_zero, List.set_cons_succ]
                refine tkG 23 45 h1 ?_
                try simp only [Act.put, List.setIfInBounds_toArray, List.set_cons_zero, List.set_cons_succ]
                refine tkG 24 46 h1 ?_
                try simp only [Act.put, List.setIfInBounds_toArray, List.set_cons_zero, List.set_cons_succ]
                refine tkG 25 47 h1 ?_
                try simp only [Act.put, List.setIfInBounds_toArray, List.set_cons_zero, List.set_cons_succ]
                refine tkG 26 48 h1 ?_
                try simp only [Act.put, List.setIfInBounds_toArray, List.set_cons_zero, List.set_cons_succ]
                refine tkG 27 49 h1 ?_
                try simp only [Act.put, List.setIfInBounds_toArray, List.set_cons_zero, List.set_cons_succ]
                refine tkG 28 50 h1 ?_
                try simp only [Act.put, List.setIfInBounds_toArray, List.set_cons_zero, List.set_cons_succ]
                refine wpAnyH_done (by kernel_rfl) ?_ _
                refine NoPanic.normal ?_
                clear h1 h2 h3 hc hri HC
                go_wp2
                go_roundw
                case rel => exact ⟨k + 1, y, by omega, by go_num, rfl, HV2, bz⟩
                case measure => simp [intOf]; omega
              | true =>
                have HV2 : Hid ((k : Int) = optI (lstB (bsOf Xs) d pa vw (k + 1))) := by unfold Hid; rw [lst_yes (by rw [HNX.out, h1, h2, h3]; rfl)]; rfl
                go_wp2_with fail
                refine wp_region_noPanic ?_
                refine wp_region_held_drew (S := fun w' => (w'.cell? ⟨b, off + k * 8, none⟩ = some (.int .i64 t.b.vw) ∧ w'.cell? ⟨b, off + k * 8 + 1, none⟩ = some (.int .i64 t.b.pa) ∧ w'.cell? ⟨b, off + k * 8 + 2, none⟩ = some (.int .i64 t.b.p.vw) ∧ w'.cell? ⟨b, off + k * 8 + 3, none⟩ = some (.int .i64 t.b.p.nm) ∧ w'.cell? ⟨b, off + k * 8 + 4, none⟩ = some (t.vs) ∧ w'.cell? ⟨b, off + k * 8 + 5, none⟩ = some (t.vt) ∧ w'.cell? ⟨b, off + k * 8 + 6, none⟩ = some (t.vm) ∧ w'.cell? ⟨b, off + k * 8 + 7, none⟩ = some (.int .i64 t.b.sv)) ∧ w'.cell? ⟨b2, off2 + i, none⟩ = some (.int .i64 d)) (by kernel_rfl) ⟨hc, hdc2⟩ (fun h0 => ?_)
                refine tkG 0 22 h0 ?_
                try simp only [Act.put, List.setIfInBounds_toArray, List.set_cons_zero, List.set_cons_succ]
                refine tkG 1 23 h0 ?_
                try simp only [Act.put, List.setIfInBounds_toArray, List.set_cons_zero, List.set_cons_succ]
                refine tkG 2 24 h0 ?_
                try simp only [Act.put, List.setIfInBounds_toArray, List.set_cons_zero, List.set_cons_succ]
                refine tkG 3 25 h0 ?_
                try simp only [Act.put, List.setIfInBounds_toArray, List.set_cons_zero, List.set_cons_succ]
                refine tkG 5 27 h0 ?_
                try simp only [Act.put, List.setIfInBounds_toArray, List.set_cons_zero, List.set_cons_succ]
                refine tkG 6 28 h0 ?_
                try simp only [Act.put, List.setIfInBounds_toArray, List.set_cons_zero, List.set_cons_succ]
                refine tkG 7 29 h0 ?_
                try simp only [Act.put, List.setIfInBounds_toArray, List.set_cons_zero, List.set_cons_succ]
                refine tkG 8 30 h0 ?_
                try simp only [Act.put, List.setIfInBounds_toArray, List.set_cons_zero, List.set_cons_succ]
                refine wpAnyH_ready (rs := [4]) (by kernel_rfl) (by simp) ?_
                refine AllReadyH.cons rfl (fun K hK => ?_) AllReadyH.nil
                go_simp
                refine (HC.out _ (hri.below (Below.refl _ _).drew)).mono ?_
                rintro e w9 ⟨rfl, hb9⟩
                have bz := hbk.drew.trans (hb9.mono hbk.size)
                refine hK.out _ _ (⟨BlkAt.below (w := wr.drew) (e := t) h0.1 hb9, (hb9.cell (World.block_lt_of_cell? _ _ h0.2)).trans h0.2⟩) (fun h1 => ?_)
                clear hK K
                try simp only [Act.put, List.setIfInBounds_toArray, List.set_cons_zero, List.set_cons_succ]
                clear h0
                refine tkG 9 31 h1 ?_
                try simp only [Act.put, List.setIfInBounds_toArray, List.set_cons_zero, List.set_cons_succ]
                refine tkG 10 32 h1 ?_
                try simp only [Act.put, List.setIfInBounds_toArray, List.set_cons_zero, List.set_cons_succ]
                refine tkG 11 33 h1 ?_
                try simp only [Act.put, List.setIfInBounds_toArray, List.set_cons_zero, List.set_cons_succ]
                refine tkG 12 34 h1 ?_
                try simp only [Act.put, List.setIfInBounds_toArray, List.set_cons_zero, List.set_cons_succ]
                refine tkG 13 35 h1 ?_
                try simp only [Act.put, List.setIfInBounds_toArray, List.set_cons_zero, List.set_cons_succ]
                refine tkG 14 36 h1 ?_
                try simp only [Act.put, List.setIfInBounds_toArray, List.set_cons_zero, List.set_cons_succ]
                refine tkG 15 37 h1 ?_
                try simp only [Act.put, List.setIfInBounds_toArray, List.set_cons_zero, List.set_cons_succ]
                refine tkG 16 38 h1 ?_
                try simp only [Act.put, List.setIfInBounds_toArray, List.set_cons_zero, List.set_cons_succ]
                refine tkG 17 39 h1 ?_
                try simp only [Act.put, List.setIfInBounds_toArray, List.set_cons_zero, List.set_cons_succ]
                refine tkG 18 40 h1 ?_
                try simp only [Act.put, List.setIfInBounds_toArray, List.set_cons_zero, List.set_cons_succ]
                refine tkG 19 41 h1 ?_
                try simp only [Act.put, List.setIfInBounds_toArray, List.set_cons_zero, List.set_cons_succ]
                refine tkG 20 42 h1 ?_
                try simp only [Act.put, List.setIfInBounds_toArray, List.set_cons_zero, List.set_cons_succ]
                refine tkG 21 43 h1 ?_
                try simp only [Act.put, List.setIfInBounds_toArray, List.set_cons_zero, List.set_cons_succ]
                refine tkG 22 44 h1 ?_
                try simp only [Act.put, List.setIfInBounds_toArray, List.set_cons_zero, List.set_cons_succ]
                refine tkG 23 45 h1 ?_
                try simp only [Act.put, List.setIfInBounds_toArray, List.set_cons_zero, List.set_cons_succ]
                refine tkG 24 46 h1 ?_
                try simp only [Act.put, List.setIfInBounds_toArray, List.set_cons_zero, List.set_cons_succ]
                refine tkG 25 47 h1 ?_
                try simp only [Act.put, List.setIfInBounds_toArray, List.set_cons_zero, List.set_cons_succ]
                refine tkG 26 48 h1 ?_
                try simp only [Act.put, List.setIfInBounds_toArray, List.set_cons_zero, List.set_cons_succ]
                refine tkG 27 49 h1 ?_
                try simp only [Act.put, List.setIfInBounds_toArray, List.set_cons_zero, List.set_cons_succ]
                refine tkG 28 50 h1 ?_
                try simp only [Act.put, List.setIfInBounds_toArray, List.set_cons_zero, List.set_cons_succ]
                refine wpAnyH_done (by kernel_rfl) ?_ _
                refine NoPanic.normal ?_
                clear h1 h2 h3 hc hri HC
                go_wp2
                go_roundw
                case rel => exact ⟨k + 1, k, by omega, by go_num, rfl, HV2, bz⟩
                case measure => simp [intOf]; omega
        · have hke : k = nn := by omega
          have HY : Hid (y = optI (lstB (bsOf Xs) d pa vw nn)) := by rw [← hke]; exact HV
          clear HV hke
          obtain ⟨o, ho⟩ : ∃ o, lstB (bsOf Xs) d pa vw nn = o := ⟨_, rfl⟩
          rw [ho] at HY HST
          cases o with
          | none =>
            have hy : y = -1 := HY.out
            subst hy
            go_wp2
            go_ret
            rw [HST.out]
            exact ⟨rfl, hbw⟩
          | some q =>
            have hq : q < nn := lst_lt ho
            have hy : y = (q : Int) := HY.out
            have hql : q < Xs.length := by rw [← HNN.out]; exact hq
            obtain ⟨b, off, rfl, hc⟩ := (hr.below hbw).atN q hql
            have hqc : q < cap := by omega
            have HGD : Hid ((bsOf Xs).getD q ⟨0, 0, prfZ, [], 0⟩ = (nthBs Xs q).b) := bsOf_getD Xs q hql
            generalize nthBs Xs q = t at hc HGD
            have HJ2 : Hid (dnS (bsOf Xs) dn 0 0 = dnS (bsOf Xs) (dn.drop (i + 1)) d t.b.vw) := by
              unfold Hid
              rw [HST.out]
              unfold dnStep
              simp only
              rw [HGD.out, HDE.out]
            obtain ⟨c0, -, -, -, -, -, -, -⟩ := id hc
            subst hy
            clear ho hc HY HGD hql
            go_wp2
            go_roundw
            case rel => exact ⟨i + 1, d, t.b.vw, by omega, by go_num, rfl, rfl, HJ2, hbw⟩
            case measure => simp [intOf]; omega
    · have hie : i = dl := by omega
      have HE : Hid (dnS (bsOf Xs) dn 0 0 = true) := by
        unfold Hid
        rw [HJ.out, hie, HDL.out, List.drop_length]
        rfl
      clear HJ
      go_wp2
      go_ret
      rw [HE.out]
      exact ⟨rfl, hb⟩
end Go.Proofs.YtilhaokiohbeeaaGreatDoor
