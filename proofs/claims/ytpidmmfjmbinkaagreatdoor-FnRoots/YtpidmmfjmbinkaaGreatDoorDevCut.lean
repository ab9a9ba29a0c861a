/- The contracts of the model's Cut and Barrier. -/
import Derived.Test.YtpidmmfjmbinkaaGreatDoorG05
import Derived.Test.YtpidmmfjmbinkaaGreatDoorBoolBase
-- UNF Gen
namespace Go.Proofs.YtpidmmfjmbinkaaGreatDoor
open Go.RowKit
/-- Flags as a function: what is missing is false. -/
def keepOf (kp : List Bool) (i : Nat) : Bool := kp.getD i false
theorem keepOf_at {kp : List Bool} {i : Nat} (h : i < kp.length) : keepOf kp i = kp[i] := by simp [keepOf, List.getD, List.getElem?_eq_getElem h]
theorem keepOf_past {kp : List Bool} {i : Nat} (h : kp.length ≤ i) : keepOf kp i = false := by simp [keepOf, List.getD, List.getElem?_eq_none h]
theorem cutL_len (s : List ByteArray) (l : List Pat) (kp : Nat → Bool) : (cutL s l kp).length ≤ s.length := by
  unfold cutL
  split
  · rw [cutTo_len]; exact Nat.le_refl _
  · simp
theorem cutL_yes {s : List ByteArray} {l : List Pat} {kp : Nat → Bool} (h : devOk s l = true) : cutL s l kp = cutTo s l kp l.length := by unfold cutL; rw [h]; rfl
theorem cutL_no {s : List ByteArray} {l : List Pat} {kp : Nat → Bool} (h : devOk s l = false) : cutL s l kp = [] := by unfold cutL; rw [h]; rfl
theorem cut_end {s : List ByteArray} {l : List Pat} {kp : List Bool} {k : Nat} (hk : k ≤ l.length) (h : k = l.length ∨ kp.length ≤ k) : cutTo s l (keepOf kp) k = cutTo s l (keepOf kp) l.length := by
  rcases h with h | h
  · rw [h]
  · have := cutTo_past (s := s) (l := l) (kp := keepOf kp) (m := k) (l.length - k) (fun j hj => keepOf_past (Nat.le_trans h hj))
    rw [show k + (l.length - k) = l.length by omega] at this
    exact this.symm
theorem cutTo_step {s : List ByteArray} {l : List Pat} {kp : Nat → Bool} {k q : Nat} {t : ByteArray} (h : kp k = true) (hp : nthP l k = ⟨(q : Int), t⟩) : (cutTo s l kp k).set q t = cutTo s l kp (k + 1) := by
  show _ = if kp k then _ else _
  rw [h, hp]
  rfl
theorem cutTo_skip {s : List ByteArray} {l : List Pat} {kp : Nat → Bool} {k : Nat} (h : kp k = false) : cutTo s l kp k = cutTo s l kp (k + 1) := by
  show _ = if kp k then _ else _
  rw [h]
  rfl
set_option maxHeartbeats 8000000 in
set_option maxRecDepth 100000 in
theorem specCut_any (X : DvX) (vk : Value) (kp : List Bool) (w : World) (hx : RdDv w X) (hk : RdB w vk kp) :
    Calls Tryz.prog 42 #[.agg #[X.vs, X.vl], vk] w fun e w' => ToDv w (cutL X.secs X.late (keepOf kp)) [] e w' := by
  have HDO : Hid (∀ W, RdDv W X → Calls Tryz.prog 37 #[.agg #[X.vs, X.vl]] W fun e w' => e = .returned (.bool (devOk X.secs X.late)) ∧ Below W.heap.size W w') := fun W h => specDeviceOk_any X W h
  have HX : Hid (RdDv w X) := hx
  have HT0 : Hid (∀ (w : World) t, DvAt (w.alloc (.cells #[X.vs, X.vl] t)) w.heap.size X) := fun w t => dvAt_new w X t
  obtain ⟨sa, la, cs, cl, hvs, hvl, h1, h2, h3, h4⟩ := hx.slices
  have HDV : Hid (∀ W, DvAt W w.heap.size X → W.cell? ⟨w.heap.size, 0, none⟩ = some X.vs ∧ W.cell? ⟨w.heap.size, 1, none⟩ = some X.vl) := fun W h => h
  have HRS : Hid (RdS w X.vs X.secs) := hx.secs
  have HRL : Hid (RdPt w X.vl X.late) := hx.late
  have HNI : Hid (NilOk X.vs) := hx.nil
  obtain ⟨ka, kc, hvk, hk1, hk2, -⟩ := id hk
  unfold maxLen at hk2
  obtain ⟨sn, hsn⟩ : ∃ sn, sn = X.secs.length := ⟨_, rfl⟩
  obtain ⟨ln, hln⟩ : ∃ ln, ln = X.late.length := ⟨_, rfl⟩
  obtain ⟨kn, hkn⟩ : ∃ kn, kn = kp.length := ⟨_, rfl⟩
  rw [← hsn] at hvs h1
  rw [← hln] at hvl h3
  rw [← hkn] at hvk hk1
  have HSN : Hid (sn = X.secs.length) := hsn
  have HLN : Hid (ln = X.late.length) := hln
  have HKN : Hid (kn = kp.length) := hkn
  have HB : Hid (devOk X.secs X.late = true → 1 ≤ sn ∧ sn ≤ 16 ∧ ln ≤ 30 ∧ ∀ i, i < ln → pOk sn (nthP X.late i) = true) := fun h => by have := (devOk_iff _ _).1 h; rw [hsn, hln]; exact ⟨this.1, this.2.1, this.2.2.1, this.2.2.2.2⟩
  have HYES : Hid (devOk X.secs X.late = true → cutL X.secs X.late (keepOf kp) = cutTo X.secs X.late (keepOf kp) X.late.length) := fun h => cutL_yes h
  have HNO : Hid (devOk X.secs X.late = false → cutL X.secs X.late (keepOf kp) = []) := fun h => cutL_no h
  generalize cutL X.secs X.late (keepOf kp) = R at HYES HNO ⊢
  rw [hvs, hvl] at HDO HT0 HDV ⊢
  rw [hvs] at HRS HNI
  rw [hvl] at HRL
  subst hvk
  have HK : Hid (RdB w (.slice ka kn kc) kp) := hk
  clear hx hvs hvl hk
  have t0 := HT0.out w 27
  have b0 := below1 w (.cells #[.slice sa sn cs, .slice la ln cl] 27)
  obtain ⟨W0, hW0⟩ : ∃ W0, W0 = w.alloc (.cells #[.slice sa sn cs, .slice la ln cl] 27) := ⟨_, rfl⟩
  have s0 : W0.heap.size = w.heap.size + 1 := by rw [hW0]; simp
  rw [← hW0] at t0 b0
  have r1 := boxDv_new W0 (.slice none 0 0) (.slice none 0 0)
  have bb1 := below1 W0 (.cells #[.slice none 0 0, .slice none 0 0] 27)
  obtain ⟨W1, hW1⟩ : ∃ W1, W1 = W0.alloc (.cells #[.slice none 0 0, .slice none 0 0] 27) := ⟨_, rfl⟩
  have s1 : W1.heap.size = w.heap.size + 2 := by rw [hW1]; simp [s0]
  rw [← hW1] at r1 bb1
  rw [s0] at r1
  have t1 := t0.below bb1
  have b1 := b0.trans (bb1.mono b0.size)
  have HW : Hid ((w.alloc (.cells #[.slice sa sn cs, .slice la ln cl] 27)).alloc (.cells #[.slice none 0 0, .slice none 0 0] 27) = W1) := by unfold Hid; rw [hW1, hW0]
  obtain ⟨d0, d1⟩ := HDV.out _ t1
  rw [← HW.out] at d0 d1
  clear t0 b0 bb1 hW0 hW1 s0 hsn hln hkn
  go_enter Tryz.func42, Tryz.ntmps42
  go_wp2_with fail
  rw [HW.out]
  refine (HDO.out _ (HX.out.below b1)).mono ?_
  rintro e w2 ⟨rfl, hb2⟩
  have t2 := t1.below hb2
  have r2 := r1.below hb2
  have b2 := b1.trans (hb2.mono b1.size)
  have s2 := hb2.size
  rw [s1] at s2
  clear t1 r1 b1 hb2 d0 d1 HW HDO s1
  obtain ⟨f0, f1, f2, f3⟩ := r2.facts
  cases hok : devOk X.secs X.late with
  | false =>
    obtain rfl := HNO.out hok
    have z := (r2.set0 (u := .slice none 0 0)).set1 (u := .slice none 0 0)
    obtain ⟨k0, k1, -, -⟩ := z.facts
    have HF : Hid (ToDv w [] [] (.returned (.agg #[.slice none 0 0, .slice none 0 0])) ((w2.setCell ⟨w.heap.size + 1, 0, none⟩ (.slice none 0 0)).setCell ⟨w.heap.size + 1, 1, none⟩ (.slice none 0 0))) := ⟨⟨.slice none 0 0, .slice none 0 0, [], []⟩, rfl, rfl, rfl, ownDv_zero _ _, (b2.setCell (p := ⟨w.heap.size + 1, 0, none⟩) (by simp) _).setCell (p := ⟨w.heap.size + 1, 1, none⟩) (by simp) _⟩
    clear z hok r2 t2
    go_wp2
    exact bodyPost_ret (v := .agg #[.slice none 0 0, .slice none 0 0]) (by simp [results, Tryz.results42, go_sem, k0, k1]) rfl HF.out
  | true =>
    obtain ⟨hn1, hn2, hn3, HP⟩ := HB.out hok
    obtain rfl := HYES.out hok
    have HPO : Hid (∀ i, i < ln → pOk sn (nthP X.late i) = true) := HP
    clear hok HB HYES HNO HP f0 f1 f2 f3
    obtain ⟨d0, d1⟩ := HDV.out _ t2
    have bb3 := below1 w2 (.cells #[] 9)
    have hoi := ownS_none w2
    have hr3 := (HRS.out.below b2).below bb3
    have t3 := t2.below bb3
    have r3 := r2.below bb3
    have b3 := b2.trans (bb3.mono b2.size)
    have s3 : (w2.alloc (.cells #[] 9)).heap.size = w2.heap.size + 1 := by simp
    have HSL : Hid (X.secs.length ≤ 1000000) := by unfold Hid; rw [← HSN.out]; omega
    obtain ⟨e0, e1⟩ := HDV.out _ t3
    go_wp2_with (at_builtin; (refine wpList_append_txts rfl _ _ rfl w2.heap.size _ _ [] X.secs rfl rfl hoi hr3 HNI.out (by simpa using Nat.le_trans HSL.out (by decide)) (by rw [s3]; omega) ?_))
    intro vS w4 ho4 hg4
    have hB4 : ∀ k, (Value.slice (some ⟨w2.heap.size, 0, none⟩) 0 0).ownBlock = some k → w2.heap.size ≤ k := fun k hk => by have : w2.heap.size = k := Option.some.inj hk; omega
    have b4 := b3.grown hg4 (by rw [s3]; omega) (fun k hk => by have := hB4 k hk; omega)
    have t4 : DvAt w4 w.heap.size X := t3.of_block (hg4.block _ t3.lt (fun e => by have := hB4 _ e.symm; omega))
    have r4 : BoxDv w4 (w.heap.size + 1) _ _ := r3.of_block (hg4.block _ r3.lt (fun e => by have := hB4 _ e.symm; omega))
    have s4 := hg4.size
    rw [s3] at s4
    have ho4' : OwnS w4 w2.heap.size vS X.secs := by simpa using ho4
    obtain ⟨g, cap, hv, hgB, hgL, hcn⟩ : ∃ g cap, vS = .slice (some ⟨g, 0, none⟩) sn cap ∧ w2.heap.size ≤ g ∧ g < w4.heap.size ∧ sn ≤ cap := by
      have ho := ho4'
      rcases ho.2 with ⟨-, h0⟩ | ⟨g, cap, cur, hv, hBg, hg, hcn, hc, -⟩
      · rw [← HSN.out] at h0; omega
      · refine ⟨g, cap, by rw [hv, HSN.out], hBg, ?_, by rw [HSN.out]; exact hcn⟩
        exact (Array.getElem?_eq_some_iff.1 hg).1
    subst hv
    have ho5 : w4.ownsRow w2.heap.size 9 1 (.slice (some ⟨g, 0, none⟩) sn cap) sn (SV (cutTo X.secs X.late (keepOf kp) 0)) := by
      have h := ho4'
      unfold OwnS at h
      rw [← HSN.out] at h
      exact h
    clear ho4 ho4' hg4 hB4 bb3 hoi hr3 t3 r3 b3 t2 r2 b2 d0 d1 e0 e1
    have o5 := boxDv_new w4 (.slice (some ⟨g, 0, none⟩) sn cap) (.slice none 0 0)
    have bb5 := below1 w4 (.cells #[.slice (some ⟨g, 0, none⟩) sn cap, .slice none 0 0] 27)
    have t5 := t4.below bb5
    have r5 := r4.below bb5
    have b5 := b4.trans (bb5.mono b4.size)
    have ho6 := own_below ho5 bb5
    have hgne : g ≠ w4.heap.size := by omega
    clear t4 r4 b4 ho5 bb5 s3
    go_wp2
    generalize w4.alloc (.cells #[.slice (some ⟨g, 0, none⟩) sn cap, .slice none 0 0] 27) = W5 at o5 t5 r5 b5 ho6 ⊢
    go_loopw [6] (fun i wr => ∃ k : Nat, k ≤ ln ∧ i = .int .i64 k ∧ wr.ownsRow w2.heap.size 9 1 (.slice (some ⟨g, 0, none⟩) sn cap) sn (SV (cutTo X.secs X.late (keepOf kp) k)) ∧ Hid (DvAt wr w.heap.size X ∧ BoxDv wr (w.heap.size + 1) (.slice none 0 0) (.slice none 0 0) ∧ BoxDv wr w4.heap.size (.slice (some ⟨g, 0, none⟩) sn cap) (.slice none 0 0) ∧ Below w.heap.size w wr)) (fun i _ => ln - (intOf i).toNat)
    case atStart => exact ⟨0, Nat.zero_le _, rfl, ho6, t5, r5, o5, b5⟩
    case round =>
      clear o5 t5 r5 b5 ho6
      obtain ⟨k, hk, rfl, ho, HI⟩ := hrel
      obtain ⟨tk, rk, ok, bk⟩ := HI.out
      obtain ⟨d0, d1⟩ := HDV.out _ tk
      obtain ⟨f0, f1, f2, f3⟩ := rk.facts
      obtain ⟨o0, o1, o2, o3⟩ := ok.facts
      by_cases hlt : k < ln ∧ k < kn
      · obtain ⟨hlt, hltk⟩ := hlt
        obtain ⟨bb, boff, rfl, hcb⟩ := (HK.out.below bk).at k (by rw [← HKN.out]; exact hltk)
        have HKL : Hid (k < kp.length) := by unfold Hid; rw [← HKN.out]; exact hltk
        have hkk := keepOf_at HKL.out
        rw [← hkk] at hcb
        have hkc : k < kc := by omega
        clear hkk
        obtain ⟨bl, loff, rfl, c0, c1⟩ := (HRL.out.below bk).at HLN.out k (by rw [← HLN.out]; exact hlt)
        have hbl : bl < w.heap.size := by
          obtain ⟨b', o', e, hc'⟩ := HRL.out.at HLN.out k (by rw [← HLN.out]; exact hlt)
          simp only [Option.some.injEq, Addr.mk.injEq] at e
          rw [e.1]
          exact hc'.lt
        have hlc : k < cl := by omega
        have hpo := pOk_iff.1 (HPO.out k hlt)
        obtain ⟨q, hq⟩ : ∃ q : Nat, (nthP X.late k).pos = (q : Int) := ⟨(nthP X.late k).pos.toNat, by omega⟩
        have hqs : q < sn := by omega
        obtain ⟨txt, htx⟩ : ∃ txt, txt = (nthP X.late k).text := ⟨_, rfl⟩
        have HNP : Hid (nthP X.late k = ⟨(q : Int), txt⟩) := by
          unfold Hid
          rw [htx, ← hq]
        rw [hq] at c0
        rw [← htx] at c1
        clear hq htx hpo
        cases hkv : keepOf kp k with
        | true =>
          rw [hkv] at hcb
          have HST : Hid ((cutTo X.secs X.late (keepOf kp) k).set q txt = cutTo X.secs X.late (keepOf kp) (k + 1)) := cutTo_step hkv HNP.out
          have hll : (cutTo X.secs X.late (keepOf kp) k).length = sn := by rw [cutTo_len, ← HSN.out]
          have hcq := (ho.cellAt q (by omega)).trans (SV_get _ q (by rw [hll]; exact hqs))
          have hfq := ho.frozenAt q
          have R1 := (ho.stored q (.string txt)).1
          rw [← SV_set, HST.out] at R1
          have H1 : Hid (World.ownsRow _ _ _ _ _ _ _) := R1
          have HI2 : Hid (DvAt (wr.setCell ⟨g, q, none⟩ (.string txt)) w.heap.size X ∧ BoxDv (wr.setCell ⟨g, q, none⟩ (.string txt)) (w.heap.size + 1) (.slice none 0 0) (.slice none 0 0) ∧ BoxDv (wr.setCell ⟨g, q, none⟩ (.string txt)) w4.heap.size (.slice (some ⟨g, 0, none⟩) sn cap) (.slice none 0 0) ∧ Below w.heap.size w (wr.setCell ⟨g, q, none⟩ (.string txt))) := ⟨tk.of_block (block_set (by omega)), rk.of_block (block_set (by omega)), ok.of_block (block_set (by omega)), bk.setCell (p := ⟨g, q, none⟩) (by simp; omega) _⟩
          have hSat : ∀ a u, a.block ≠ g → wr.cell? a = some u → (wr.setCell ⟨g, q, none⟩ (.string txt)).cell? a = some u := fun a u hne h => by
            rw [← h]
            exact World.cell?_of_block (block_set (fun e => hne e.symm))
          generalize (cutTo X.secs X.late (keepOf kp) k)[q]'(by rw [hll]; exact hqs) = old at hcq
          clear ho R1 hll hkv HI tk rk ok bk HST
          go_wp2_with fail
          refine wp_region_noPanic ?_
          refine wp_region_held_drew (S := fun W => ((W.cell? ⟨w4.heap.size, 0, none⟩ = some (.slice (some ⟨g, 0, none⟩) sn cap) ∧ W.cell? ⟨w.heap.size, 1, none⟩ = some (.slice (some ⟨bl, loff, none⟩) ln cl)) ∧ W.cell? ⟨bl, loff + k * 2, none⟩ = some (.int .i64 (q : Int)) ∧ W.cell? ⟨bl, loff + k * 2 + 1, none⟩ = some (.string txt))) (by kernel_rfl) ⟨⟨o0, d1⟩, c0, c1⟩ (fun hH => ?_)
          refine tkG 0 33 hH ?_
          try simp only [Act.put, List.setIfInBounds_toArray, List.set_cons_zero, List.set_cons_succ]
          refine tkG 1 34 hH ?_
          try simp only [Act.put, List.setIfInBounds_toArray, List.set_cons_zero, List.set_cons_succ]
          refine tkG 2 35 hH ?_
          try simp only [Act.put, List.setIfInBounds_toArray, List.set_cons_zero, List.set_cons_succ]
          refine tkG 3 36 hH ?_
          try simp only [Act.put, List.setIfInBounds_toArray, List.set_cons_zero, List.set_cons_succ]
          refine tkG 4 37 hH ?_
          try simp only [Act.put, List.setIfInBounds_toArray, List.set_cons_zero, List.set_cons_succ]
          refine tkG 5 38 hH ?_
          try simp only [Act.put, List.setIfInBounds_toArray, List.set_cons_zero, List.set_cons_succ]
          refine tkG 6 39 hH ?_
          try simp only [Act.put, List.setIfInBounds_toArray, List.set_cons_zero, List.set_cons_succ]
          refine tkG 7 40 hH ?_
          try simp only [Act.put, List.setIfInBounds_toArray, List.set_cons_zero, List.set_cons_succ]
          refine tkG 8 41 hH ?_
          try simp only [Act.put, List.setIfInBounds_toArray, List.set_cons_zero, List.set_cons_succ]
          refine tkG 9 42 hH ?_
          try simp only [Act.put, List.setIfInBounds_toArray, List.set_cons_zero, List.set_cons_succ]
          refine tkG 10 43 hH ?_
          try simp only [Act.put, List.setIfInBounds_toArray, List.set_cons_zero, List.set_cons_succ]
          refine tkG 11 44 hH ?_
          try simp only [Act.put, List.setIfInBounds_toArray, List.set_cons_zero, List.set_cons_succ]
          refine tkG 12 45 hH ?_
          try simp only [Act.put, List.setIfInBounds_toArray, List.set_cons_zero, List.set_cons_succ]
          refine tkG 13 46 hH ?_
          try simp only [Act.put, List.setIfInBounds_toArray, List.set_cons_zero, List.set_cons_succ]
          refine tkG 14 47 hH ?_
          try simp only [Act.put, List.setIfInBounds_toArray, List.set_cons_zero, List.set_cons_succ]
          refine wpAnyH_ready (rs := [15]) (by kernel_rfl) (by simp) ?_
          refine AllReadyH.cons rfl (fun K hK => ?_) AllReadyH.nil
          go_simp
          refine hK.out _ _ ⟨⟨hSat _ _ (by simp; omega) hH.1.1, hSat _ _ (by simp; omega) hH.1.2⟩, hSat _ _ (by simp; omega) hH.2.1, hSat _ _ (by simp; omega) hH.2.2⟩ (fun hA => ?_)
          clear hK K
          try simp only [Act.put, List.setIfInBounds_toArray, List.set_cons_zero, List.set_cons_succ]
          refine wpAnyH_done (by kernel_rfl) ?_ _
          refine NoPanic.normal ?_
          have HI3 : Hid (DvAt (wr.drew.setCell ⟨g, q, none⟩ (.string txt)) w.heap.size X ∧ BoxDv (wr.drew.setCell ⟨g, q, none⟩ (.string txt)) (w.heap.size + 1) (.slice none 0 0) (.slice none 0 0) ∧ BoxDv (wr.drew.setCell ⟨g, q, none⟩ (.string txt)) w4.heap.size (.slice (some ⟨g, 0, none⟩) sn cap) (.slice none 0 0) ∧ Below w.heap.size w (wr.drew.setCell ⟨g, q, none⟩ (.string txt))) := HI2.out.imp id (And.imp id (And.imp id (fun b => ⟨b.os, b.tape, b.output, b.size, b.block⟩)))
          clear hH hA hSat hcq hfq o0 o1 o2 o3 f0 f1 f2 f3 d0 d1 c0 c1 HI2
          go_wp2
          go_roundw
          case rel => exact ⟨k + 1, by omega, by go_num, H1.out, HI3⟩
          case measure => simp [intOf]; omega
        | false =>
          rw [hkv] at hcb
          rw [cutTo_skip hkv] at ho
          have H1 : Hid (World.ownsRow _ _ _ _ _ _ _) := ho
          clear ho hkv tk rk ok bk
          go_wp2
          go_roundw
          case rel => exact ⟨k + 1, by omega, by go_num, H1.out, HI⟩
          case measure => simp [intOf]; omega
      · have HE : Hid (cutTo X.secs X.late (keepOf kp) k = cutTo X.secs X.late (keepOf kp) X.late.length) := cut_end (by rw [← HLN.out]; exact hk) (by rw [← HLN.out, ← HKN.out]; omega)
        have hoF : OwnS wr w2.heap.size (.slice (some ⟨g, 0, none⟩) sn cap) (cutTo X.secs X.late (keepOf kp) X.late.length) := by
          rw [HE.out] at ho
          unfold OwnS
          rw [cutTo_len, ← HSN.out]
          exact ho
        have z := (rk.set0 (u := .slice (some ⟨g, 0, none⟩) sn cap)).set1 (u := .slice none 0 0)
        obtain ⟨k0, k1, -, -⟩ := z.facts
        have HF : Hid (ToDv w (cutTo X.secs X.late (keepOf kp) X.late.length) [] (.returned (.agg #[.slice (some ⟨g, 0, none⟩) sn cap, .slice none 0 0])) ((wr.setCell ⟨w.heap.size + 1, 0, none⟩ (.slice (some ⟨g, 0, none⟩) sn cap)).setCell ⟨w.heap.size + 1, 1, none⟩ (.slice none 0 0))) :=
          ⟨⟨.slice (some ⟨g, 0, none⟩) sn cap, .slice none 0 0, cutTo X.secs X.late (keepOf kp) X.late.length, []⟩, rfl, rfl, rfl, ⟨OwnS.mono (row_base (row_base hoF (by omega)) (by omega)) (by omega), ownPt_zero _ _⟩, (bk.setCell (p := ⟨w.heap.size + 1, 0, none⟩) (by simp) _).setCell (p := ⟨w.heap.size + 1, 1, none⟩) (by simp) _⟩
        clear z hoF ho HE tk rk ok bk HI
        by_cases hlt1 : k < ln
        · have hkn2 : ¬ k < kn := fun h => hlt ⟨hlt1, h⟩
          clear hlt
          go_wp2
          exact bodyPost_ret (v := .agg #[.slice (some ⟨g, 0, none⟩) sn cap, .slice none 0 0]) (by simp [results, Tryz.results42, go_sem, k0, k1]) rfl HF.out
        · clear hlt
          go_wp2
          exact bodyPost_ret (v := .agg #[.slice (some ⟨g, 0, none⟩) sn cap, .slice none 0 0]) (by simp [results, Tryz.results42, go_sem, k0, k1]) rfl HF.out
end Go.Proofs.YtpidmmfjmbinkaaGreatDoor
