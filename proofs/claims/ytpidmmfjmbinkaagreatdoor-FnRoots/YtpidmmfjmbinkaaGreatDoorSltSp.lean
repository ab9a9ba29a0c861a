/- The contracts of the model's l9Laid, Switch and Halfway. -/
import Derived.Test.YtpidmmfjmbinkaaGreatDoorSltNext
namespace Go.Proofs.YtpidmmfjmbinkaaGreatDoor
open Go.RowKit
set_option maxHeartbeats 8000000 in
set_option maxRecDepth 100000 in
theorem l9Laid_any (sa la : Option Addr) (cs cl : Nat) (ss : List ByteArray) (ps : List Pat) (t : ByteArray) (r0 r1 : Option (Int × ByteArray)) (w : World) (hx : RdDv w (dvOf sa la cs cl ss ps)) (ht : t.size ≤ 1048576) (h0 : RS (liesL ss ps 0) r0) (h1 : RS (liesL ss ps 1) r1) :
    Calls Tryz.prog 38 #[.agg #[.slice sa ss.length cs, .slice la ps.length cl], .string t] w fun e w' => NextP w ss ps (rootD ss ps r0 r1) t e w' := by
  have HL : Hid (∀ W, RdDv W (dvOf sa la cs cl ss ps) → Calls Tryz.prog 46 #[.agg #[.slice sa ss.length cs, .slice la ps.length cl]] W fun e w' => e = .returned (.tuple #[.int .i64 (rootD ss ps r0 r1).1, .int .i64 (rootD ss ps r0 r1).2.1, .string (rootD ss ps r0 r1).2.2]) ∧ Below W.heap.size W w') := fun W h => l9Root_any sa la cs cl ss ps r0 r1 W h h0 h1
  have hin := rootD_in ss ps r0 r1
  have hgn := rootD_gen h0 h1
  generalize rootD ss ps r0 r1 = R at HL hin hgn ⊢
  obtain ⟨x, y, z⟩ := R
  simp only at hgn hin HL
  obtain ⟨g0, g1⟩ := hgn
  have hsz := slotS_size (y + 1) t
  have hem := slotS_empty (g := y + 1) (t := t)
  have HNB : Hid (nextB ss ps (x, y, z) t = (twoOk ss ps && slotOk (y + 1) t)) := rfl
  have HT : Hid (twoOk ss ps = (devOk ss ps && decide (2 ≤ ss.length))) := rfl
  have HNT : Hid (nextTo (x, y, z) = if x = 0 then 1 else 0) := rfl
  have HLB : Hid (∀ p : Int, 0 ≤ p ∧ p ≤ 1 → 2 ≤ ss.length → layO (barS ss ps) [] p (slotS (y + 1) t) = twoOk ss ps ∧ (twoOk ss ps = true → layS (barS ss ps) [] = barS ss ps ∧ layL (barS ss ps) [] p (slotS (y + 1) t) = [⟨p, slotS (y + 1) t⟩])) := fun p hp h2 => lay_bar hsz hp (fun h => absurd h2 h)
  clear h0 h1
  have B0 : Bx (w.alloc (.cells #[.slice sa ss.length cs, .slice la ps.length cl] 27)) _ := (bx_nil w).new hx 27
  have b0 := below1 w (.cells #[.slice sa ss.length cs, .slice la ps.length cl] 27)
  have s0 : (w.alloc (.cells #[.slice sa ss.length cs, .slice la ps.length cl] 27)).heap.size = w.heap.size + 1 := by simp
  have b1 := below1 (w.alloc (.cells #[.slice sa ss.length cs, .slice la ps.length cl] 27)) (.cells #[.slice none 0 0, .slice none 0 0] 27)
  have B1 := B0.below b1
  have x1 := boxDv_new (w.alloc (.cells #[.slice sa ss.length cs, .slice la ps.length cl] 27)) (.slice none 0 0) (.slice none 0 0)
  rw [s0] at x1
  replace b1 := b0.trans (b1.mono b0.size)
  clear B0 b0 s0
  obtain ⟨c0, c1⟩ := B1.at _ sa la cs cl ss ps (.head _)
  go_enter Tryz.func38, Tryz.ntmps38
  go_wp2_with fail
  clear c0 c1
  generalize (w.alloc (.cells #[.slice sa ss.length cs, .slice la ps.length cl] 27)).alloc (.cells #[.slice none 0 0, .slice none 0 0] 27) = V at B1 b1 x1 ⊢
  refine (specDeviceOk_any (dvOf sa la cs cl ss ps) _ (B1.rd _ _ _ _ _ _ _ (.head _))).mono ?_
  rintro e V1 ⟨hee, hb⟩
  replace hee : e = .returned (.bool (devOk ss ps)) := hee
  subst hee
  replace B1 := B1.below hb
  replace x1 := x1.below hb
  replace b1 := b1.trans (hb.mono b1.size)
  clear hb
  obtain ⟨ok, hok⟩ : ∃ ok, ok = devOk ss ps := ⟨_, rfl⟩
  rw [← hok] at HT ⊢
  clear hok
  by_cases h2 : ok = true ∧ 2 ≤ ss.length
  · obtain ⟨rfl, h2⟩ := h2
    have htw : twoOk ss ps = true := by rw [HT.out]; simp; omega
    have HTW : Hid (twoOk ss ps = true) := htw
    have HPL : Hid (ps.length ≤ 1048576) := by
      have := ((devOk_iff ss ps).1 (two_iff.1 htw).1).2.2.1
      unfold Hid
      omega
    have HN : Hid (nextB ss ps (x, y, z) t = slotOk (y + 1) t) := by unfold Hid; rw [HNB.out, htw]; rfl
    clear htw HT HNB
    have hn2 : ¬ (ss.length : Int) < 2 := by omega
    obtain ⟨c0, c1⟩ := B1.at _ sa la cs cl ss ps (.head _)
    go_wp2_with fail
    clear c0 c1
    refine (HL.out _ (B1.rd _ _ _ _ _ _ _ (.head _))).mono ?_
    rintro e V2 ⟨rfl, hb⟩
    replace B1 := B1.below hb
    replace x1 := x1.below hb
    replace b1 := b1.trans (hb.mono b1.size)
    clear hb
    go_wp2_with fail
    refine (specSlot_any (y + 1) t _ (by omega)).mono ?_
    obtain ⟨N, hN⟩ : ∃ N, N = slotS (y + 1) t := ⟨_, rfl⟩
    rw [← hN] at hsz hem HLB ⊢
    have HSN : Hid (slotS (((x, y, z) : Int × Int × ByteArray).2.1 + 1) t = N) := hN.symm
    clear hN
    rintro e V3 ⟨rfl, hb⟩
    replace B1 := B1.below hb
    replace x1 := x1.below hb
    replace b1 := b1.trans (hb.mono b1.size)
    clear hb
    obtain ⟨so, hso⟩ : ∃ so, so = slotOk (y + 1) t := ⟨_, rfl⟩
    rw [← hso] at hem HN
    clear hso
    cases so with
    | false =>
      obtain ⟨f0, f1, f2, f3⟩ := x1.facts
      have zz := (x1.set0 (u := .slice none 0 0)).set1 (u := .slice none 0 0)
      obtain ⟨k0, k1, -, -⟩ := zz.facts
      have HF : Hid (NextP w ss ps (x, y, z) t (.returned (.tuple #[.agg #[.slice none 0 0, .slice none 0 0], .bool false])) ((V3.setCell ⟨w.heap.size + 1, 0, none⟩ (.slice none 0 0)).setCell ⟨w.heap.size + 1, 1, none⟩ (.slice none 0 0))) :=
        ⟨⟨.slice none 0 0, .slice none 0 0, [], []⟩, by rw [HN.out], ownDv_zero _ _, fun h => (by rw [HN.out] at h; cases h), (b1.setCell (p := ⟨w.heap.size + 1, 0, none⟩) (by simp) _).setCell (p := ⟨w.heap.size + 1, 1, none⟩) (by simp) _⟩
      clear zz x1 b1 B1
      go_wp2
      exact bodyPost_ret (v := .tuple #[.agg #[.slice none 0 0, .slice none 0 0], .bool false]) (by simp [results, Tryz.results38, go_sem, k0, k1]) rfl HF.out
    | true =>
      obtain ⟨to, hto⟩ : ∃ to, to = nextTo (x, y, z) := ⟨_, rfl⟩
      have htr : 0 ≤ to ∧ to ≤ 1 := by rw [hto, HNT.out]; split <;> omega
      have hT2 : to = if x = 0 then 1 else 0 := hto.trans HNT.out
      have HTO : Hid (to = nextTo (x, y, z)) := hto
      have HLB2 : Hid (layO (barS ss ps) [] to N = true ∧ layS (barS ss ps) [] = barS ss ps ∧ layL (barS ss ps) [] to N = [⟨to, N⟩]) := by
        obtain ⟨q1, q2⟩ := HLB.out to htr h2
        exact ⟨q1.trans HTW.out, q2 HTW.out⟩
      clear hto HNT HLB htr
      obtain ⟨c0, c1⟩ := B1.at _ sa la cs cl ss ps (.head _)
      by_cases hx0 : x = 0
      · rw [if_pos hx0] at hT2
        have hx1 : (x == 0) = true := by simp [hx0]
        subst hT2
        clear hx0
        go_wp2_with fail
        clear c0 c1
        refine (specBarrier_any (dvOf sa la cs cl ss ps) _ (B1.rd _ _ _ _ _ _ _ (.head _)) HPL.out).mono ?_
        rintro e V4 hc
        replace hc : ToDv V3 (barS ss ps) [] e V4 := hc
        obtain ⟨ba, bla, bc, bk, rfl, hbar, hb⟩ := hc.op
        clear hc
        replace x1 := x1.below hb
        replace b1 := b1.trans (hb.mono b1.size)
        clear hb
        go_wp2_with fail
        refine (specLay_any (dvOf ba bla bc bk (barS ss ps) []) 1 N _ hbar).mono ?_
        rintro e V5 hc
        obtain ⟨Y, hee, hYs, hYl, hoY, hb⟩ := hc
        replace hee : e = .returned (.tuple #[.agg #[Y.vs, Y.vl], .bool true]) := by rw [hee]; exact congrArg (fun o => Ending.returned (.tuple #[.agg #[Y.vs, Y.vl], .bool o])) HLB2.out.1
        have HY : Hid (OwnDv V5 V4.heap.size Y ∧ Y.secs = barS ss ps ∧ Y.late = [⟨nextTo (x, y, z), N⟩]) := ⟨hoY, hYs.trans HLB2.out.2.1, by rw [hYl, ← HTO.out]; exact HLB2.out.2.2⟩
        have HLT : Hid (w.heap.size + 1 < V4.heap.size ∧ w.heap.size ≤ V4.heap.size) := ⟨x1.lt, b1.size⟩
        obtain ⟨ya, yc, v0⟩ := own_slice hoY.secs
        obtain ⟨yla, yk, v1⟩ := own_slice hoY.late
        obtain ⟨yvs, yvl, ysec, ylat⟩ := Y
        simp only at v0 v1 hYs hYl
        generalize ysec.length = yn at v0
        generalize ylat.length = ym at v1
        subst v0
        subst v1
        replace hee : e = .returned (.tuple #[.agg #[.slice ya yn yc, .slice yla ym yk], .bool true]) := hee
        subst hee
        replace x1 := x1.below hb
        replace b1 := b1.trans (hb.mono b1.size)
        obtain ⟨f0, f1, f2, f3⟩ := x1.facts
        have zz := (x1.set0 (u := .slice ya yn yc)).set1 (u := .slice yla ym yk)
        obtain ⟨k0, k1, -, -⟩ := zz.facts
        have HF : Hid (NextP w ss ps (x, y, z) t (.returned (.tuple #[.agg #[.slice ya yn yc, .slice yla ym yk], .bool true])) ((V5.setCell ⟨w.heap.size + 1, 0, none⟩ (.slice ya yn yc)).setCell ⟨w.heap.size + 1, 1, none⟩ (.slice yla ym yk))) :=
          ⟨⟨.slice ya yn yc, .slice yla ym yk, ysec, ylat⟩, by rw [HN.out], (own_put HY.out.1 HLT.out.1 _ _).mono HLT.out.2, fun _ => ⟨HY.out.2.1, by rw [HSN.out]; exact HY.out.2.2⟩, (b1.setCell (p := ⟨w.heap.size + 1, 0, none⟩) (by simp) _).setCell (p := ⟨w.heap.size + 1, 1, none⟩) (by simp) _⟩
        clear zz x1 b1 hoY hYs hYl hb hbar
        go_wp2
        exact bodyPost_ret (v := .tuple #[.agg #[.slice ya yn yc, .slice yla ym yk], .bool true]) (by simp [results, Tryz.results38, go_sem, k0, k1]) rfl HF.out
      · rw [if_neg hx0] at hT2
        have hx1 : (x == 0) = false := by simp [hx0]
        subst hT2
        clear hx0
        go_wp2_with fail
        clear c0 c1
        refine (specBarrier_any (dvOf sa la cs cl ss ps) _ (B1.rd _ _ _ _ _ _ _ (.head _)) HPL.out).mono ?_
        rintro e V4 hc
        replace hc : ToDv V3 (barS ss ps) [] e V4 := hc
        obtain ⟨ba, bla, bc, bk, rfl, hbar, hb⟩ := hc.op
        clear hc
        replace x1 := x1.below hb
        replace b1 := b1.trans (hb.mono b1.size)
        clear hb
        go_wp2_with fail
        refine (specLay_any (dvOf ba bla bc bk (barS ss ps) []) 0 N _ hbar).mono ?_
        rintro e V5 hc
        obtain ⟨Y, hee, hYs, hYl, hoY, hb⟩ := hc
        replace hee : e = .returned (.tuple #[.agg #[Y.vs, Y.vl], .bool true]) := by rw [hee]; exact congrArg (fun o => Ending.returned (.tuple #[.agg #[Y.vs, Y.vl], .bool o])) HLB2.out.1
        have HY : Hid (OwnDv V5 V4.heap.size Y ∧ Y.secs = barS ss ps ∧ Y.late = [⟨nextTo (x, y, z), N⟩]) := ⟨hoY, hYs.trans HLB2.out.2.1, by rw [hYl, ← HTO.out]; exact HLB2.out.2.2⟩
        have HLT : Hid (w.heap.size + 1 < V4.heap.size ∧ w.heap.size ≤ V4.heap.size) := ⟨x1.lt, b1.size⟩
        obtain ⟨ya, yc, v0⟩ := own_slice hoY.secs
        obtain ⟨yla, yk, v1⟩ := own_slice hoY.late
        obtain ⟨yvs, yvl, ysec, ylat⟩ := Y
        simp only at v0 v1 hYs hYl
        generalize ysec.length = yn at v0
        generalize ylat.length = ym at v1
        subst v0
        subst v1
        replace hee : e = .returned (.tuple #[.agg #[.slice ya yn yc, .slice yla ym yk], .bool true]) := hee
        subst hee
        replace x1 := x1.below hb
        replace b1 := b1.trans (hb.mono b1.size)
        obtain ⟨f0, f1, f2, f3⟩ := x1.facts
        have zz := (x1.set0 (u := .slice ya yn yc)).set1 (u := .slice yla ym yk)
        obtain ⟨k0, k1, -, -⟩ := zz.facts
        have HF : Hid (NextP w ss ps (x, y, z) t (.returned (.tuple #[.agg #[.slice ya yn yc, .slice yla ym yk], .bool true])) ((V5.setCell ⟨w.heap.size + 1, 0, none⟩ (.slice ya yn yc)).setCell ⟨w.heap.size + 1, 1, none⟩ (.slice yla ym yk))) :=
          ⟨⟨.slice ya yn yc, .slice yla ym yk, ysec, ylat⟩, by rw [HN.out], (own_put HY.out.1 HLT.out.1 _ _).mono HLT.out.2, fun _ => ⟨HY.out.2.1, by rw [HSN.out]; exact HY.out.2.2⟩, (b1.setCell (p := ⟨w.heap.size + 1, 0, none⟩) (by simp) _).setCell (p := ⟨w.heap.size + 1, 1, none⟩) (by simp) _⟩
        clear zz x1 b1 hoY hYs hYl hb hbar
        go_wp2
        exact bodyPost_ret (v := .tuple #[.agg #[.slice ya yn yc, .slice yla ym yk], .bool true]) (by simp [results, Tryz.results38, go_sem, k0, k1]) rfl HF.out
  · have HN : Hid (nextB ss ps (x, y, z) t = false) := by
      unfold Hid
      rw [HNB.out, HT.out]
      cases ok with
      | false => rfl
      | true =>
        have : ¬ 2 ≤ ss.length := fun h => h2 ⟨rfl, h⟩
        simp [this]
    obtain ⟨f0, f1, f2, f3⟩ := x1.facts
    have zz := (x1.set0 (u := .slice none 0 0)).set1 (u := .slice none 0 0)
    obtain ⟨k0, k1, -, -⟩ := zz.facts
    have HF : Hid (NextP w ss ps (x, y, z) t (.returned (.tuple #[.agg #[.slice none 0 0, .slice none 0 0], .bool false])) ((V1.setCell ⟨w.heap.size + 1, 0, none⟩ (.slice none 0 0)).setCell ⟨w.heap.size + 1, 1, none⟩ (.slice none 0 0))) :=
      ⟨⟨.slice none 0 0, .slice none 0 0, [], []⟩, by rw [HN.out], ownDv_zero _ _, fun h => (by rw [HN.out] at h; cases h), (b1.setCell (p := ⟨w.heap.size + 1, 0, none⟩) (by simp) _).setCell (p := ⟨w.heap.size + 1, 1, none⟩) (by simp) _⟩
    obtain ⟨c0, c1⟩ := B1.at _ sa la cs cl ss ps (.head _)
    clear zz x1 b1 B1
    cases ok with
    | false =>
      go_wp2
      exact bodyPost_ret (v := .tuple #[.agg #[.slice none 0 0, .slice none 0 0], .bool false]) (by simp [results, Tryz.results38, go_sem, k0, k1]) rfl HF.out
    | true =>
      have hn2 : (ss.length : Int) < 2 := by
        have : ¬ 2 ≤ ss.length := fun h => h2 ⟨rfl, h⟩
        omega
      go_wp2
      exact bodyPost_ret (v := .tuple #[.agg #[.slice none 0 0, .slice none 0 0], .bool false]) (by simp [results, Tryz.results38, go_sem, k0, k1]) rfl HF.out

theorem oneK_rd (w : World) (k : Bool) : RdB (w.alloc (.cells #[.bool k] 4)) (.slice (some ⟨w.heap.size, 0, none⟩) 1 1) [k] := by
  refine ⟨_, _, rfl, by simp, by unfold maxLen; omega, fun h => (by simp at h), .inr ⟨w.heap.size, 0, rfl, fun i hi => ?_⟩⟩
  have : i = 0 := by simpa using hi
  subst this
  simp
set_option maxHeartbeats 8000000 in
set_option maxRecDepth 100000 in
theorem specSwitch_any (sa la : Option Addr) (cs cl : Nat) (ss : List ByteArray) (ps : List Pat) (t : ByteArray) (r0 r1 : Option (Int × ByteArray)) (w : World) (hx : RdDv w (dvOf sa la cs cl ss ps)) (ht : t.size ≤ 1048576) (h0 : RS (liesL ss ps 0) r0) (h1 : RS (liesL ss ps 1) r1) :
    Calls Tryz.prog 15 #[.agg #[.slice sa ss.length cs, .slice la ps.length cl], .string t] w fun e w' => DvRes w (swS ss ps (rootD ss ps r0 r1) t) (swL ss ps (rootD ss ps r0 r1) t) (nextB ss ps (rootD ss ps r0 r1) t) e w' := by
  have HL0 : ∀ W, RdDv W (dvOf sa la cs cl ss ps) → Calls Tryz.prog 38 #[.agg #[.slice sa ss.length cs, .slice la ps.length cl], .string t] W fun e w' => NextP W ss ps (rootD ss ps r0 r1) t e w' := fun W h => l9Laid_any sa la cs cl ss ps t r0 r1 W h ht h0 h1
  generalize rootD ss ps r0 r1 = R at HL0 ⊢
  have HA : Hid (nextB ss ps R t = true → swS ss ps R t = cutL (barS ss ps) [⟨nextTo R, slotS (R.2.1 + 1) t⟩] (fun _ => true) ∧ swL ss ps R t = []) := fun h => by unfold swS swL; rw [if_pos h, if_pos h]; exact ⟨rfl, rfl⟩
  have HB : Hid (nextB ss ps R t = false → devOk ss ps = true → swS ss ps R t = ss ∧ swL ss ps R t = ps) := fun h h' => by unfold swS swL; rw [h, h']; exact ⟨rfl, rfl⟩
  have HC : Hid (devOk ss ps = false → nextB ss ps R t = false ∧ swS ss ps R t = [] ∧ swL ss ps R t = []) := fun h => by
    have e : nextB ss ps R t = false := by unfold nextB twoOk; rw [h]; rfl
    refine ⟨e, ?_⟩
    unfold swS swL
    rw [e, h]
    exact ⟨rfl, rfl⟩
  unfold NextP at HL0
  have HPL : Hid (devOk ss ps = true → ss.length ≤ 1000000 ∧ ps.length ≤ 1000000) := fun h => by have := (devOk_iff ss ps).1 h; omega
  generalize nextB ss ps R t = nb at HL0 HA HB HC ⊢
  generalize swS ss ps R t = SW at HA HB HC ⊢
  generalize swL ss ps R t = LW at HA HB HC ⊢
  generalize slotS (R.2.1 + 1) t = N at HL0 HA
  generalize nextTo R = to at HL0 HA
  have HL : Hid (∀ W, RdDv W (dvOf sa la cs cl ss ps) → Calls Tryz.prog 38 #[.agg #[.slice sa ss.length cs, .slice la ps.length cl], .string t] W fun e w' => ∃ Y : DvX, e = .returned (.tuple #[.agg #[Y.vs, Y.vl], .bool nb]) ∧ OwnDv w' W.heap.size Y ∧ (nb = true → Y.secs = barS ss ps ∧ Y.late = [⟨to, N⟩]) ∧ Below W.heap.size W w') := HL0
  clear HL0 h0 h1
  have B0 : Bx (w.alloc (.cells #[.slice sa ss.length cs, .slice la ps.length cl] 27)) _ := (bx_nil w).new hx 27
  have b0 := below1 w (.cells #[.slice sa ss.length cs, .slice la ps.length cl] 27)
  have s0 : (w.alloc (.cells #[.slice sa ss.length cs, .slice la ps.length cl] 27)).heap.size = w.heap.size + 1 := by simp
  have b1 := below1 (w.alloc (.cells #[.slice sa ss.length cs, .slice la ps.length cl] 27)) (.cells #[.slice none 0 0, .slice none 0 0] 27)
  have B1 := B0.below b1
  have x1 := boxDv_new (w.alloc (.cells #[.slice sa ss.length cs, .slice la ps.length cl] 27)) (.slice none 0 0) (.slice none 0 0)
  rw [s0] at x1
  replace b1 := b0.trans (b1.mono b0.size)
  clear B0 b0 s0
  obtain ⟨c0, c1⟩ := B1.at _ sa la cs cl ss ps (.head _)
  go_enter Tryz.func15, Tryz.ntmps15
  go_wp2_with fail
  clear c0 c1
  generalize (w.alloc (.cells #[.slice sa ss.length cs, .slice la ps.length cl] 27)).alloc (.cells #[.slice none 0 0, .slice none 0 0] 27) = V at B1 b1 x1 ⊢

  refine (specDeviceOk_any (dvOf sa la cs cl ss ps) _ (B1.rd _ _ _ _ _ _ _ (.head _))).mono ?_
  rintro e V1 ⟨hee, hb⟩
  replace hee : e = .returned (.bool (devOk ss ps)) := hee
  subst hee
  replace B1 := B1.below hb
  replace x1 := x1.below hb
  replace b1 := b1.trans (hb.mono b1.size)
  clear hb
  obtain ⟨ok, hok⟩ : ∃ ok, ok = devOk ss ps := ⟨_, rfl⟩
  have HOK0 : Hid (ok = devOk ss ps) := hok
  rw [← hok]
  clear hok
  cases ok with
  | false =>
    obtain ⟨e0, e2, e3⟩ := HC.out HOK0.out.symm
    subst e0
    subst e2
    subst e3
    clear HL HA HB HC
    obtain ⟨f0, f1, f2, f3⟩ := x1.facts
    have zz := (x1.set0 (u := .slice none 0 0)).set1 (u := .slice none 0 0)
    obtain ⟨k0, k1, -, -⟩ := zz.facts
    have HF : Hid (DvRes w ([]) ([]) (false) (.returned (.tuple #[.agg #[.slice none 0 0, .slice none 0 0], .bool false])) ((V1.setCell ⟨w.heap.size + 1, 0, none⟩ (.slice none 0 0)).setCell ⟨w.heap.size + 1, 1, none⟩ (.slice none 0 0))) :=
      ⟨⟨.slice none 0 0, .slice none 0 0, [], []⟩, rfl, rfl, rfl, ownDv_zero _ _, (b1.setCell (p := ⟨w.heap.size + 1, 0, none⟩) (by simp) _).setCell (p := ⟨w.heap.size + 1, 1, none⟩) (by simp) _⟩
    clear zz x1 b1
    go_wp2
    exact bodyPost_ret (v := .tuple #[.agg #[.slice none 0 0, .slice none 0 0], .bool false]) (by simp [results, Tryz.results15, go_sem, k0, k1]) rfl HF.out
  | true =>
    have HOK : Hid (devOk ss ps = true) := HOK0.out.symm
    clear HOK0
    obtain ⟨c0, c1⟩ := B1.at _ sa la cs cl ss ps (.head _)
    go_wp2_with fail
    clear c0 c1
    refine (HL.out _ (B1.rd _ _ _ _ _ _ _ (.head _))).mono ?_
    rintro e V2 hc
    obtain ⟨Y, hee, hoY, hYn, hb⟩ := hc
    obtain ⟨na, nc, v0⟩ := own_slice hoY.secs
    obtain ⟨nla, nk, v1⟩ := own_slice hoY.late
    obtain ⟨nvs, nvl, nss, nps⟩ := Y
    simp only at v0 v1 hYn
    subst v0
    subst v1
    replace hee : e = .returned (.tuple #[.agg #[.slice na nss.length nc, .slice nla nps.length nk], .bool nb]) := hee
    subst hee
    have hn : RdDv V2 (dvOf na nla nc nk nss nps) := hoY.rd
    have bl := below1 V2 (.cells #[.slice na nss.length nc, .slice nla nps.length nk] 27)
    have N1 : Bx (V2.alloc (.cells #[.slice na nss.length nc, .slice nla nps.length nk] 27)) _ := (B1.below hb).new hn 27
    replace x1 := (x1.below hb).below bl
    replace b1 := b1.trans (hb.mono b1.size)
    replace b1 := b1.trans (bl.mono b1.size)
    clear hoY hb bl hn B1
    cases nb with
    | false =>
      obtain ⟨c0, c1⟩ := N1.at _ sa la cs cl ss ps (.tail _ (.head _))
      go_wp2_with fail
      clear c0 c1
      generalize V2.alloc (.cells #[.slice na nss.length nc, .slice nla nps.length nk] 27) = V3 at N1 x1 b1 ⊢
      refine (l8Copy_any (dvOf sa la cs cl ss ps) _ (N1.rd _ _ _ _ _ _ _ (.tail _ (.head _))) (HPL.out HOK.out).1 (HPL.out HOK.out).2).mono ?_
      rintro e V4 hc
      replace hc : ToDv V3 ss ps e V4 := hc
      clear N1
      obtain ⟨Y, hee, hYs, hYl, hoY, hb⟩ := hc
      have HLT : Hid (w.heap.size + 1 < V3.heap.size ∧ w.heap.size ≤ V3.heap.size) := ⟨x1.lt, b1.size⟩
      obtain ⟨ya, yc, v0⟩ := own_slice hoY.secs
      obtain ⟨yla, yk, v1⟩ := own_slice hoY.late
      obtain ⟨yvs, yvl, ysec, ylat⟩ := Y
      simp only at v0 v1 hYs hYl
      generalize ysec.length = yn at v0
      generalize ylat.length = ym at v1
      subst v0
      subst v1
      replace hee : e = .returned (.agg #[.slice ya yn yc, .slice yla ym yk]) := hee
      subst hee
      replace x1 := x1.below hb
      replace b1 := b1.trans (hb.mono b1.size)
      obtain ⟨f0, f1, f2, f3⟩ := x1.facts
      have zz := (x1.set0 (u := .slice ya yn yc)).set1 (u := .slice yla ym yk)
      obtain ⟨k0, k1, -, -⟩ := zz.facts
      have HF : Hid (DvRes w (SW) (LW) (false) (.returned (.tuple #[.agg #[.slice ya yn yc, .slice yla ym yk], .bool false])) ((V4.setCell ⟨w.heap.size + 1, 0, none⟩ (.slice ya yn yc)).setCell ⟨w.heap.size + 1, 1, none⟩ (.slice yla ym yk))) :=
        ⟨⟨.slice ya yn yc, .slice yla ym yk, ysec, ylat⟩, rfl, hYs.trans (HB.out (by simp) HOK.out).1.symm, hYl.trans (HB.out (by simp) HOK.out).2.symm, (own_put hoY HLT.out.1 _ _).mono HLT.out.2, (b1.setCell (p := ⟨w.heap.size + 1, 0, none⟩) (by simp) _).setCell (p := ⟨w.heap.size + 1, 1, none⟩) (by simp) _⟩
      clear zz x1 b1 hoY hYs hYl hb
      go_wp2
      exact bodyPost_ret (v := .tuple #[.agg #[.slice ya yn yc, .slice yla ym yk], .bool false]) (by simp [results, Tryz.results15, go_sem, k0, k1]) rfl HF.out
    | true =>
      obtain ⟨q1, q2⟩ := hYn rfl
      subst q1
      subst q2
      obtain ⟨c0, c1⟩ := N1.at _ na nla nc nk _ _ (.head _)
      go_wp2_with fail
      clear c0 c1
      generalize V2.alloc (.cells #[.slice na (barS ss ps).length nc, .slice nla ([⟨to, N⟩] : List Pat).length nk] 27) = V3 at N1 x1 b1 ⊢
      refine (specBarrier_any (dvOf na nla nc nk (barS ss ps) [⟨to, N⟩]) _ (N1.rd _ _ _ _ _ _ _ (.head _)) (by simp)).mono ?_
      rintro e V4 hc
      replace hc : ToDv V3 (cutL (barS ss ps) [⟨to, N⟩] (fun _ => true)) [] e V4 := hc
      clear N1
      obtain ⟨Y, hee, hYs, hYl, hoY, hb⟩ := hc
      have HLT : Hid (w.heap.size + 1 < V3.heap.size ∧ w.heap.size ≤ V3.heap.size) := ⟨x1.lt, b1.size⟩
      obtain ⟨ya, yc, v0⟩ := own_slice hoY.secs
      obtain ⟨yla, yk, v1⟩ := own_slice hoY.late
      obtain ⟨yvs, yvl, ysec, ylat⟩ := Y
      simp only at v0 v1 hYs hYl
      generalize ysec.length = yn at v0
      generalize ylat.length = ym at v1
      subst v0
      subst v1
      replace hee : e = .returned (.agg #[.slice ya yn yc, .slice yla ym yk]) := hee
      subst hee
      replace x1 := x1.below hb
      replace b1 := b1.trans (hb.mono b1.size)
      obtain ⟨f0, f1, f2, f3⟩ := x1.facts
      have zz := (x1.set0 (u := .slice ya yn yc)).set1 (u := .slice yla ym yk)
      obtain ⟨k0, k1, -, -⟩ := zz.facts
      have HF : Hid (DvRes w (SW) (LW) (true) (.returned (.tuple #[.agg #[.slice ya yn yc, .slice yla ym yk], .bool true])) ((V4.setCell ⟨w.heap.size + 1, 0, none⟩ (.slice ya yn yc)).setCell ⟨w.heap.size + 1, 1, none⟩ (.slice yla ym yk))) :=
        ⟨⟨.slice ya yn yc, .slice yla ym yk, ysec, ylat⟩, rfl, hYs.trans (HA.out (by simp)).1.symm, hYl.trans (HA.out (by simp)).2.symm, (own_put hoY HLT.out.1 _ _).mono HLT.out.2, (b1.setCell (p := ⟨w.heap.size + 1, 0, none⟩) (by simp) _).setCell (p := ⟨w.heap.size + 1, 1, none⟩) (by simp) _⟩
      clear zz x1 b1 hoY hYs hYl hb
      go_wp2
      exact bodyPost_ret (v := .tuple #[.agg #[.slice ya yn yc, .slice yla ym yk], .bool true]) (by simp [results, Tryz.results15, go_sem, k0, k1]) rfl HF.out

set_option maxHeartbeats 8000000 in
set_option maxRecDepth 100000 in
theorem specHalfway_any (sa la : Option Addr) (cs cl : Nat) (ss : List ByteArray) (ps : List Pat) (t : ByteArray) (kb : Bool) (r0 r1 : Option (Int × ByteArray)) (w : World) (hx : RdDv w (dvOf sa la cs cl ss ps)) (ht : t.size ≤ 1048576) (h0 : RS (liesL ss ps 0) r0) (h1 : RS (liesL ss ps 1) r1) :
    Calls Tryz.prog 17 #[.agg #[.slice sa ss.length cs, .slice la ps.length cl], .string t, .bool kb] w fun e w' => ToDv w (hwS ss ps (rootD ss ps r0 r1) t kb) [] e w' := by
  have HL0 : ∀ W, RdDv W (dvOf sa la cs cl ss ps) → Calls Tryz.prog 38 #[.agg #[.slice sa ss.length cs, .slice la ps.length cl], .string t] W fun e w' => NextP W ss ps (rootD ss ps r0 r1) t e w' := fun W h => l9Laid_any sa la cs cl ss ps t r0 r1 W h ht h0 h1
  generalize rootD ss ps r0 r1 = R at HL0 ⊢
  have HA : Hid (nextB ss ps R t = true → hwS ss ps R t kb = cutL (barS ss ps) [⟨nextTo R, slotS (R.2.1 + 1) t⟩] (keepOf [kb])) := fun h => by unfold hwS; rw [if_pos h]
  have HB : Hid (nextB ss ps R t = false → hwS ss ps R t kb = []) := fun h => by unfold hwS; rw [h]; rfl
  unfold NextP at HL0
  generalize nextB ss ps R t = nb at HL0 HA HB
  generalize hwS ss ps R t kb = SW at HA HB ⊢
  generalize slotS (R.2.1 + 1) t = N at HL0 HA
  generalize nextTo R = to at HL0 HA
  have HL : Hid (∀ W, RdDv W (dvOf sa la cs cl ss ps) → Calls Tryz.prog 38 #[.agg #[.slice sa ss.length cs, .slice la ps.length cl], .string t] W fun e w' => ∃ Y : DvX, e = .returned (.tuple #[.agg #[Y.vs, Y.vl], .bool nb]) ∧ OwnDv w' W.heap.size Y ∧ (nb = true → Y.secs = barS ss ps ∧ Y.late = [⟨to, N⟩]) ∧ Below W.heap.size W w') := HL0
  clear HL0 h0 h1
  have B0 : Bx (w.alloc (.cells #[.slice sa ss.length cs, .slice la ps.length cl] 27)) _ := (bx_nil w).new hx 27
  have b0 := below1 w (.cells #[.slice sa ss.length cs, .slice la ps.length cl] 27)
  have s0 : (w.alloc (.cells #[.slice sa ss.length cs, .slice la ps.length cl] 27)).heap.size = w.heap.size + 1 := by simp
  have b1 := below1 (w.alloc (.cells #[.slice sa ss.length cs, .slice la ps.length cl] 27)) (.cells #[.slice none 0 0, .slice none 0 0] 27)
  have B1 := B0.below b1
  have x1 := boxDv_new (w.alloc (.cells #[.slice sa ss.length cs, .slice la ps.length cl] 27)) (.slice none 0 0) (.slice none 0 0)
  rw [s0] at x1
  replace b1 := b0.trans (b1.mono b0.size)
  clear B0 b0 s0
  obtain ⟨c0, c1⟩ := B1.at _ sa la cs cl ss ps (.head _)
  go_enter Tryz.func17, Tryz.ntmps17
  go_wp2_with fail
  clear c0 c1
  generalize (w.alloc (.cells #[.slice sa ss.length cs, .slice la ps.length cl] 27)).alloc (.cells #[.slice none 0 0, .slice none 0 0] 27) = V at B1 b1 x1 ⊢
  refine (HL.out _ (B1.rd _ _ _ _ _ _ _ (.head _))).mono ?_
  rintro e V2 hc
  obtain ⟨Y, hee, hoY, hYn, hb⟩ := hc
  obtain ⟨na, nc, v0⟩ := own_slice hoY.secs
  obtain ⟨nla, nk, v1⟩ := own_slice hoY.late
  obtain ⟨nvs, nvl, nss, nps⟩ := Y
  simp only at v0 v1 hYn
  subst v0
  subst v1
  replace hee : e = .returned (.tuple #[.agg #[.slice na nss.length nc, .slice nla nps.length nk], .bool nb]) := hee
  subst hee
  have hn : RdDv V2 (dvOf na nla nc nk nss nps) := hoY.rd
  have bl := below1 V2 (.cells #[.slice na nss.length nc, .slice nla nps.length nk] 27)
  have N1 : Bx (V2.alloc (.cells #[.slice na nss.length nc, .slice nla nps.length nk] 27)) _ := (B1.below hb).new hn 27
  replace x1 := (x1.below hb).below bl
  replace b1 := b1.trans (hb.mono b1.size)
  replace b1 := b1.trans (bl.mono b1.size)
  clear hoY hb bl hn B1
  cases nb with
  | false =>
    obtain rfl := HB.out rfl
    generalize hW3 : V2.alloc (.cells #[.slice na nss.length nc, .slice nla nps.length nk] 27) = V3 at N1 x1 b1
    have HW3 : Hid (V2.alloc (.cells #[.slice na nss.length nc, .slice nla nps.length nk] 27) = V3) := hW3
    subst hW3
    clear HL HA HB N1
    obtain ⟨f0, f1, f2, f3⟩ := x1.facts
    have zz := (x1.set0 (u := .slice none 0 0)).set1 (u := .slice none 0 0)
    obtain ⟨k0, k1, -, -⟩ := zz.facts
    have HF : Hid (ToDv w ([]) ([]) (.returned (.agg #[.slice none 0 0, .slice none 0 0])) (((V2.alloc (.cells #[.slice na nss.length nc, .slice nla nps.length nk] 27)).setCell ⟨w.heap.size + 1, 0, none⟩ (.slice none 0 0)).setCell ⟨w.heap.size + 1, 1, none⟩ (.slice none 0 0))) :=
      ⟨⟨.slice none 0 0, .slice none 0 0, [], []⟩, rfl, rfl, rfl, ownDv_zero _ _, (b1.setCell (p := ⟨w.heap.size + 1, 0, none⟩) (by simp) _).setCell (p := ⟨w.heap.size + 1, 1, none⟩) (by simp) _⟩
    clear zz x1 b1
    go_wp2
    exact bodyPost_ret (v := .agg #[.slice none 0 0, .slice none 0 0]) (by simp [results, Tryz.results17, go_sem, k0, k1]) rfl HF.out
  | true =>
    obtain ⟨q1, q2⟩ := hYn rfl
    subst q1
    subst q2
    have bk := below1 (V2.alloc (.cells #[.slice na (barS ss ps).length nc, .slice nla ([⟨to, N⟩] : List Pat).length nk] 27)) (.cells #[.bool kb] 4)
    have hkb := oneK_rd (V2.alloc (.cells #[.slice na (barS ss ps).length nc, .slice nla ([⟨to, N⟩] : List Pat).length nk] 27)) kb
    obtain ⟨c0, c1⟩ := N1.at _ na nla nc nk _ _ (.head _)
    replace N1 := N1.below bk
    replace x1 := x1.below bk
    replace b1 := b1.trans (bk.mono b1.size)
    have sz : (V2.alloc (.cells #[.slice na (barS ss ps).length nc, .slice nla ([⟨to, N⟩] : List Pat).length nk] 27)).heap.size = V2.heap.size + 1 := by simp
    rw [sz] at hkb
    go_wp2_with fail
    clear c0 c1 bk sz
    generalize (V2.alloc (.cells #[.slice na (barS ss ps).length nc, .slice nla ([⟨to, N⟩] : List Pat).length nk] 27)).alloc (.cells #[.bool kb] 4) = V3 at N1 x1 b1 hkb ⊢
    refine (specCut_any (dvOf na nla nc nk (barS ss ps) [⟨to, N⟩]) _ [kb] _ (N1.rd _ _ _ _ _ _ _ (.head _)) hkb).mono ?_
    rintro e V4 hc
    replace hc : ToDv V3 (cutL (barS ss ps) [⟨to, N⟩] (keepOf [kb])) [] e V4 := hc
    clear N1 hkb
    obtain ⟨Y, hee, hYs, hYl, hoY, hb⟩ := hc
    have HLT : Hid (w.heap.size + 1 < V3.heap.size ∧ w.heap.size ≤ V3.heap.size) := ⟨x1.lt, b1.size⟩
    obtain ⟨ya, yc, v0⟩ := own_slice hoY.secs
    obtain ⟨yla, yk, v1⟩ := own_slice hoY.late
    obtain ⟨yvs, yvl, ysec, ylat⟩ := Y
    simp only at v0 v1 hYs hYl
    generalize ysec.length = yn at v0
    generalize ylat.length = ym at v1
    subst v0
    subst v1
    replace hee : e = .returned (.agg #[.slice ya yn yc, .slice yla ym yk]) := hee
    subst hee
    replace x1 := x1.below hb
    replace b1 := b1.trans (hb.mono b1.size)
    obtain ⟨f0, f1, f2, f3⟩ := x1.facts
    have zz := (x1.set0 (u := .slice ya yn yc)).set1 (u := .slice yla ym yk)
    obtain ⟨k0, k1, -, -⟩ := zz.facts
    have HF : Hid (ToDv w (SW) ([]) (.returned (.agg #[.slice ya yn yc, .slice yla ym yk])) ((V4.setCell ⟨w.heap.size + 1, 0, none⟩ (.slice ya yn yc)).setCell ⟨w.heap.size + 1, 1, none⟩ (.slice yla ym yk))) :=
      ⟨⟨.slice ya yn yc, .slice yla ym yk, ysec, ylat⟩, rfl, hYs.trans (HA.out (by simp)).symm, hYl, (own_put hoY HLT.out.1 _ _).mono HLT.out.2, (b1.setCell (p := ⟨w.heap.size + 1, 0, none⟩) (by simp) _).setCell (p := ⟨w.heap.size + 1, 1, none⟩) (by simp) _⟩
    clear zz x1 b1 hoY hYs hYl hb
    go_wp2
    exact bodyPost_ret (v := .agg #[.slice ya yn yc, .slice yla ym yk]) (by simp [results, Tryz.results17, go_sem, k0, k1]) rfl HF.out

end Go.Proofs.YtpidmmfjmbinkaaGreatDoor
