/- The contracts of the program's Switch and Halfway. What the row's list of tables gives the walks: the library's powers of ten. -/
import Derived.Test.YtpidmmfjmbinkaaGreatDoorSltSp
import Derived.Test.YtpidmmfjmbinkaaGreatDoorRows
import Derived.Test.YtpidmmfjmbinkaaGreatDoorG14
import Derived.Stop.LaidErr
import Derived.LaidMore
namespace Go.Proofs.YtpidmmfjmbinkaaGreatDoor
open Go.RowKit
set_option maxHeartbeats 8000000 in
set_option maxRecDepth 100000 in
theorem implSwitch_any (sa la : Option Addr) (cs cl : Nat) (ss : List ByteArray) (ps : List Pat) (t : ByteArray) (r0 r1 : Option (Int × ByteArray)) (a b : Addr) (w : World) (hx : RdDv w (dvOf sa la cs cl ss ps)) (ht : t.size ≤ 1048576) (h0 : RS (liesL ss ps 0) r0) (h1 : RS (liesL ss ps 1) r1) (he : SEnv3 w a b) :
    Calls Tryz.prog 6 #[.agg #[.slice sa ss.length cs, .slice la ps.length cl], .string t] w fun e w' => DvRes w (swS ss ps (rootD ss ps r0 r1) t) (swL ss ps (rootD ss ps r0 r1) t) (nextB ss ps (rootD ss ps r0 r1) t) e w' := by
  have HL0 : ∀ W, RdDv W (dvOf sa la cs cl ss ps) → SEnv3 W a b → Calls Tryz.prog 27 #[.agg #[.slice sa ss.length cs, .slice la ps.length cl], .string t] W fun e w' => NextP W ss ps (rootD ss ps r0 r1) t e w' := fun W h hs => withNext_any sa la cs cl ss ps t r0 r1 a b W h (by omega) h0 h1 hs
  generalize rootD ss ps r0 r1 = R at HL0 ⊢
  have HA : Hid (nextB ss ps R t = true → swS ss ps R t = cutL (barS ss ps) [⟨nextTo R, slotS (R.2.1 + 1) t⟩] (fun _ => true) ∧ swL ss ps R t = []) := fun h => by unfold swS swL; rw [if_pos h, if_pos h]; exact ⟨rfl, rfl⟩
  have HB : Hid (nextB ss ps R t = false → devOk ss ps = true → swS ss ps R t = ss ∧ swL ss ps R t = ps) := fun h h' => by unfold swS swL; rw [h, h']; exact ⟨rfl, rfl⟩
  have HC : Hid (devOk ss ps = false → nextB ss ps R t = false ∧ swS ss ps R t = [] ∧ swL ss ps R t = []) := fun h => by
    have e : nextB ss ps R t = false := by unfold nextB twoOk; rw [h]; rfl
    refine ⟨e, ?_⟩
    unfold swS swL
    rw [e, h]
    exact ⟨rfl, rfl⟩
  unfold NextP at HL0
  have HPL : Hid (devOk ss ps = true → ss.length ≤ 1000000 ∧ ps.length ≤ 1000000) := fun h => by have := (devOk_iff ss ps).1 h; omega
  generalize nextB ss ps R t = nb at HL0 HA HB HC ⊢
  generalize swS ss ps R t = SW at HA HB HC ⊢
  generalize swL ss ps R t = LW at HA HB HC ⊢
  generalize slotS (R.2.1 + 1) t = N at HL0 HA
  generalize nextTo R = to at HL0 HA
  have HL : Hid (∀ W, RdDv W (dvOf sa la cs cl ss ps) → SEnv3 W a b → Calls Tryz.prog 27 #[.agg #[.slice sa ss.length cs, .slice la ps.length cl], .string t] W fun e w' => ∃ Y : DvX, e = .returned (.tuple #[.agg #[Y.vs, Y.vl], .bool nb]) ∧ OwnDv w' W.heap.size Y ∧ (nb = true → Y.secs = barS ss ps ∧ Y.late = [⟨to, N⟩]) ∧ Below W.heap.size W w') := HL0
  clear HL0 h0 h1
  have B0 : Bx (w.alloc (.cells #[.slice sa ss.length cs, .slice la ps.length cl] 27)) _ := (bx_nil w).new hx 27
  have b0 := below1 w (.cells #[.slice sa ss.length cs, .slice la ps.length cl] 27)
  have s0 : (w.alloc (.cells #[.slice sa ss.length cs, .slice la ps.length cl] 27)).heap.size = w.heap.size + 1 := by simp
  have b1 := below1 (w.alloc (.cells #[.slice sa ss.length cs, .slice la ps.length cl] 27)) (.cells #[.slice none 0 0, .slice none 0 0] 27)
  have B1 := B0.below b1
  have x1 := boxDv_new (w.alloc (.cells #[.slice sa ss.length cs, .slice la ps.length cl] 27)) (.slice none 0 0) (.slice none 0 0)
  rw [s0] at x1
  replace b1 := b0.trans (b1.mono b0.size)
  have e1 := he.on b1
  clear B0 b0 s0
  obtain ⟨c0, c1⟩ := B1.at _ sa la cs cl ss ps (.head _)
  go_enter Tryz.func6, Tryz.ntmps6
  go_wp2_with fail
  clear c0 c1
  generalize (w.alloc (.cells #[.slice sa ss.length cs, .slice la ps.length cl] 27)).alloc (.cells #[.slice none 0 0, .slice none 0 0] 27) = V at B1 b1 x1 e1 ⊢

  refine (HL.out _ (B1.rd _ _ _ _ _ _ _ (.head _)) e1).mono ?_
  rintro e V2 hc
  obtain ⟨Y, hee, hoY, hYn, hb⟩ := hc
  obtain ⟨na, nc, v0⟩ := own_slice hoY.secs
  obtain ⟨nla, nk, v1⟩ := own_slice hoY.late
  obtain ⟨nvs, nvl, nss, nps⟩ := Y
  simp only at v0 v1 hYn
  subst v0
  subst v1
  replace hee : e = .returned (.tuple #[.agg #[.slice na nss.length nc, .slice nla nps.length nk], .bool nb]) := hee
  subst hee
  have hn : RdDv V2 (dvOf na nla nc nk nss nps) := hoY.rd
  have bl := below1 V2 (.cells #[.slice na nss.length nc, .slice nla nps.length nk] 27)
  have N1 : Bx (V2.alloc (.cells #[.slice na nss.length nc, .slice nla nps.length nk] 27)) _ := (B1.below hb).new hn 27
  replace x1 := (x1.below hb).below bl
  replace e1 := (e1.on hb).on bl
  replace b1 := b1.trans (hb.mono b1.size)
  replace b1 := b1.trans (bl.mono b1.size)
  clear hoY hb bl hn B1
  cases nb with
  | true =>
    obtain ⟨q1, q2⟩ := hYn rfl
    subst q1
    subst q2
    obtain ⟨c0, c1⟩ := N1.at _ na nla nc nk _ _ (.head _)
    go_wp2_with fail
    clear c0 c1
    generalize V2.alloc (.cells #[.slice na (barS ss ps).length nc, .slice nla ([⟨to, N⟩] : List Pat).length nk] 27) = V3 at N1 x1 b1 ⊢
    refine (implBarrier_any (dvOf na nla nc nk (barS ss ps) [⟨to, N⟩]) _ (N1.rd _ _ _ _ _ _ _ (.head _))).mono ?_
    rintro e V4 hc
    replace hc : ToDv V3 (cutL (barS ss ps) [⟨to, N⟩] (fun _ => true)) [] e V4 := hc
    clear N1
    obtain ⟨Y, hee, hYs, hYl, hoY, hb⟩ := hc
    have HLT : Hid (w.heap.size + 1 < V3.heap.size ∧ w.heap.size ≤ V3.heap.size) := ⟨x1.lt, b1.size⟩
    obtain ⟨ya, yc, v0⟩ := own_slice hoY.secs
    obtain ⟨yla, yk, v1⟩ := own_slice hoY.late
    obtain ⟨yvs, yvl, ysec, ylat⟩ := Y
    simp only at v0 v1 hYs hYl
    generalize ysec.length = yn at v0
    generalize ylat.length = ym at v1
    subst v0
    subst v1
    replace hee : e = .returned (.agg #[.slice ya yn yc, .slice yla ym yk]) := hee
    subst hee
    replace x1 := x1.below hb
    replace b1 := b1.trans (hb.mono b1.size)
    obtain ⟨f0, f1, f2, f3⟩ := x1.facts
    have zz := (x1.set0 (u := .slice ya yn yc)).set1 (u := .slice yla ym yk)
    obtain ⟨k0, k1, -, -⟩ := zz.facts
    have HF : Hid (DvRes w (SW) (LW) (true) (.returned (.tuple #[.agg #[.slice ya yn yc, .slice yla ym yk], .bool true])) ((V4.setCell ⟨w.heap.size + 1, 0, none⟩ (.slice ya yn yc)).setCell ⟨w.heap.size + 1, 1, none⟩ (.slice yla ym yk))) :=
      ⟨⟨.slice ya yn yc, .slice yla ym yk, ysec, ylat⟩, rfl, hYs.trans (HA.out (by simp)).1.symm, hYl.trans (HA.out (by simp)).2.symm, (own_put hoY HLT.out.1 _ _).mono HLT.out.2, (b1.setCell (p := ⟨w.heap.size + 1, 0, none⟩) (by simp) _).setCell (p := ⟨w.heap.size + 1, 1, none⟩) (by simp) _⟩
    clear zz x1 b1 hoY hYs hYl hb
    go_wp2
    exact bodyPost_ret (v := .tuple #[.agg #[.slice ya yn yc, .slice yla ym yk], .bool true]) (by simp [results, Tryz.results6, go_sem, k0, k1]) rfl HF.out
  | false =>
    obtain ⟨c0, c1⟩ := N1.at _ sa la cs cl ss ps (.tail _ (.head _))
    go_wp2_with fail
    clear c0 c1
    generalize V2.alloc (.cells #[.slice na nss.length nc, .slice nla nps.length nk] 27) = V3 at N1 x1 b1 ⊢
    refine (implDeviceOk_any (dvOf sa la cs cl ss ps) _ (N1.rd _ _ _ _ _ _ _ (.tail _ (.head _)))).mono ?_
    rintro e V5 ⟨hee, hb⟩
    replace hee : e = .returned (.bool (devOk ss ps)) := hee
    subst hee
    replace N1 := N1.below hb
    replace x1 := x1.below hb
    replace b1 := b1.trans (hb.mono b1.size)
    clear hb
    obtain ⟨ok, hok⟩ : ∃ ok, ok = devOk ss ps := ⟨_, rfl⟩
    have HOK0 : Hid (ok = devOk ss ps) := hok
    rw [← hok]
    clear hok
    cases ok with
    | false =>
      obtain ⟨e0, e2, e3⟩ := HC.out HOK0.out.symm
      subst e2
      subst e3
      clear HL HA HB HC N1
      obtain ⟨f0, f1, f2, f3⟩ := x1.facts
      have zz := (x1.set0 (u := .slice none 0 0)).set1 (u := .slice none 0 0)
      obtain ⟨k0, k1, -, -⟩ := zz.facts
      have HF : Hid (DvRes w ([]) ([]) (false) (.returned (.tuple #[.agg #[.slice none 0 0, .slice none 0 0], .bool false])) ((V5.setCell ⟨w.heap.size + 1, 0, none⟩ (.slice none 0 0)).setCell ⟨w.heap.size + 1, 1, none⟩ (.slice none 0 0))) :=
        ⟨⟨.slice none 0 0, .slice none 0 0, [], []⟩, rfl, rfl, rfl, ownDv_zero _ _, (b1.setCell (p := ⟨w.heap.size + 1, 0, none⟩) (by simp) _).setCell (p := ⟨w.heap.size + 1, 1, none⟩) (by simp) _⟩
      clear zz x1 b1
      go_wp2
      exact bodyPost_ret (v := .tuple #[.agg #[.slice none 0 0, .slice none 0 0], .bool false]) (by simp [results, Tryz.results6, go_sem, k0, k1]) rfl HF.out
    | true =>
      have HOK : Hid (devOk ss ps = true) := HOK0.out.symm
      clear HOK0
      obtain ⟨c0, c1⟩ := N1.at _ sa la cs cl ss ps (.tail _ (.head _))
      go_wp2_with fail
      clear c0 c1
      refine (copiedDv_any (dvOf sa la cs cl ss ps) _ (N1.rd _ _ _ _ _ _ _ (.tail _ (.head _))) (HPL.out HOK.out).1 (HPL.out HOK.out).2).mono ?_
      rintro e V4 hc
      replace hc : ToDv V5 ss ps e V4 := hc
      clear N1
      obtain ⟨Y, hee, hYs, hYl, hoY, hb⟩ := hc
      have HLT : Hid (w.heap.size + 1 < V5.heap.size ∧ w.heap.size ≤ V5.heap.size) := ⟨x1.lt, b1.size⟩
      obtain ⟨ya, yc, v0⟩ := own_slice hoY.secs
      obtain ⟨yla, yk, v1⟩ := own_slice hoY.late
      obtain ⟨yvs, yvl, ysec, ylat⟩ := Y
      simp only at v0 v1 hYs hYl
      generalize ysec.length = yn at v0
      generalize ylat.length = ym at v1
      subst v0
      subst v1
      replace hee : e = .returned (.agg #[.slice ya yn yc, .slice yla ym yk]) := hee
      subst hee
      replace x1 := x1.below hb
      replace b1 := b1.trans (hb.mono b1.size)
      obtain ⟨f0, f1, f2, f3⟩ := x1.facts
      have zz := (x1.set0 (u := .slice ya yn yc)).set1 (u := .slice yla ym yk)
      obtain ⟨k0, k1, -, -⟩ := zz.facts
      have HF : Hid (DvRes w (SW) (LW) (false) (.returned (.tuple #[.agg #[.slice ya yn yc, .slice yla ym yk], .bool false])) ((V4.setCell ⟨w.heap.size + 1, 0, none⟩ (.slice ya yn yc)).setCell ⟨w.heap.size + 1, 1, none⟩ (.slice yla ym yk))) :=
        ⟨⟨.slice ya yn yc, .slice yla ym yk, ysec, ylat⟩, rfl, hYs.trans (HB.out (by simp) HOK.out).1.symm, hYl.trans (HB.out (by simp) HOK.out).2.symm, (own_put hoY HLT.out.1 _ _).mono HLT.out.2, (b1.setCell (p := ⟨w.heap.size + 1, 0, none⟩) (by simp) _).setCell (p := ⟨w.heap.size + 1, 1, none⟩) (by simp) _⟩
      clear zz x1 b1 hoY hYs hYl hb
      go_wp2
      exact bodyPost_ret (v := .tuple #[.agg #[.slice ya yn yc, .slice yla ym yk], .bool false]) (by simp [results, Tryz.results6, go_sem, k0, k1]) rfl HF.out

set_option maxHeartbeats 8000000 in
set_option maxRecDepth 100000 in
theorem implHalfway_any (sa la : Option Addr) (cs cl : Nat) (ss : List ByteArray) (ps : List Pat) (t : ByteArray) (kb : Bool) (r0 r1 : Option (Int × ByteArray)) (a b : Addr) (w : World) (hx : RdDv w (dvOf sa la cs cl ss ps)) (ht : t.size ≤ 1048576) (h0 : RS (liesL ss ps 0) r0) (h1 : RS (liesL ss ps 1) r1) (he : SEnv3 w a b) :
    Calls Tryz.prog 8 #[.agg #[.slice sa ss.length cs, .slice la ps.length cl], .string t, .bool kb] w fun e w' => ToDv w (hwS ss ps (rootD ss ps r0 r1) t kb) [] e w' := by
  have HL0 : ∀ W, RdDv W (dvOf sa la cs cl ss ps) → SEnv3 W a b → Calls Tryz.prog 27 #[.agg #[.slice sa ss.length cs, .slice la ps.length cl], .string t] W fun e w' => NextP W ss ps (rootD ss ps r0 r1) t e w' := fun W h hs => withNext_any sa la cs cl ss ps t r0 r1 a b W h (by omega) h0 h1 hs
  generalize rootD ss ps r0 r1 = R at HL0 ⊢
  have HA : Hid (nextB ss ps R t = true → hwS ss ps R t kb = cutL (barS ss ps) [⟨nextTo R, slotS (R.2.1 + 1) t⟩] (keepOf [kb])) := fun h => by unfold hwS; rw [if_pos h]
  have HB : Hid (nextB ss ps R t = false → hwS ss ps R t kb = []) := fun h => by unfold hwS; rw [h]; rfl
  unfold NextP at HL0
  generalize nextB ss ps R t = nb at HL0 HA HB
  generalize hwS ss ps R t kb = SW at HA HB ⊢
  generalize slotS (R.2.1 + 1) t = N at HL0 HA
  generalize nextTo R = to at HL0 HA
  have HL : Hid (∀ W, RdDv W (dvOf sa la cs cl ss ps) → SEnv3 W a b → Calls Tryz.prog 27 #[.agg #[.slice sa ss.length cs, .slice la ps.length cl], .string t] W fun e w' => ∃ Y : DvX, e = .returned (.tuple #[.agg #[Y.vs, Y.vl], .bool nb]) ∧ OwnDv w' W.heap.size Y ∧ (nb = true → Y.secs = barS ss ps ∧ Y.late = [⟨to, N⟩]) ∧ Below W.heap.size W w') := HL0
  clear HL0 h0 h1
  have B0 : Bx (w.alloc (.cells #[.slice sa ss.length cs, .slice la ps.length cl] 27)) _ := (bx_nil w).new hx 27
  have b0 := below1 w (.cells #[.slice sa ss.length cs, .slice la ps.length cl] 27)
  have s0 : (w.alloc (.cells #[.slice sa ss.length cs, .slice la ps.length cl] 27)).heap.size = w.heap.size + 1 := by simp
  have b1 := below1 (w.alloc (.cells #[.slice sa ss.length cs, .slice la ps.length cl] 27)) (.cells #[.slice none 0 0, .slice none 0 0] 27)
  have B1 := B0.below b1
  have x1 := boxDv_new (w.alloc (.cells #[.slice sa ss.length cs, .slice la ps.length cl] 27)) (.slice none 0 0) (.slice none 0 0)
  rw [s0] at x1
  replace b1 := b0.trans (b1.mono b0.size)
  have e1 := he.on b1
  clear B0 b0 s0
  obtain ⟨c0, c1⟩ := B1.at _ sa la cs cl ss ps (.head _)
  go_enter Tryz.func8, Tryz.ntmps8
  go_wp2_with fail
  clear c0 c1
  generalize (w.alloc (.cells #[.slice sa ss.length cs, .slice la ps.length cl] 27)).alloc (.cells #[.slice none 0 0, .slice none 0 0] 27) = V at B1 b1 x1 e1 ⊢
  refine (HL.out _ (B1.rd _ _ _ _ _ _ _ (.head _)) e1).mono ?_
  rintro e V2 hc
  obtain ⟨Y, hee, hoY, hYn, hb⟩ := hc
  obtain ⟨na, nc, v0⟩ := own_slice hoY.secs
  obtain ⟨nla, nk, v1⟩ := own_slice hoY.late
  obtain ⟨nvs, nvl, nss, nps⟩ := Y
  simp only at v0 v1 hYn
  subst v0
  subst v1
  replace hee : e = .returned (.tuple #[.agg #[.slice na nss.length nc, .slice nla nps.length nk], .bool nb]) := hee
  subst hee
  have hn : RdDv V2 (dvOf na nla nc nk nss nps) := hoY.rd
  have bl := below1 V2 (.cells #[.slice na nss.length nc, .slice nla nps.length nk] 27)
  have N1 : Bx (V2.alloc (.cells #[.slice na nss.length nc, .slice nla nps.length nk] 27)) _ := (B1.below hb).new hn 27
  replace x1 := (x1.below hb).below bl
  replace e1 := (e1.on hb).on bl
  replace b1 := b1.trans (hb.mono b1.size)
  replace b1 := b1.trans (bl.mono b1.size)
  clear hoY hb bl hn B1
  cases nb with
  | false =>
    obtain rfl := HB.out rfl
    generalize hW3 : V2.alloc (.cells #[.slice na nss.length nc, .slice nla nps.length nk] 27) = V3 at N1 x1 b1
    have HW3 : Hid (V2.alloc (.cells #[.slice na nss.length nc, .slice nla nps.length nk] 27) = V3) := hW3
    subst hW3
    clear HL HA HB N1
    obtain ⟨f0, f1, f2, f3⟩ := x1.facts
    have zz := (x1.set0 (u := .slice none 0 0)).set1 (u := .slice none 0 0)
    obtain ⟨k0, k1, -, -⟩ := zz.facts
    have HF : Hid (ToDv w ([]) ([]) (.returned (.agg #[.slice none 0 0, .slice none 0 0])) (((V2.alloc (.cells #[.slice na nss.length nc, .slice nla nps.length nk] 27)).setCell ⟨w.heap.size + 1, 0, none⟩ (.slice none 0 0)).setCell ⟨w.heap.size + 1, 1, none⟩ (.slice none 0 0))) :=
      ⟨⟨.slice none 0 0, .slice none 0 0, [], []⟩, rfl, rfl, rfl, ownDv_zero _ _, (b1.setCell (p := ⟨w.heap.size + 1, 0, none⟩) (by simp) _).setCell (p := ⟨w.heap.size + 1, 1, none⟩) (by simp) _⟩
    clear zz x1 b1
    go_wp2
    exact bodyPost_ret (v := .agg #[.slice none 0 0, .slice none 0 0]) (by simp [results, Tryz.results8, go_sem, k0, k1]) rfl HF.out
  | true =>
    obtain ⟨q1, q2⟩ := hYn rfl
    subst q1
    subst q2
    have bk := below1 (V2.alloc (.cells #[.slice na (barS ss ps).length nc, .slice nla ([⟨to, N⟩] : List Pat).length nk] 27)) (.cells #[.bool kb] 4)
    have hkb := oneK_rd (V2.alloc (.cells #[.slice na (barS ss ps).length nc, .slice nla ([⟨to, N⟩] : List Pat).length nk] 27)) kb
    obtain ⟨c0, c1⟩ := N1.at _ na nla nc nk _ _ (.head _)
    replace N1 := N1.below bk
    replace x1 := x1.below bk
    replace b1 := b1.trans (bk.mono b1.size)
    have sz : (V2.alloc (.cells #[.slice na (barS ss ps).length nc, .slice nla ([⟨to, N⟩] : List Pat).length nk] 27)).heap.size = V2.heap.size + 1 := by simp
    rw [sz] at hkb
    go_wp2_with fail
    clear c0 c1 bk sz
    generalize (V2.alloc (.cells #[.slice na (barS ss ps).length nc, .slice nla ([⟨to, N⟩] : List Pat).length nk] 27)).alloc (.cells #[.bool kb] 4) = V3 at N1 x1 b1 hkb ⊢
    refine (implCut_any (dvOf na nla nc nk (barS ss ps) [⟨to, N⟩]) _ [kb] _ (N1.rd _ _ _ _ _ _ _ (.head _)) hkb).mono ?_
    rintro e V4 hc
    replace hc : ToDv V3 (cutL (barS ss ps) [⟨to, N⟩] (keepOf [kb])) [] e V4 := hc
    clear N1 hkb
    obtain ⟨Y, hee, hYs, hYl, hoY, hb⟩ := hc
    have HLT : Hid (w.heap.size + 1 < V3.heap.size ∧ w.heap.size ≤ V3.heap.size) := ⟨x1.lt, b1.size⟩
    obtain ⟨ya, yc, v0⟩ := own_slice hoY.secs
    obtain ⟨yla, yk, v1⟩ := own_slice hoY.late
    obtain ⟨yvs, yvl, ysec, ylat⟩ := Y
    simp only at v0 v1 hYs hYl
    generalize ysec.length = yn at v0
    generalize ylat.length = ym at v1
    subst v0
    subst v1
    replace hee : e = .returned (.agg #[.slice ya yn yc, .slice yla ym yk]) := hee
    subst hee
    replace x1 := x1.below hb
    replace b1 := b1.trans (hb.mono b1.size)
    obtain ⟨f0, f1, f2, f3⟩ := x1.facts
    have zz := (x1.set0 (u := .slice ya yn yc)).set1 (u := .slice yla ym yk)
    obtain ⟨k0, k1, -, -⟩ := zz.facts
    have HF : Hid (ToDv w (SW) ([]) (.returned (.agg #[.slice ya yn yc, .slice yla ym yk])) ((V4.setCell ⟨w.heap.size + 1, 0, none⟩ (.slice ya yn yc)).setCell ⟨w.heap.size + 1, 1, none⟩ (.slice yla ym yk))) :=
      ⟨⟨.slice ya yn yc, .slice yla ym yk, ysec, ylat⟩, rfl, hYs.trans (HA.out (by simp)).symm, hYl, (own_put hoY HLT.out.1 _ _).mono HLT.out.2, (b1.setCell (p := ⟨w.heap.size + 1, 0, none⟩) (by simp) _).setCell (p := ⟨w.heap.size + 1, 1, none⟩) (by simp) _⟩
    clear zz x1 b1 hoY hYs hYl hb
    go_wp2
    exact bodyPost_ret (v := .agg #[.slice ya yn yc, .slice yla ym yk]) (by simp [results, Tryz.results8, go_sem, k0, k1]) rfl HF.out

end Go.Proofs.YtpidmmfjmbinkaaGreatDoor
namespace Go.Proofs.YtpidmmfjmbinkaaGreatDoor
open Go.RowKit
theorem gPow : Tryz.prog.globalNamed "internal/strconv.uint64pow10" = some 3 := by kernel_rfl
theorem tPow : (Tryz.prog.globals[3]?).map (·.type) = some 145 := by kernel_rfl
theorem dPow : (Rows.laid_internal_strconv_uint64pow10 : DataW Unit) = Lib.tabData .u64 Lib.pow10Tab := by kernel_rfl
/-- The list of the three tables. -/
abbrev laid3 : List (String × DataW Unit) := [("math/bits.deBruijn32tab", Rows.laid_math_bits_deBruijn32tab), ("math/bits.deBruijn64tab", Rows.laid_math_bits_deBruijn64tab), ("internal/strconv.uint64pow10", Rows.laid_internal_strconv_uint64pow10)]
theorem tab_of_laid {W : World} (h : laidMetH Tryz.prog laid3 W) : Tab W := by
  rw [MakeChecks.laidMetH_plain _ _ _ (by kernel_rfl)] at h
  have h2 := h.tail.tail
  rw [dPow] at h2
  exact Lib.tabIs_of_head gPow tPow Tryz.underlying145 Tryz.underlying113 (by kernel_rfl) (by kernel_rfl) h2
end Go.Proofs.YtpidmmfjmbinkaaGreatDoor
