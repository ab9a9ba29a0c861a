/- The contract of the laws' own marks of rows of Blocks. The contract of the laws' own looks at the marks of rows of Blocks. -/
import Derived.Test.YtilhaokiohbeeaaGreatDoorG14
-- UNF Gen
namespace Go.Proofs.YtilhaokiohbeeaaGreatDoor
open Go.RowKit
/-- What the marks of rows of Blocks leave. -/
def MarkBs (w : World) (B k : Nat) (v : Value) (ts : List BlX) (e : Ending) (w' : World) : Prop :=
  e = .returned (.int .i64 ((k + cntB ts : Nat) : Int)) ∧ OwnBL w' B v (bmkTo k ts ts.length) ∧ Touch (oneB v ++ bblks ts) w w'
set_option maxHeartbeats 4000000 in
set_option maxRecDepth 100000 in
theorem markBlocks_any (v : Value) (ts : List BlX) (B k : Nat) (w : World) (ho : OwnBL w B v ts) (hk0 : 0 < k) (hkn : k + cntB ts ≤ 8388608) :
    Calls Tryz.prog 121 #[v, .int .i64 (k : Int)] w fun e w' => MarkBs w B k v ts e w' := by
  rcases ho.row.2 with ⟨hv, h0⟩ | ⟨g, cap, cur, hv, hBg, hg, hn, hc, _⟩
  · have : ts = [] := List.length_eq_zero_iff.1 h0
    subst this
    subst hv
    have END : Hid (MarkBs w B k (.slice none 0 0) [] (.returned (.int .i64 (k : Int))) w) := ⟨by simp [cntB], ho, Touch.refl _ _⟩
    go_enter Tryz.func121, Tryz.ntmps121
    go_wp2
    refine wp_loop_rounds 1 ?_
    rw [rounds_succ]
    go_wp2
    go_ret
    exact END.out
  · subst hv
    unfold maxLen at hc
    obtain ⟨nn, hnn⟩ : ∃ nn, nn = ts.length := ⟨_, rfl⟩
    have HNN : Hid (nn = ts.length) := hnn
    rw [← hnn] at ho hn ⊢
    have HKB : Hid (k + cntB ts ≤ 8388608) := hkn
    clear hkn
    have HGB : Hid (g ∈ oneB (.slice (some ⟨g, 0, none⟩) nn cap) ++ bblks ts) := List.mem_append_left _ (mem_oneB.2 rfl)
    clear hg hnn
    have ST0 : OwnBL w B (.slice (some ⟨g, 0, none⟩) nn cap) (bmkTo k ts 0 ++ ts.drop 0) := ho
    go_enter Tryz.func121, Tryz.ntmps121
    go_wp2
    go_loopw [1, 5] (fun kk i wr => ∃ (j z : Nat), j ≤ nn ∧ i = .int .i64 j ∧ kk = .int .i64 (z : Int) ∧ Hid (z = k + cntB (ts.take j)) ∧ Hid (OwnBL wr B (.slice (some ⟨g, 0, none⟩) nn cap) (bmkTo k ts j ++ ts.drop j)) ∧ Hid (Touch (oneB (.slice (some ⟨g, 0, none⟩) nn cap) ++ bblks ts) w wr)) (fun _ i _ => nn - (intOf i).toNat)
    case atStart => exact ⟨0, k, Nat.zero_le _, rfl, rfl, by unfold Hid; simp [cntB], ST0, Touch.refl _ _⟩
    case round =>
      obtain ⟨j, z, hj, rfl, rfl, HZ, HO, HT⟩ := hrel
      clear ST0 ho
      by_cases hlt : j < nn
      · have hjl : j < ts.length := by rw [← HNN.out]; exact hlt
        have hjc : j < cap := by omega
        have hz0 : 0 < z := by have := HZ.out; omega
        have hkn : k + cntB ts ≤ 8388608 := HKB.out
        have hct := cntB_take hjl
        have hcl := cntB_le (ts := ts) (k := j + 1)
        have HNT : Hid (nthBs (bmkTo k ts j ++ ts.drop j) j = nthBs ts j) := bmk_nth hjl
        have HLN : Hid ((bmkTo k ts j ++ ts.drop j).length = nn) := by unfold Hid; rw [bmk_len (by omega), HNN.out]
        have HSTP : Hid ((bmkTo k ts j ++ ts.drop j).set j (mkB z (nthBs ts j)) = bmkTo k ts (j + 1) ++ ts.drop (j + 1)) := by unfold Hid; rw [HZ.out]; exact bmk_step hjl
        have HZN : Hid (z + 5 + (nthBs ts j).b.p.sv.length + (nthBs ts j).b.p.tg.length + (nthBs ts j).b.mo.length = k + cntB (ts.take (j + 1))) := by unfold Hid; have := HZ.out; omega
        have hzn : z + 5 + (nthBs ts j).b.p.sv.length + (nthBs ts j).b.p.tg.length + (nthBs ts j).b.mo.length ≤ 8388608 := by have := HZ.out; omega
        have HSUB : Hid (∀ q ∈ oneB (.slice (some ⟨g, 0, none⟩) nn cap) ++ blB (nthBs ts j), q ∈ oneB (.slice (some ⟨g, 0, none⟩) nn cap) ++ bblks ts) := fun q hq => by
          rcases List.mem_append.1 hq with hq | hq
          · exact List.mem_append_left _ hq
          · exact List.mem_append_right _ (blB_sub (by rw [nthBs_eq hjl]; exact List.getElem_mem hjl) hq)
        generalize bmkTo k ts j ++ ts.drop j = us at HO HNT HLN HSTP
        clear hct hcl hjl hkn
        have hlu : j < us.length := by rw [HLN.out]; exact hlt
        have e0 := HNT.out
        rw [← e0] at HSTP HZN hzn HSUB
        have HOT : OwnBl wr B (nthBs us j) := (inOB_at.1 HO.out.ins) j hlu
        obtain ⟨T, hTU⟩ : ∃ T, T = nthBs us j := ⟨_, rfl⟩
        rw [← hTU] at HSTP HZN hzn HSUB HOT
        obtain ⟨⟨vw, pa, ⟨pv, pn, sv, tg⟩, mo, sr⟩, vs, vt, vm⟩ := T
        have HTU : Hid ((⟨⟨vw, pa, ⟨pv, pn, sv, tg⟩, mo, sr⟩, vs, vt, vm⟩ : BlX) = nthBs us j) := hTU
        have HNG : Hid (∀ q ∈ blB (⟨⟨vw, pa, ⟨pv, pn, sv, tg⟩, mo, sr⟩, vs, vt, vm⟩ : BlX), q ≠ g) := fun q hq e => by
          subst e
          have hn := List.nodup_append.1 HO.out.nod
          rw [hTU] at hq
          exact hn.2.2 q (mem_oneB.2 rfl) q (blB_sub (by rw [nthBs_eq hlu]; exact List.getElem_mem hlu) hq) rfl
        clear e0 hTU HNT
        simp only at HZN hzn
        obtain ⟨sn, hsn⟩ : ∃ sn, sn = sv.length := ⟨_, rfl⟩
        obtain ⟨tn, htn⟩ : ∃ tn, tn = tg.length := ⟨_, rfl⟩
        obtain ⟨mn, hmn⟩ : ∃ mn, mn = mo.length := ⟨_, rfl⟩
        have HMK : Hid (mkB z (⟨⟨vw, pa, ⟨pv, pn, sv, tg⟩, mo, sr⟩, vs, vt, vm⟩ : BlX) = ⟨⟨(z : Int), (z : Int) + 1, ⟨(z : Int) + 2, (z : Int) + 3, imarks (z + 4) sn, imarks (z + 4 + sn) tn⟩, smarks (z + 4 + sn + tn) mn, ((z + 4 + sn + tn + mn : Nat) : Int)⟩, vs, vt, vm⟩) := by unfold Hid mkB; rw [hsn, htn, hmn]
        rw [← hsn, ← htn, ← hmn] at HZN hzn
        have HSN : Hid (sn = sv.length) := hsn
        have HTN : Hid (tn = tg.length) := htn
        have HMN : Hid (mn = mo.length) := hmn
        clear hsn htn hmn
        -- THE FOUR NUMBERS
        have hrow0 : wr.ownsRow B 34 8 (.slice (some ⟨g, 0, none⟩) nn cap) nn (BsV us) := by have := HO.out.row; unfold OwnBs at this; rw [HLN.out] at this; exact this
        obtain ⟨d0, d1, d2, d3, d4, d5, d6, d7⟩ := ownBs_cell hrow0 HLN.out.symm j hlt
        rw [← HTU.out] at d0 d1 d2 d3 d4 d5 d6 d7
        have f0 := hrow0.frozenAt (j * 8)
        have f1 := hrow0.frozenAt (j * 8 + 1)
        have f2 := hrow0.frozenAt (j * 8 + 2)
        have f3 := hrow0.frozenAt (j * 8 + 3)
        have h0 := ownBs_store hrow0 hlu (j := 0) (by omega) (u := .int .i64 (z : Int)) (e' := ⟨⟨(z : Int), pa, ⟨pv, pn, sv, tg⟩, mo, sr⟩, vs, vt, vm⟩) (by rw [← HTU.out]; rfl)
        have h1 := ownBs_store h0 (k := j) (j := 1) (by rw [List.length_set]; exact hlu) (by omega) (u := .int .i64 ((z : Int) + 1)) (e' := ⟨⟨(z : Int), ((z : Int) + 1), ⟨pv, pn, sv, tg⟩, mo, sr⟩, vs, vt, vm⟩) (by rw [nthBs_set_same hlu]; rfl)
        rw [List.set_set] at h1
        have h2 := ownBs_store h1 (k := j) (j := 2) (by rw [List.length_set]; exact hlu) (by omega) (u := .int .i64 ((z : Int) + 2)) (e' := ⟨⟨(z : Int), ((z : Int) + 1), ⟨((z : Int) + 2), pn, sv, tg⟩, mo, sr⟩, vs, vt, vm⟩) (by rw [nthBs_set_same hlu]; rfl)
        rw [List.set_set] at h2
        have h3 := ownBs_store h2 (k := j) (j := 3) (by rw [List.length_set]; exact hlu) (by omega) (u := .int .i64 ((z : Int) + 3)) (e' := ⟨⟨(z : Int), ((z : Int) + 1), ⟨((z : Int) + 2), ((z : Int) + 3), sv, tg⟩, mo, sr⟩, vs, vt, vm⟩) (by rw [nthBs_set_same hlu]; rfl)
        rw [List.set_set] at h3
        have R1 : Hid (World.ownsRow ((((wr.setCell ⟨g, j * 8, none⟩ (.int .i64 (z : Int))).setCell ⟨g, j * 8 + 1, none⟩ (.int .i64 ((z : Int) + 1))).setCell ⟨g, j * 8 + 2, none⟩ (.int .i64 ((z : Int) + 2))).setCell ⟨g, j * 8 + 3, none⟩ (.int .i64 ((z : Int) + 3))) B 34 8 (.slice (some ⟨g, 0, none⟩) nn cap) nn (BsV (us.set j ⟨⟨(z : Int), ((z : Int) + 1), ⟨((z : Int) + 2), ((z : Int) + 3), sv, tg⟩, mo, sr⟩, vs, vt, vm⟩))) := h3
        have TT1 : Hid (Touch [g] wr ((((wr.setCell ⟨g, j * 8, none⟩ (.int .i64 (z : Int))).setCell ⟨g, j * 8 + 1, none⟩ (.int .i64 ((z : Int) + 1))).setCell ⟨g, j * 8 + 2, none⟩ (.int .i64 ((z : Int) + 2))).setCell ⟨g, j * 8 + 3, none⟩ (.int .i64 ((z : Int) + 3)))) := (((Touch.set (List.mem_singleton.2 rfl)).trans (Touch.set (List.mem_singleton.2 rfl))).trans (Touch.set (List.mem_singleton.2 rfl))).trans (Touch.set (List.mem_singleton.2 rfl))
        have O1 : Hid (OwnBl ((((wr.setCell ⟨g, j * 8, none⟩ (.int .i64 (z : Int))).setCell ⟨g, j * 8 + 1, none⟩ (.int .i64 ((z : Int) + 1))).setCell ⟨g, j * 8 + 2, none⟩ (.int .i64 ((z : Int) + 2))).setCell ⟨g, j * 8 + 3, none⟩ (.int .i64 ((z : Int) + 3))) B (⟨⟨vw, pa, ⟨pv, pn, sv, tg⟩, mo, sr⟩, vs, vt, vm⟩ : BlX)) := HOT.touch TT1.out (fun q hq e => HNG.out q hq (List.mem_singleton.1 e))
        have hl3 : nn = (us.set j (⟨⟨(z : Int), ((z : Int) + 1), ⟨((z : Int) + 2), ((z : Int) + 3), sv, tg⟩, mo, sr⟩, vs, vt, vm⟩ : BlX)).length := by rw [List.length_set]; exact HLN.out.symm
        have c1 := (ownBs_cell R1.out hl3 j hlt).2.2.2.2.1
        rw [nthBs_set_same hlu] at c1
        have HL3 : Hid (nn = (us.set j (⟨⟨(z : Int), ((z : Int) + 1), ⟨((z : Int) + 2), ((z : Int) + 3), sv, tg⟩, mo, sr⟩, vs, vt, vm⟩ : BlX)).length) := hl3
        have HN3 : Hid (nthBs (us.set j (⟨⟨(z : Int), ((z : Int) + 1), ⟨((z : Int) + 2), ((z : Int) + 3), sv, tg⟩, mo, sr⟩, vs, vt, vm⟩ : BlX)) j = (⟨⟨(z : Int), ((z : Int) + 1), ⟨((z : Int) + 2), ((z : Int) + 3), sv, tg⟩, mo, sr⟩, vs, vt, vm⟩ : BlX)) := nthBs_set_same hlu _
        have w1 : IntKind.i64.wrap ((z : Int) + 1) = (z : Int) + 1 := wrap_z z 1 (by omega)
        have w2 : IntKind.i64.wrap ((z : Int) + 2) = (z : Int) + 2 := wrap_z z 2 (by omega)
        have w3 : IntKind.i64.wrap ((z : Int) + 3) = (z : Int) + 3 := wrap_z z 3 (by omega)
        have w4 : IntKind.i64.wrap ((z : Int) + 4) = (z : Int) + 4 := wrap_z z 4 (by omega)
        have v2 : (z : Int) + 1 + 1 = (z : Int) + 2 := by omega
        have v3 : (z : Int) + 2 + 1 = (z : Int) + 3 := by omega
        have v4 : (z : Int) + 3 + 1 = (z : Int) + 4 := by omega
        simp only at d0 d1 d2 d3 d4 c1
        clear hrow0 h0 h1 h2 h3 hl3 HOT d5 d6 d7
        go_wp2_with fail
        generalize ((((wr.setCell ⟨g, j * 8, none⟩ (.int .i64 (z : Int))).setCell ⟨g, j * 8 + 1, none⟩ (.int .i64 ((z : Int) + 1))).setCell ⟨g, j * 8 + 2, none⟩ (.int .i64 ((z : Int) + 2))).setCell ⟨g, j * 8 + 3, none⟩ (.int .i64 ((z : Int) + 3))) = V1 at R1 TT1 O1 c1 ⊢
        clear d0 d1 d2 d3 d4 f0 f1 f2 f3 w1 w2 w3 w4 v2 v3 v4
        -- THE SERVERS
        refine (imarkB_at vs sv B _ (z + 4) _ (by omega) (by have := HSN.out; omega) O1.out.pr.sv).mono ?_
        rintro e u2 ⟨rfl, hi2, hg2⟩
        rw [← HSN.out] at hi2 ⊢
        have tch2 : Touch (oneB vs) V1 u2 := Touch.of_grown hg2 (fun q hq => mem_oneB.2 hq)
        have R2 : Hid (World.ownsRow u2 B 34 8 (.slice (some ⟨g, 0, none⟩) nn cap) nn (BsV (us.set j ⟨⟨(z : Int), ((z : Int) + 1), ⟨((z : Int) + 2), ((z : Int) + 3), sv, tg⟩, mo, sr⟩, vs, vt, vm⟩))) := tch2.row R1.out (fun q hq e => HNG.out q (List.mem_append_left _ (List.mem_append_left _ e)) (Option.some.inj hq).symm)
        have O2t : Hid (OwnI u2 B vt tg) := tch2.row O1.out.pr.tg (fun q hq e => O1.out.pr.two q (mem_oneB.1 e) hq)
        have O2m : Hid (OwnS u2 B vm mo) := tch2.row O1.out.mo (fun q hq e => O1.out.apS q (mem_oneB.1 e) hq)
        have O2s : Hid (OwnI u2 B vs (imarks (z + 4) sn)) := hi2
        have TT2 : Hid (Touch (g :: blB (⟨⟨vw, pa, ⟨pv, pn, sv, tg⟩, mo, sr⟩, vs, vt, vm⟩ : BlX)) wr u2) := (TT1.out.more (fun q hq => by rw [List.mem_singleton.1 hq]; exact List.mem_cons_self)).trans (tch2.more (fun q hq => List.mem_cons_of_mem _ (List.mem_append_left _ (List.mem_append_left _ hq))))
        have AP : Hid (OwnBl V1 B (⟨⟨vw, pa, ⟨pv, pn, sv, tg⟩, mo, sr⟩, vs, vt, vm⟩ : BlX)) := O1
        have c2 := (ownBs_cell R2.out HL3.out j hlt).2.2.2.2.2.1
        rw [HN3.out] at c2
        simp only at c2
        clear hi2 hg2 tch2 R1 TT1 O1 c1
        -- THE TAGS
        go_wp2_with fail
        refine (imarkB_at vt tg B _ (z + 4 + sn) _ (by omega) (by have := HTN.out; omega) O2t.out).mono ?_
        rintro e u3 ⟨rfl, hi3, hg3⟩
        rw [← HTN.out] at hi3 ⊢
        have tch3 : Touch (oneB vt) u2 u3 := Touch.of_grown hg3 (fun q hq => mem_oneB.2 hq)
        have R3 : Hid (World.ownsRow u3 B 34 8 (.slice (some ⟨g, 0, none⟩) nn cap) nn (BsV (us.set j ⟨⟨(z : Int), ((z : Int) + 1), ⟨((z : Int) + 2), ((z : Int) + 3), sv, tg⟩, mo, sr⟩, vs, vt, vm⟩))) := tch3.row R2.out (fun q hq e => HNG.out q (List.mem_append_left _ (List.mem_append_right _ e)) (Option.some.inj hq).symm)
        have O3s : Hid (OwnI u3 B vs (imarks (z + 4) sn)) := tch3.row O2s.out (fun q hq e => AP.out.pr.two q hq (mem_oneB.1 e))
        have O3m : Hid (OwnS u3 B vm mo) := tch3.row O2m.out (fun q hq e => AP.out.apT q (mem_oneB.1 e) hq)
        have O3t : Hid (OwnI u3 B vt (imarks (z + 4 + sn) tn)) := hi3
        have TT3 : Hid (Touch (g :: blB (⟨⟨vw, pa, ⟨pv, pn, sv, tg⟩, mo, sr⟩, vs, vt, vm⟩ : BlX)) wr u3) := TT2.out.trans (tch3.more (fun q hq => List.mem_cons_of_mem _ (List.mem_append_left _ (List.mem_append_right _ hq))))
        have c3 := (ownBs_cell R3.out HL3.out j hlt).2.2.2.2.2.2.1
        rw [HN3.out] at c3
        simp only at c3
        clear hi3 hg3 tch3 R2 TT2 O2s O2t O2m c2
        -- THE MOVES
        go_wp2_with fail
        refine (smarkB_at vm mo B _ (z + 4 + sn + tn) _ (by omega) (by omega) (by have := HMN.out; omega) O3m.out).mono ?_
        rintro e u4 ⟨rfl, hi4, hg4⟩
        rw [← HMN.out] at hi4 ⊢
        have tch4 : Touch (oneB vm) u3 u4 := Touch.of_grown hg4 (fun q hq => mem_oneB.2 hq)
        have R4 : Hid (World.ownsRow u4 B 34 8 (.slice (some ⟨g, 0, none⟩) nn cap) nn (BsV (us.set j ⟨⟨(z : Int), ((z : Int) + 1), ⟨((z : Int) + 2), ((z : Int) + 3), sv, tg⟩, mo, sr⟩, vs, vt, vm⟩))) := tch4.row R3.out (fun q hq e => HNG.out q (List.mem_append_right _ e) (Option.some.inj hq).symm)
        have O4s : Hid (OwnI u4 B vs (imarks (z + 4) sn)) := tch4.row O3s.out (fun q hq e => AP.out.apS q hq (mem_oneB.1 e))
        have O4t : Hid (OwnI u4 B vt (imarks (z + 4 + sn) tn)) := tch4.row O3t.out (fun q hq e => AP.out.apT q hq (mem_oneB.1 e))
        have O4m : Hid (OwnS u4 B vm (smarks (z + 4 + sn + tn) mn)) := hi4
        have TT4 : Hid (Touch (g :: blB (⟨⟨vw, pa, ⟨pv, pn, sv, tg⟩, mo, sr⟩, vs, vt, vm⟩ : BlX)) wr u4) := TT3.out.trans (tch4.more (fun q hq => List.mem_cons_of_mem _ (List.mem_append_right _ hq)))
        obtain ⟨z2, hz2⟩ : ∃ z2, z2 = z + 4 + sn + tn + mn := ⟨_, rfl⟩
        have c4 := (ownBs_cell R4.out HL3.out j hlt).2.2.2.2.2.2.2
        rw [HN3.out] at c4
        simp only at c4
        have f7 := R4.out.frozenAt (j * 8 + 7)
        have R5 : Hid (World.ownsRow (u4.setCell ⟨g, j * 8 + 7, none⟩ (.int .i64 (z2 : Int))) B 34 8 (.slice (some ⟨g, 0, none⟩) nn cap) nn (BsV (us.set j ⟨⟨(z : Int), (z : Int) + 1, ⟨(z : Int) + 2, (z : Int) + 3, imarks (z + 4) sn, imarks (z + 4 + sn) tn⟩, smarks (z + 4 + sn + tn) mn, ((z + 4 + sn + tn + mn : Nat) : Int)⟩, vs, vt, vm⟩))) := by
          have h := ownBs_store R4.out (k := j) (j := 7) (by rw [List.length_set]; exact hlu) (by omega) (u := .int .i64 (z2 : Int)) (e' := ⟨⟨(z : Int), (z : Int) + 1, ⟨(z : Int) + 2, (z : Int) + 3, imarks (z + 4) sn, imarks (z + 4 + sn) tn⟩, smarks (z + 4 + sn + tn) mn, ((z + 4 + sn + tn + mn : Nat) : Int)⟩, vs, vt, vm⟩) (by rw [HN3.out, hz2]; rfl)
          rw [List.set_set] at h
          exact h
        have NG : ∀ {v : Value} {q : Nat}, q ∈ oneB v → (oneB v ⊆ blB (⟨⟨vw, pa, ⟨pv, pn, sv, tg⟩, mo, sr⟩, vs, vt, vm⟩ : BlX)) → g ≠ q := fun h1 h2 e => HNG.out _ (h2 h1) e.symm
        have N5 : Hid (OwnBl (u4.setCell ⟨g, j * 8 + 7, none⟩ (.int .i64 (z2 : Int))) B (⟨⟨(z : Int), (z : Int) + 1, ⟨(z : Int) + 2, (z : Int) + 3, imarks (z + 4) sn, imarks (z + 4 + sn) tn⟩, smarks (z + 4 + sn + tn) mn, ((z + 4 + sn + tn + mn : Nat) : Int)⟩, vs, vt, vm⟩ : BlX)) :=
          ⟨⟨row_set O4s.out (fun q hq e => HNG.out q (List.mem_append_left _ (List.mem_append_left _ (mem_oneB.2 hq))) e.symm), row_set O4t.out (fun q hq e => HNG.out q (List.mem_append_left _ (List.mem_append_right _ (mem_oneB.2 hq))) e.symm), AP.out.pr.two⟩, row_set O4m.out (fun q hq e => HNG.out q (List.mem_append_right _ (mem_oneB.2 hq)) e.symm), AP.out.apS, AP.out.apT⟩
        have TT5 : Hid (Touch (oneB (.slice (some ⟨g, 0, none⟩) nn cap) ++ blB (nthBs us j)) wr (u4.setCell ⟨g, j * 8 + 7, none⟩ (.int .i64 (z2 : Int)))) := by
          refine (TT4.out.trans (Touch.set List.mem_cons_self)).more (fun q hq => ?_)
          rw [← HTU.out]
          rcases List.mem_cons.1 hq with rfl | hq
          · exact List.mem_append_left _ (mem_oneB.2 rfl)
          · exact List.mem_append_right _ hq
        have HS5 : Hid (OwnBL (u4.setCell ⟨g, j * 8 + 7, none⟩ (.int .i64 (z2 : Int))) B (.slice (some ⟨g, 0, none⟩) nn cap) (bmkTo k ts (j + 1) ++ ts.drop (j + 1))) := by
          have h := bs_step HO.out hlu (t := ⟨⟨(z : Int), (z : Int) + 1, ⟨(z : Int) + 2, (z : Int) + 3, imarks (z + 4) sn, imarks (z + 4 + sn) tn⟩, smarks (z + 4 + sn + tn) mn, ((z + 4 + sn + tn + mn : Nat) : Int)⟩, vs, vt, vm⟩) (by rw [← HTU.out]; rfl) (by unfold OwnBs; rw [List.length_set, HLN.out]; exact R5.out) N5.out TT5.out
          rw [← HMK.out, HSTP.out] at h
          exact h
        have HT5 : Hid (Touch (oneB (.slice (some ⟨g, 0, none⟩) nn cap) ++ bblks ts) w (u4.setCell ⟨g, j * 8 + 7, none⟩ (.int .i64 (z2 : Int)))) := HT.out.trans (TT5.out.more (fun q hq => HSUB.out q (by rw [HTU.out]; exact hq)))
        rw [← hz2]
        have HZ2 : Hid (z2 + 1 = k + cntB (ts.take (j + 1))) := by have := HZN.out; unfold Hid; omega
        have w5 : IntKind.i64.wrap ((z2 : Int) + 1) = (z2 : Int) + 1 := wrap_z z2 1 (by omega)
        clear hi4 hg4 tch4 R3 TT3 O3s O3t O3m c3 R4 R5 N5 TT4 TT5 O4s O4t O4m NG AP HO HT hz2 HZN HL3 HN3
        go_wp2
        go_roundw
        case rel => exact ⟨j + 1, z2 + 1, by omega, by go_num, by go_num, HZ2, HS5, HT5⟩
        case measure => simp [intOf]; omega
      · have hje : j = nn := by omega
        have END : Hid (MarkBs w B k (.slice (some ⟨g, 0, none⟩) nn cap) ts (.returned (.int .i64 (z : Int))) wr) := by
          have h1 := HZ.out
          have h2 := HO.out
          rw [hje, HNN.out, List.take_length] at h1
          rw [hje, HNN.out, List.drop_length, List.append_nil] at h2
          refine ⟨by rw [h1], ?_, HT.out⟩
          rw [← HNN.out] at h2 ⊢
          exact h2
        clear hje HO HT HZ
        go_wp2
        go_ret
        exact END.out
end Go.Proofs.YtilhaokiohbeeaaGreatDoor
-- UNF Gen
namespace Go.Proofs.YtilhaokiohbeeaaGreatDoor
open Go.RowKit
set_option maxHeartbeats 4000000 in
set_option maxRecDepth 100000 in
theorem heldBlocks_any (v : Value) (ts : List BlX) (k : Nat) (w : World) (hk0 : 0 < k) (hkn : k + cntB ts ≤ 8388608) (hr : RdBs w v (bmkTo k ts ts.length)) (hin : InBs w (bmkTo k ts ts.length)) :
    Calls Tryz.prog 128 #[v, .int .i64 (k : Int)] w fun e w' => e = .returned (.int .i64 ((k + cntB ts : Nat) : Int)) ∧ Below w.heap.size w w' := by
  obtain ⟨a, cap, hv, hl, hm, _⟩ := id hr
  rw [bmkTo_len] at hv hl
  unfold maxLen at hm
  subst hv
  obtain ⟨nn, hnn⟩ : ∃ nn, nn = ts.length := ⟨_, rfl⟩
  rw [← hnn] at hl hr hin ⊢
  have HNN : Hid (nn = ts.length) := hnn
  have HKB : Hid (k + cntB ts ≤ 8388608) := hkn
  have HIN : Hid (InBs w (bmkTo k ts nn)) := hin
  clear hnn hkn hin
  go_enter Tryz.func128, Tryz.ntmps128
  go_wp2
  go_loopw [1, 5] (fun kk i wr => ∃ (j z : Nat), j ≤ nn ∧ i = .int .i64 j ∧ kk = .int .i64 (z : Int) ∧ Hid (z = k + cntB (ts.take j)) ∧ Below w.heap.size w wr) (fun _ i _ => nn - (intOf i).toNat)
  case atStart => exact ⟨0, k, Nat.zero_le _, rfl, rfl, by unfold Hid; simp [cntB], Below.refl _ _⟩
  case round =>
    obtain ⟨j, z, hj, rfl, rfl, HZ, hb⟩ := hrel
    by_cases hlt : j < nn
    · have hjl : j < ts.length := by rw [← HNN.out]; exact hlt
      have hjc : j < cap := by omega
      have hz0 : 0 < z := by have := HZ.out; omega
      have hkn : k + cntB ts ≤ 8388608 := HKB.out
      have hct := cntB_take hjl
      have hcl := cntB_le (ts := ts) (k := j + 1)
      have HZN : Hid (z + 5 + (nthBs ts j).b.p.sv.length + (nthBs ts j).b.p.tg.length + (nthBs ts j).b.mo.length = k + cntB (ts.take (j + 1))) := by unfold Hid; have := HZ.out; omega
      have hzn : z + 5 + (nthBs ts j).b.p.sv.length + (nthBs ts j).b.p.tg.length + (nthBs ts j).b.mo.length ≤ 8388608 := by have := HZ.out; omega
      obtain ⟨b, off, rfl, hc⟩ := (hr.below hb).atN j (by rw [bmkTo_len]; exact hlt)
      have hri := (HIN.out.below hb).nth (i := j) (by rw [bmkTo_len]; exact hlt)
      rw [bmk_at hlt, ← HZ.out] at hc hri
      obtain ⟨⟨hrs, hrt⟩, hrm⟩ := hri
      change RdI wr (nthBs ts j).vs (imarks (z + 4) (nthBs ts j).b.p.sv.length) at hrs
      change RdI wr (nthBs ts j).vt (imarks (z + 4 + (nthBs ts j).b.p.sv.length) (nthBs ts j).b.p.tg.length) at hrt
      change RdS wr (nthBs ts j).vm (smarks (z + 4 + (nthBs ts j).b.p.sv.length + (nthBs ts j).b.p.tg.length) (nthBs ts j).b.mo.length) at hrm
      obtain ⟨c0, c1, c2, c3, c4, c5, c6, c7⟩ := id hc
      change _ = some (Value.int .i64 (z : Int)) at c0
      change _ = some (Value.int .i64 ((z : Int) + 1)) at c1
      change _ = some (Value.int .i64 ((z : Int) + 2)) at c2
      change _ = some (Value.int .i64 ((z : Int) + 3)) at c3
      change _ = some (nthBs ts j).vs at c4
      change _ = some (nthBs ts j).vt at c5
      change _ = some (nthBs ts j).vm at c6
      change _ = some (Value.int .i64 ((z + 4 + (nthBs ts j).b.p.sv.length + (nthBs ts j).b.p.tg.length + (nthBs ts j).b.mo.length : Nat) : Int)) at c7
      have hlb : b < wr.heap.size := hc.lt
      generalize (nthBs ts j).vs = vs at c4 hrs
      generalize (nthBs ts j).vt = vt at c5 hrt
      generalize (nthBs ts j).vm = vm at c6 hrm
      generalize (nthBs ts j).b.p.sv.length = sn at HZN hzn hrs hrt hrm c7
      generalize (nthBs ts j).b.p.tg.length = tn at HZN hzn hrt hrm c7
      generalize (nthBs ts j).b.mo.length = mn at HZN hzn hrm c7
      obtain ⟨z2, hz2⟩ : ∃ z2, z2 = z + 4 + sn := ⟨_, rfl⟩
      obtain ⟨z3, hz3⟩ : ∃ z3, z3 = z2 + tn := ⟨_, rfl⟩
      obtain ⟨z4, hz4⟩ : ∃ z4, z4 = z3 + mn := ⟨_, rfl⟩
      rw [← hz2] at hrt hrm c7
      rw [← hz3] at hrm c7
      rw [← hz4] at c7
      have HI1 : Hid (∀ W, RdI W vs (imarks (z + 4) sn) → Calls Tryz.prog 131 #[vs, .int .i64 ((z : Int) + 4)] W fun e w' => e = .returned (.int .i64 (z2 : Int)) ∧ w' = W) := fun W h => by rw [hz2]; exact iheldB_at vs sn _ (z + 4) W (by omega) (by omega) h
      have HI2 : Hid (∀ W, RdI W vt (imarks z2 tn) → Calls Tryz.prog 131 #[vt, .int .i64 (z2 : Int)] W fun e w' => e = .returned (.int .i64 (z3 : Int)) ∧ w' = W) := fun W h => by rw [hz3]; exact iheldB_at vt tn _ z2 W rfl (by omega) h
      have HI3 : Hid (∀ W, RdS W vm (smarks z3 mn) → Calls Tryz.prog 132 #[vm, .int .i64 (z3 : Int)] W fun e w' => e = .returned (.int .i64 (z4 : Int)) ∧ Below W.heap.size W w') := fun W h => by rw [hz4]; exact sheldB_at vm mn _ z3 W rfl (by omega) (by omega) h
      have HZE : Hid (z4 + 1 = k + cntB (ts.take (j + 1))) := by have := HZN.out; unfold Hid; omega
      have hz2n : ¬ ((z2 : Int) < 0) := by omega
      have hz3n : ¬ ((z3 : Int) < 0) := by omega
      have hz4n : ¬ ((z4 : Int) < 0) := by omega
      have w5 : IntKind.i64.wrap ((z4 : Int) + 1) = (z4 : Int) + 1 := wrap_z z4 1 (by omega)
      have n4 : ((z4 : Int) != (z4 : Int)) = false := by simp
      have n0 : ((z : Int) != (z : Int)) = false := by simp
      have n1 : (((z : Int) + 1) != ((z : Int) + 1)) = false := by simp
      have n2 : (((z : Int) + 2) != ((z : Int) + 2)) = false := by simp
      have n3 : (((z : Int) + 3) != ((z : Int) + 3)) = false := by simp
      have w1 : IntKind.i64.wrap ((z : Int) + 1) = (z : Int) + 1 := wrap_z z 1 (by omega)
      have w2 : IntKind.i64.wrap ((z : Int) + 2) = (z : Int) + 2 := wrap_z z 2 (by omega)
      have w3 : IntKind.i64.wrap ((z : Int) + 3) = (z : Int) + 3 := wrap_z z 3 (by omega)
      have w4 : IntKind.i64.wrap ((z : Int) + 4) = (z : Int) + 4 := wrap_z z 4 (by omega)
      have v2 : (z : Int) + 1 + 1 = (z : Int) + 2 := by omega
      have v3 : (z : Int) + 2 + 1 = (z : Int) + 3 := by omega
      have v4 : (z : Int) + 3 + 1 = (z : Int) + 4 := by omega
      clear hct hcl hkn hjl hc hz2 hz3 hz4 HZN hzn
      go_wp2_with fail
      refine (HI1.out _ hrs).mono ?_
      rintro e u2 ⟨rfl, hu2⟩
      replace hu2 := hu2.symm
      subst hu2
      clear hrs c0 c1 c2 c3 c4 w1 w2 w3 w4 v2 v3 v4 n0 n1 n2 n3 HI1
      go_wp2_with fail
      refine (HI2.out _ hrt).mono ?_
      rintro e u3 ⟨rfl, hu3⟩
      replace hu3 := hu3.symm
      subst hu3
      clear hrt c5 hz2n HI2
      go_wp2_with fail
      refine (HI3.out _ hrm).mono ?_
      rintro e u4 ⟨rfl, hb4⟩
      have d7 := (hb4.cell hlb).trans c7
      have b4 := hb.trans (hb4.mono hb.size)
      clear hrm c6 c7 hb4 hb hz3n HI3
      go_wp2
      go_roundw
      case rel => exact ⟨j + 1, z4 + 1, by omega, by go_num, by go_num, HZE, b4⟩
      case measure => simp [intOf]; omega
    · have hje : j = nn := by omega
      have HZE : Hid (z = k + cntB ts) := by unfold Hid; rw [HZ.out, hje, HNN.out, List.take_length]
      clear hje
      go_wp2
      go_ret
      exact ⟨by rw [HZE.out]; rfl, hb⟩
end Go.Proofs.YtilhaokiohbeeaaGreatDoor
