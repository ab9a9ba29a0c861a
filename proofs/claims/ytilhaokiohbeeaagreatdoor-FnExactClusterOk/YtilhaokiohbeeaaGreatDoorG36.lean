/- The model's ClusterOk. The contracts of the program's group.has, and of group.put of one message that finds room. A voter's map: its keys are of two numbers, its elements Blocks. -/
import Derived.Test.YtilhaokiohbeeaaGreatDoorG18
import Derived.Test.YtilhaokiohbeeaaGreatDoorRepSpk
import Derived.Test.YtilhaokiohbeeaaGreatDoorG28
import Derived.Test.YtilhaokiohbeeaaGreatDoorMsgCpd
import Derived.Test.YtilhaokiohbeeaaGreatDoorG33
import Derived.Carry
import Derived.DeepKeys4
import Derived.MapKept
import Derived.WideKeyMaps
-- UNF Gen
namespace Go.Proofs.YtilhaokiohbeeaaGreatDoor
open Go.RowKit
/-- Is the Replica at place i right, with its place's Id and n servers? -/
def repIs (n : Int) (i : Nat) (R : Rep) : Prop := R.idn = (i : Int) ∧ R.n = n ∧ repR R = true
/-- Is it a right cluster? -/
structure ClOk (X : ClX) : Prop where
  sv : srvB (X.rs.length : Int) = true
  ln : X.ms.length ≤ 150
  rp : ∀ i, i < X.rs.length → repIs (X.rs.length : Int) i (nthRs X.rs i).rep
  ms : ∀ i, i < X.ms.length → 0 ≤ (nthMs X.ms i).to' ∧ (nthMs X.ms i).to' < (X.rs.length : Int)
def ClB (w : World) (X : ClX) (e : Ending) (w' : World) : Prop := ∃ b : Bool, e = .returned (.bool b) ∧ (b = true ↔ ClOk X) ∧ Below w.heap.size w w'
theorem ClB.mk {w : World} {X : ClX} {w' : World} (b : Bool) (h : b = true ↔ ClOk X) (hb : Below w.heap.size w w') : ClB w X (.returned (.bool b)) w' := ⟨b, rfl, h, hb⟩
theorem ClB.no {w : World} {X : ClX} {w' : World} (h : ¬ ClOk X) (hb : Below w.heap.size w w') : ClB w X (.returned (.bool false)) w' := ⟨false, rfl, ⟨fun e => (by cases e), fun e => absurd e h⟩, hb⟩
theorem map_nthRs {xs ys : List RepX} (h : ys.map RepX.rep = xs.map RepX.rep) (i : Nat) : (nthRs ys i).rep = (nthRs xs i).rep := by
  have hl : ys.length = xs.length := by simpa using congrArg List.length h
  by_cases hi : i < xs.length
  · have := congrArg (fun l : List Rep => l[i]?) h
    simp only [List.getElem?_map, List.getElem?_eq_getElem hi, List.getElem?_eq_getElem (show i < ys.length by omega), Option.map_some, Option.some.injEq] at this
    rw [nthRs_eq hi, nthRs_eq (by omega), this]
  · simp [nthRs, List.getD, List.getElem?_eq_none (show ys.length ≤ i by omega), List.getElem?_eq_none (show xs.length ≤ i by omega)]
theorem map_nthMs {xs ys : List MsX} (h : ys.map MsX.m = xs.map MsX.m) (i : Nat) : (nthMs ys i).m = (nthMs xs i).m := by
  have hl : ys.length = xs.length := by simpa using congrArg List.length h
  by_cases hi : i < xs.length
  · have := congrArg (fun l : List Msg => l[i]?) h
    simp only [List.getElem?_map, List.getElem?_eq_getElem hi, List.getElem?_eq_getElem (show i < ys.length by omega), Option.map_some, Option.some.injEq] at this
    rw [nthMs_eq hi, nthMs_eq (by omega), this]
  · simp [nthMs, List.getD, List.getElem?_eq_none (show ys.length ≤ i by omega), List.getElem?_eq_none (show xs.length ≤ i by omega)]
/-- It hangs on the plain values alone. -/
theorem clOk_same {X Y : ClX} (h : Y.pl = X.pl) : ClOk Y ↔ ClOk X := by
  have h1 : Y.rs.map RepX.rep = X.rs.map RepX.rep := (Prod.mk.inj h).1
  have h2 : Y.ms.map MsX.m = X.ms.map MsX.m := (Prod.mk.inj h).2
  have l1 : Y.rs.length = X.rs.length := by simpa using congrArg List.length h1
  have l2 : Y.ms.length = X.ms.length := by simpa using congrArg List.length h2
  have to : ∀ i, (nthMs Y.ms i).to' = (nthMs X.ms i).to' := fun i => congrArg Msg.to' (map_nthMs h2 i)
  constructor
  · rintro ⟨a, b, c, d⟩
    exact ⟨by rw [← l1]; exact a, by omega, fun i hi => by rw [← map_nthRs h1 i, ← l1]; exact c i (by omega), fun i hi => by rw [← to i, ← l1]; exact d i (by omega)⟩
  · rintro ⟨a, b, c, d⟩
    exact ⟨by rw [l1]; exact a, by omega, fun i hi => by rw [map_nthRs h1 i, l1]; exact c i (by omega), fun i hi => by rw [to i, l1]; exact d i (by omega)⟩
theorem l1InC_any (x lo hi : Int) (b : Bool) (h : (decide (lo ≤ x) && decide (x ≤ hi)) = b) (w : World) :
    Calls Tryz.prog 74 #[.int .i64 x, .int .i64 lo, .int .i64 hi] w fun e w' => e = .returned (.bool b) ∧ w' = w := by
  by_cases h1 : lo ≤ x
  · by_cases h2 : x ≤ hi
    · rw [decide_eq_true h1, decide_eq_true h2] at h
      subst h
      go_enter Tryz.func74, Tryz.ntmps74
      go_wp2
      go_ret
      exact ⟨rfl, rfl⟩
    · rw [decide_eq_true h1, decide_eq_false h2] at h
      subst h
      go_enter Tryz.func74, Tryz.ntmps74
      go_wp2
      go_ret
      exact ⟨rfl, rfl⟩
  · rw [decide_eq_false h1] at h
    subst h
    go_enter Tryz.func74, Tryz.ntmps74
    go_wp2
    go_ret
    exact ⟨rfl, rfl⟩
set_option maxHeartbeats 4000000 in
set_option maxRecDepth 100000 in
theorem specClusterOk_any (X : ClX) (w : World) (hx : RdCl w X) (hfr : ∀ t ∈ X.rs, FitRep t.rep ∧ SmB t.bs) (hfm : ∀ t ∈ X.ms, -9223372036854775808 ≤ t.to' ∧ t.to' ≤ 9223372036854775807) :
    Calls Tryz.prog 39 #[.agg #[X.vr, X.vm]] w fun e w' => ClB w X e w' := by
  obtain ⟨vr, rs, vm, ms⟩ := X
  obtain ⟨ar, kr, hvr, hlr, hmr, -⟩ := id hx.rr
  obtain ⟨am, km, hvm, hlm, hmm, -⟩ := id hx.rm
  simp only at hvr hvm hlr hmr hlm hmm hfr hfm ⊢
  unfold maxLen at hmr hmm
  obtain ⟨nr, hnr⟩ : ∃ n, n = rs.length := ⟨_, rfl⟩
  obtain ⟨nm, hnm⟩ : ∃ n, n = ms.length := ⟨_, rfl⟩
  have HNR : Hid (nr = rs.length) := hnr
  have HNM : Hid (nm = ms.length) := hnm
  rw [← hnr] at hvr hlr
  rw [← hnm] at hvm hlm
  have HX : Hid (∀ W, Below w.heap.size w W → RdCl W ⟨vr, rs, vm, ms⟩) := fun W h => hx.below h
  have HSR : Hid (∀ k, k < nr → ∀ W, RdRep W (nthRs rs k) → Calls Tryz.prog 16 #[.agg #[.int .i64 (nthRs rs k).idn, .int .i64 (nthRs rs k).n, .int .i64 (nthRs rs k).vw, .int .i64 (nthRs rs k).vo, .int .i64 (nthRs rs k).lo, .int .i64 (nthRs rs k).pr, .int .i64 (nthRs rs k).hi.p.vw, .int .i64 (nthRs rs k).hi.p.nm, (nthRs rs k).hi.vs, (nthRs rs k).hi.vt, (nthRs rs k).vb, (nthRs rs k).vv, (nthRs rs k).vn, (nthRs rs k).vd]] W fun e w' => e = .returned (.bool (repR (nthRs rs k).rep)) ∧ Below W.heap.size W w') := fun k hk W h => by
    have hm : nthRs rs k ∈ rs := by rw [nthRs_eq (by omega)]; exact List.getElem_mem _
    exact specReplicaOk_any _ W h (hfr _ hm).1 (hfr _ hm).2
  have HTM : Hid (∀ k, k < nm → -9223372036854775808 ≤ (nthMs ms k).to' ∧ (nthMs ms k).to' ≤ 9223372036854775807) := fun k hk => hfm _ (by rw [nthMs_eq (by omega)]; exact List.getElem_mem _)
  clear hx hfr hfm hnr hnm
  subst hvr hvm
  have t0 := bx_new w 65 #[.slice ar nr kr, .slice am nm km]
  have b0 := below1 w (.cells #[.slice ar nr kr, .slice am nm km] 65)
  obtain ⟨q0, q1⟩ := t0.d2
  cases hs : srvB (nr : Int) with
  | false =>
    have HQ : Hid (∀ W, Calls Tryz.prog 73 #[.int .i64 (nr : Int)] W fun e w' => e = .returned (.bool false) ∧ w' = W) := fun W => l15ServersB_any false _ hs W
    have HNO : Hid (¬ ClOk ⟨.slice ar nr kr, rs, .slice am nm km, ms⟩) := fun h => by
      have h1 := h.sv
      simp only at h1
      rw [← HNR.out, hs] at h1
      cases h1
    clear hs
    go_enter Tryz.func39, Tryz.ntmps39
    go_wp2_with fail
    refine (HQ.out _).mono ?_
    rintro e w2 ⟨rfl, rfl⟩
    go_wp2
    go_ret
    exact ClB.no HNO.out b0
  | true =>
  have HQ : Hid (∀ W, Calls Tryz.prog 73 #[.int .i64 (nr : Int)] W fun e w' => e = .returned (.bool true) ∧ w' = W) := fun W => l15ServersB_any true _ hs W
  have HSV : Hid (srvB (rs.length : Int) = true) := by rw [← HNR.out]; exact hs
  have h17 : nr ≤ 7 := by
    rcases srvB_iff.1 hs with h | h | h <;> omega
  clear hs
  by_cases h150 : nm ≤ 150
  case neg =>
    have HNO : Hid (¬ ClOk ⟨.slice ar nr kr, rs, .slice am nm km, ms⟩) := fun h => by
      have h1 := h.ln
      simp only at h1
      rw [← HNM.out] at h1
      omega
    have h151 : (150 : Int) < (nm : Int) := by omega
    go_enter Tryz.func39, Tryz.ntmps39
    go_wp2_with fail
    refine (HQ.out _).mono ?_
    rintro e w2 ⟨rfl, rfl⟩
    go_wp2
    go_ret
    exact ClB.no HNO.out b0
  have h151 : ¬ (150 : Int) < (nm : Int) := by omega
  go_enter Tryz.func39, Tryz.ntmps39
  go_wp2_with fail
  refine (HQ.out _).mono ?_
  rintro e w2 ⟨rfl, rfl⟩
  go_wp2
  go_loopw [4] (fun i wr => ∃ k : Nat, k ≤ nr ∧ i = .int .i64 k ∧ Bx wr w.heap.size 65 #[.slice ar nr kr, .slice am nm km] ∧ Hid (∀ j, j < k → repIs (nr : Int) j (nthRs rs j).rep) ∧ Below w.heap.size w wr) (fun i _ => nr - (intOf i).toNat)
  case atStart => exact ⟨0, Nat.zero_le _, rfl, t0, (fun j h => by omega), b0⟩
  case round =>
    obtain ⟨k, hk, rfl, t1, HJ, hb⟩ := hrel
    clear t0 b0 q0 q1
    obtain ⟨q0, q1⟩ := t1.d2
    by_cases hlt : k < nr
    · have hkl : k < rs.length := by rw [← HNR.out]; exact hlt
      have hX := HX.out _ hb
      obtain ⟨b, off, rfl, hc⟩ := hX.rr.atN k hkl
      have hri := hX.ir.nth hkl
      have hkc : k < kr := by omega
      have HC := HSR.out k hlt
      have HNO : Hid (¬ repIs (nr : Int) k (nthRs rs k).rep → ¬ ClOk ⟨.slice (some ⟨b, off, none⟩) nr kr, rs, .slice am nm km, ms⟩) := fun hn h => hn (by have := h.rp k hkl; simp only at this; rwa [← HNR.out] at this)
      have HJ2 : Hid (repIs (nr : Int) k (nthRs rs k).rep → ∀ j, j < k + 1 → repIs (nr : Int) j (nthRs rs j).rep) := fun h j hj => by
        by_cases e : j = k
        · rw [e]; exact h
        · exact HJ.out j (by omega)
      generalize nthRs rs k = t at hc hri HC HNO HJ2
      have HCC : Hid (∀ W, RdRep W t → Calls Tryz.prog 16 #[.agg #[.int .i64 t.idn, .int .i64 t.n, .int .i64 t.vw, .int .i64 t.vo, .int .i64 t.lo, .int .i64 t.pr, .int .i64 t.hi.p.vw, .int .i64 t.hi.p.nm, t.hi.vs, t.hi.vt, t.vb, t.vv, t.vn, t.vd]] W fun e w' => e = .returned (.bool (repR t.rep)) ∧ Below W.heap.size W w') := HC
      clear HC hX hkl
      obtain ⟨c0, c1, c2, c3, c4, c5, c6, c7, c8, c9, c10, c11, c12, c13⟩ := id hc
      by_cases hid : t.idn = (k : Int)
      case neg =>
        have HN : Hid (¬ ClOk ⟨.slice (some ⟨b, off, none⟩) nr kr, rs, .slice am nm km, ms⟩) := HNO.out (fun h => hid h.1)
        have hne : (t.idn != (k : Int)) = true := by simpa using hid
        clear hc hri HNO HJ2 HCC hid
        go_wp2
        go_ret
        exact ClB.no HN.out hb
      have hie : (t.idn != (k : Int)) = false := by simpa using hid
      by_cases hnn : t.n = (nr : Int)
      case neg =>
        have HN : Hid (¬ ClOk ⟨.slice (some ⟨b, off, none⟩) nr kr, rs, .slice am nm km, ms⟩) := HNO.out (fun h => hnn h.2.1)
        have hne : (t.n != (nr : Int)) = true := by simpa using hnn
        clear hc hri HNO HJ2 HCC hnn hid
        go_wp2
        go_ret
        exact ClB.no HN.out hb
      have hnne : (t.n != (nr : Int)) = false := by simpa using hnn
      have HR : Hid (repR t.rep = true → repIs (nr : Int) k t.rep) := fun h => ⟨hid, hnn, h⟩
      have HR2 : Hid (repR t.rep = false → ¬ repIs (nr : Int) k t.rep) := fun h g => by rw [g.2.2] at h; cases h
      clear hid hnn
      go_wp2_with fail
      refine (HCC.out _ hri).mono ?_
      rintro e w2 ⟨rfl, hb2⟩
      have t2 := t1.below hb2
      have bz := hb.trans (hb2.mono hb.size)
      clear t1 hb hb2 hc hri HCC c0 c1 c2 c3 c4 c5 c6 c7 c8 c9 c10 c11 c12 c13 q0 q1 hie hnne
      cases hrr : repR t.rep with
      | false =>
        have HN : Hid (¬ ClOk ⟨.slice (some ⟨b, off, none⟩) nr kr, rs, .slice am nm km, ms⟩) := HNO.out (HR2.out hrr)
        clear HNO HJ2 HR HR2 hrr
        go_wp2
        go_ret
        exact ClB.no HN.out bz
      | true =>
        have HJ3 : Hid (∀ j, j < k + 1 → repIs (nr : Int) j (nthRs rs j).rep) := HJ2.out (HR.out hrr)
        clear HNO HJ2 HR HR2 hrr
        go_wp2
        go_roundw
        case rel => exact ⟨k + 1, by omega, by go_num, t2, HJ3, bz⟩
        case measure => simp [intOf]; omega
    · have hke : k = nr := by omega
      have HJA : Hid (∀ j, j < nr → repIs (nr : Int) j (nthRs rs j).rep) := fun j hj => HJ.out j (by omega)
      clear HJ HSR hk
      subst hke
      go_wp2
      go_loopw [5] (fun i wq => ∃ m : Nat, m ≤ nm ∧ i = .int .i64 m ∧ Hid (∀ j, j < m → 0 ≤ (nthMs ms j).to' ∧ (nthMs ms j).to' < (k : Int)) ∧ wq = wr) (fun i _ => nm - (intOf i).toNat)
      case atStart => exact ⟨0, Nat.zero_le _, rfl, (fun j h => by omega), rfl⟩
      case round =>
        obtain ⟨m, hm, rfl, HM, rfl⟩ := hrel
        by_cases hlt2 : m < nm
        · have hml : m < ms.length := by rw [← HNM.out]; exact hlt2
          have hX := HX.out _ hb
          obtain ⟨b, off, rfl, hc⟩ := hX.rm.atN m hml
          have hmc : m < km := by omega
          have hto := HTM.out m hlt2
          have HNO : Hid (¬ (0 ≤ (nthMs ms m).to' ∧ (nthMs ms m).to' < (k : Int)) → ¬ ClOk ⟨.slice ar k kr, rs, .slice (some ⟨b, off, none⟩) nm km, ms⟩) := fun hn h => hn (by have := h.ms m hml; simp only at this; rwa [← HNR.out] at this)
          have HM2 : Hid (0 ≤ (nthMs ms m).to' ∧ (nthMs ms m).to' < (k : Int) → ∀ j, j < m + 1 → 0 ≤ (nthMs ms j).to' ∧ (nthMs ms j).to' < (k : Int)) := fun h j hj => by
            by_cases e : j = m
            · rw [e]; exact h
            · exact HM.out j (by omega)
          generalize nthMs ms m = t at hc hto HNO HM2
          have hc2 : wr.cell? ⟨b, off + m * 20 + 2, none⟩ = some (.int .i64 t.to') := hc.2.2.1
          clear hX hml hc
          obtain ⟨bb, hbb⟩ : ∃ bb, bb = (decide (0 ≤ t.to') && decide (t.to' ≤ (k : Int) - 1)) := ⟨_, rfl⟩
          have HIN : Hid (∀ W, Calls Tryz.prog 74 #[.int .i64 t.to', .int .i64 0, .int .i64 ((k : Int) - 1)] W fun e w' => e = .returned (.bool bb) ∧ w' = W) := fun W => l1InC_any _ _ _ bb hbb.symm W
          have HBT : Hid (bb = true → 0 ≤ t.to' ∧ t.to' < (k : Int)) := fun h => by
            rw [hbb] at h
            simp only [Bool.and_eq_true, decide_eq_true_eq] at h
            omega
          have HBF : Hid (bb = false → ¬ (0 ≤ t.to' ∧ t.to' < (k : Int))) := fun h g => by
            rw [hbb, decide_eq_true g.1, decide_eq_true (show t.to' ≤ (k : Int) - 1 by omega)] at h
            cases h
          have hkw : IntKind.i64.wrap ((k : Int) - 1) = (k : Int) - 1 := by rw [IntKind.wrap_i64]; omega
          clear hbb hto
          go_wp2_with fail
          refine (HIN.out _).mono ?_
          rintro e w2 ⟨rfl, rfl⟩
          cases bb with
          | false =>
            have HN : Hid (¬ ClOk ⟨.slice ar k kr, rs, .slice (some ⟨b, off, none⟩) nm km, ms⟩) := HNO.out (HBF.out rfl)
            clear HNO HM2 HBT HBF HIN
            go_wp2
            go_ret
            exact ClB.no HN.out hb
          | true =>
            have HM3 := HM2.out (HBT.out rfl)
            have HM4 : Hid (∀ j, j < m + 1 → 0 ≤ (nthMs ms j).to' ∧ (nthMs ms j).to' < (k : Int)) := HM3
            clear HNO HM2 HBT HBF HIN HM3 HM
            go_wp2
            go_roundw
            case rel => exact ⟨m + 1, by omega, by go_num, HM4, by simp⟩
            case measure => simp [intOf]; omega
        · have hme : m = nm := by omega
          have HF : Hid (ClB w ⟨.slice ar k kr, rs, .slice am nm km, ms⟩ (.returned (.bool true)) wr) := by
            refine ClB.mk true ⟨fun _ => ⟨HSV.out, ?_, fun i hi => ?_, fun i hi => ?_⟩, fun _ => rfl⟩ hb
            · simp only; rw [← HNM.out]; exact h150
            · simp only at hi ⊢; rw [← HNR.out] at hi ⊢; exact HJA.out i hi
            · simp only at hi ⊢; rw [← HNM.out] at hi; rw [← HNR.out]; exact HM.out i (by omega)
          clear hme
          go_wp2
          go_ret
          exact HF.out
end Go.Proofs.YtilhaokiohbeeaaGreatDoor
-- UNF Gen
namespace Go.Proofs.YtilhaokiohbeeaaGreatDoor
open Go.RowKit
set_option maxHeartbeats 2000000 in
set_option maxRecDepth 100000 in
theorem has_any (g : Nat) (a : Option Addr) (n c : Nat) (u : Value) (x : Int) (b : Bool) (w : World) (hg : Bx w g 217 #[.slice a n c, u]) (hb : (decide (0 ≤ x) && decide (x < (n : Int))) = b) :
    Calls Tryz.prog 178 #[.pointer (some ⟨g, 0, none⟩), .int .i64 x] w fun e w' => e = .returned (.bool b) ∧ w' = w := by
  have HS : Hid (∀ W, Calls Tryz.prog 154 #[.int .i64 x, .int .i64 (n : Int)] W fun e w' => e = .returned (.bool b) ∧ w' = W) := fun W => serverOk_any x n b hb W
  obtain ⟨c0, c1⟩ := hg.d2
  go_enter Tryz.func178, Tryz.ntmps178
  go_wp2_with fail
  refine (HS.out _).mono ?_
  rintro e w2 ⟨rfl, rfl⟩
  go_wp2
  go_ret
  exact ⟨rfl, rfl⟩
theorem rdMs_one (w : World) (Y : MsX) (ty : TypeId) : RdMs (w.alloc (.cells (MsC Y).toArray ty)) (.slice (some ⟨w.heap.size, 0, none⟩) 1 1) [Y] := by
  refine ⟨some ⟨w.heap.size, 0, none⟩, 1, rfl, by simp, by unfold maxLen; omega, (fun h => by cases h), .inr ⟨w.heap.size, 0, rfl, fun i hi => ?_⟩⟩
  have hi0 : i = 0 := by simp at hi; omega
  subst hi0
  have hx := bx_new w ty (MsC Y).toArray
  exact ⟨hx.cell 0 rfl, hx.cell 1 rfl, hx.cell 2 rfl, hx.cell 3 rfl, hx.cell 4 rfl, hx.cell 5 rfl, hx.cell 6 rfl, hx.cell 7 rfl, hx.cell 8 rfl, hx.cell 9 rfl, hx.cell 10 rfl, hx.cell 11 rfl, hx.cell 12 rfl, hx.cell 13 rfl, hx.cell 14 rfl, hx.cell 15 rfl, hx.cell 16 rfl, hx.cell 17 rfl, hx.cell 18 rfl, hx.cell 19 rfl⟩
theorem listed_asP {P : Program} {md : Region.Mode} {ops : Array Oper} {Q : Exit → Act → World → Prop} {S : World → Prop} {fuel : Nat} {l l' : Array Bool} {a : Act} {w : World} (hl : l = l') (h : wpAnyH P md ops Q S fuel l' a w) : wpAnyH P md ops Q S fuel l a w := by subst hl; exact h
def PutP (w : World) (g B : Nat) (v : Value) (a : Option Addr) (n c : Nat) (ys : List MsX) (e : Ending) (w' : World) : Prop := e = .returned (.tuple #[]) ∧ ∃ a' c', Bx w' g 217 #[v, .slice a' (n + 1) c'] ∧ OwnMs w' B (.slice a' (n + 1) c') ys ∧ Touch (g :: oneB (.slice a n c)) w w'
set_option maxHeartbeats 4000000 in
set_option maxRecDepth 100000 in
theorem put_one (g B mb : Nat) (av : Option Addr) (nv cv : Nat) (a : Option Addr) (n c : Nat) (ys : List MsX) (Y : MsX) (w : World) (hg : Bx w g 217 #[.slice av nv cv, .slice a n c]) (ho : OwnMs w B (.slice a n c) ys) (hl : ys.length = n) (h149 : n < 150)
    (hr : RdMs w (.slice (some ⟨mb, 0, none⟩) 1 1) [Y]) (hsl : SlM Y) (hB : B ≤ w.heap.size) :
    Calls Tryz.prog 179 #[.pointer (some ⟨g, 0, none⟩), .slice (some ⟨mb, 0, none⟩) 1 1] w fun e w' => PutP w g B (.slice av nv cv) a n c (ys ++ [Y]) e w' := by
  obtain ⟨c0, c1⟩ := hg.d2
  have hw : IntKind.i64.wrap (150 - (n : Int)) = 150 - (n : Int) := by rw [IntKind.wrap_i64]; omega
  have hmin : min (150 - (n : Int)) 1 = 1 := by omega
  have hlt : ¬ (150 - (n : Int) < 1) := by omega
  have hlt2 : (1 : Int) ≤ 150 - (n : Int) := by omega
  go_enter Tryz.func179, Tryz.ntmps179
  go_wp2_with fail
  refine wp_region_noPanic ?_
  refine wp_region_held_drew (S := fun _ : World => True) (by kernel_rfl) trivial (fun hS => ?_)
  replace hg := hg.below (Below.refl _ _).drew
  replace ho := OwnMs.below ho (Below.refl _ _).drew
  replace hr := RdMs.below hr (Below.refl _ _).drew
  have HT0 : Touch (g :: oneB (.slice a n c)) w w.drew := Touch.of_below (Below.refl _ _).drew
  have hB0 : B ≤ w.drew.heap.size := hB
  clear c0 c1
  refine tkG 0 14 hS ?_
  try simp only [Act.put, List.setIfInBounds_toArray, List.set_cons_zero, List.set_cons_succ]
  refine tkG 1 15 hS ?_
  try simp only [Act.put, List.setIfInBounds_toArray, List.set_cons_zero, List.set_cons_succ]
  refine tkG 2 16 hS ?_
  try simp only [Act.put, List.setIfInBounds_toArray, List.set_cons_zero, List.set_cons_succ]
  refine tkG 3 17 hS ?_
  try simp only [Act.put, List.setIfInBounds_toArray, List.set_cons_zero, List.set_cons_succ]
  refine tkG 5 19 hS ?_
  try simp only [Act.put, List.setIfInBounds_toArray, List.set_cons_zero, List.set_cons_succ]
  refine tkG 6 20 hS ?_
  try simp only [Act.put, List.setIfInBounds_toArray, List.set_cons_zero, List.set_cons_succ]
  refine tkG 7 21 hS ?_
  try simp only [Act.put, List.setIfInBounds_toArray, List.set_cons_zero, List.set_cons_succ]
  refine wpAnyH_ready (rs := [4]) (by kernel_rfl) (by simp) ?_
  refine AllReadyH.cons rfl (fun K hK => ?_) AllReadyH.nil
  obtain ⟨c0, c1⟩ := hg.d2
  go_simp
  clear c0 c1 hS
  refine hK.out _ _ trivial (fun hS => ?_)
  clear hK K
  try simp only [List.setIfInBounds_toArray, List.set_cons_zero, List.set_cons_succ]
  refine wpAnyH_ready (rs := [8]) (by kernel_rfl) (by simp) ?_
  refine AllReadyH.cons rfl (fun K hK => ?_) AllReadyH.nil
  refine step_append_messages rfl 22 rfl _ _ rfl B (.slice a n c) (.slice (some ⟨mb, 0, none⟩) 1 1) ys [Y] rfl rfl ho hr (fun X hX => by rw [List.mem_singleton.1 hX]; exact hsl) (by simp; omega) hB0 ?_
  intro v' V1 hO hgr
  have HT : Touch (oneB (.slice a n c)) w.drew V1 := Touch.of_grown hgr (fun k hk => mem_oneB.2 hk)
  have hg1 := hg.touch HT (fun e => hg.row ho (by decide) _ (mem_oneB.1 e) rfl)
  have e9 : ∃ x z, v' = .slice x (n + 1) z := by obtain ⟨x, z, h⟩ := ownSlX hO; rw [List.length_append, hl] at h; exact ⟨x, z, h⟩
  obtain ⟨x, z, rfl⟩ := e9
  have HTT : Touch (g :: oneB (.slice a n c)) w V1 := HT0.trans (HT.more (fun k hk => List.mem_cons_of_mem _ hk))
  clear hS ho hr hgr hg HT HT0 hB0
  refine hK.out _ _ trivial (fun hS => ?_)
  clear hK K
  try simp only [List.setIfInBounds_toArray, List.set_cons_zero, List.set_cons_succ]
  refine tkG 9 23 hS ?_
  try simp only [Act.put, List.setIfInBounds_toArray, List.set_cons_zero, List.set_cons_succ]
  refine tkG 10 24 hS ?_
  try simp only [Act.put, List.setIfInBounds_toArray, List.set_cons_zero, List.set_cons_succ]
  refine wpAnyH_ready (rs := [11]) (by kernel_rfl) (by simp) ?_
  refine AllReadyH.cons rfl (fun K hK => ?_) AllReadyH.nil
  obtain ⟨c0, c1⟩ := hg1.d2
  have f1 := hg1.fz 1
  go_simp
  clear c0 c1 f1 hS
  have hg2 : Bx (V1.setCell ⟨g, 1, none⟩ (.slice x (n + 1) z)) g 217 #[.slice av nv cv, .slice x (n + 1) z] := hg1.set 1 _
  have hO2 : OwnMs (V1.setCell ⟨g, 1, none⟩ (.slice x (n + 1) z)) B (.slice x (n + 1) z) (ys ++ [Y]) := row_set hO (fun k hk e => hg1.row hO (by decide) k hk e)
  have HF : Hid (PutP w g B (.slice av nv cv) a n c (ys ++ [Y]) (.returned (.tuple #[])) (V1.setCell ⟨g, 1, none⟩ (.slice x (n + 1) z))) :=
    ⟨rfl, x, z, hg2, hO2, HTT.trans (Touch.set List.mem_cons_self)⟩
  clear hg1 hO hg2 hO2 HTT
  refine hK.out _ _ trivial (fun hS => ?_)
  clear hK K
  try simp only [List.setIfInBounds_toArray, List.set_cons_zero, List.set_cons_succ]
  refine wpAnyH_done (by kernel_rfl) ?_ _
  refine NoPanic.normal ?_
  clear hS
  go_wp2
  go_end0
  exact HF.out
end Go.Proofs.YtilhaokiohbeeaaGreatDoor
-- UNF Gen
namespace Go.Proofs.YtilhaokiohbeeaaGreatDoor
open Go.RowKit Go.WideMaps
theorem Tryz.laidOutV : laidOutB Tryz.prog = true := by kernel_rfl
theorem rowKeyV : (233 : TypeId) < Tryz.prog.types.size := of_decide_eq_true (by kernel_rfl)
theorem wideKeyV : (match Tryz.prog.underlying 233 with | some (.array _ _) | some (.struct _) => true | _ => false) = true := by kernel_rfl
set_option maxRecDepth 100000 in
theorem lawKeyV : KeyLaw Tryz.prog 233 := deep_law_laid Tryz.laidOutV (m := 3) (by omega) rowKeyV (by kernel_rfl) wideKeyV
def keyV (v n : Int) : Value := .agg #[.int .i64 v, .int .i64 n]
theorem keyV_inj {a b c d : Int} (h : keyV a b = keyV c d) : a = c ∧ b = d := by
  unfold keyV at h
  simp at h
  exact h
theorem keyTypeV : Tryz.prog.keyType 233 = true := by kernel_rfl
theorem cellsKeyV : Tryz.prog.cellsOf 233 = 2 := by kernel_rfl
theorem cellsIntV : Tryz.prog.cellsOf 2 = 1 := by kernel_rfl
theorem sizeVK : ∃ m, Tryz.prog.types.size = m + 1 + 1 := ⟨Tryz.prog.types.size - 2, by
  have h : (3 : Nat) < Tryz.prog.types.size := of_decide_eq_true (by kernel_rfl)
  omega⟩
theorem wfV {v : Int} (h : -9223372036854775808 ≤ v ∧ v ≤ 9223372036854775807) : (Lit.int .i64 v).wf = true := by
  have h1 : IntKind.i64.min = -9223372036854775808 := by decide
  have h2 : IntKind.i64.max = 9223372036854775807 := by decide
  simp only [Lit.wf, h1, h2, Bool.and_eq_true, decide_eq_true_eq]
  exact h
theorem keyLitV (v n : Int) (hv : -9223372036854775808 ≤ v ∧ v ≤ 9223372036854775807) (hn : -9223372036854775808 ≤ n ∧ n ≤ 9223372036854775807) : ∃ l, keyOf Tryz.prog 233 (keyV v n) = some l := by
  have wv : (Lit.int .i64 v).wf = true := wfV hv
  have wn : (Lit.int .i64 n).wf = true := wfV hn
  obtain ⟨m, hm⟩ := sizeVK
  refine ⟨.string (keyBytes [.int .i64 v, .int .i64 n]), ?_⟩
  have hu := Tryz.underlying233
  have hi := Tryz.underlying2
  unfold keyOf
  simp only [hu]
  rw [if_pos (by simp [keyTypeV, Value.formed, hu, cellsKeyV, keyV]), hm]
  unfold Program.keyLits
  simp only [hu, keyV, Value.cells]
  rw [if_pos (by rw [cellsKeyV]; exact ⟨rfl, by kernel_rfl⟩)]
  simp [cellsIntV, Program.keyLits, hi, wv, wn]
/-- What the map's entries are. -/
def MapR (es : Array MapEntry) (Ms : List BlX) : Prop := es.toList.map (fun e => (e.key, e.val)) = Ms.map (fun M => (keyV M.b.vw (namN M.b), BsA M))
theorem MapR.key {es : Array MapEntry} {Ms : List BlX} (h : MapR es Ms) {e : MapEntry} (he : e ∈ es.toList) : ∃ M ∈ Ms, e.key = keyV M.b.vw (namN M.b) ∧ e.val = BsA M := by
  have h1 : (e.key, e.val) ∈ es.toList.map (fun e => (e.key, e.val)) := List.mem_map.2 ⟨e, he, rfl⟩
  rw [h] at h1
  obtain ⟨M, hM, hE⟩ := List.mem_map.1 h1
  have h2 := Prod.mk.inj hE
  exact ⟨M, hM, h2.1.symm, h2.2.symm⟩
theorem MapR.ent {es : Array MapEntry} {Ms : List BlX} (h : MapR es Ms) {M : BlX} (hM : M ∈ Ms) : ∃ e ∈ es.toList, e.key = keyV M.b.vw (namN M.b) ∧ e.val = BsA M := by
  have h1 : (keyV M.b.vw (namN M.b), BsA M) ∈ Ms.map (fun M => (keyV M.b.vw (namN M.b), BsA M)) := List.mem_map.2 ⟨M, hM, rfl⟩
  rw [← h] at h1
  obtain ⟨e, he, hE⟩ := List.mem_map.1 h1
  have h2 := Prod.mk.inj hE
  exact ⟨e, he, h2.1, h2.2⟩
def FitMs (Ms : List BlX) : Prop := ∀ M ∈ Ms, -9223372036854775808 ≤ M.b.vw ∧ M.b.vw ≤ 9223372036854775807
theorem MapR.lits {es : Array MapEntry} {Ms : List BlX} (h : MapR es Ms) (hf : FitMs Ms) : ∀ e ∈ es.toList, ∃ l, keyOf Tryz.prog 233 e.key = some l := fun e he => by
  obtain ⟨M, hM, hk, -⟩ := h.key he
  rw [hk]
  have := namN_in M.b
  exact keyLitV _ _ (hf M hM) (by omega)
theorem zero_blockV (w : World) : (zeroValue 34).run Tryz.prog w = .ok (.agg #[.int .i64 0, .int .i64 0, .int .i64 0, .int .i64 0, .slice none 0 0, .slice none 0 0, .slice none 0 0, .int .i64 0]) w := by kernel_rfl
/-- Does the map have an entry of this View and Name, and which? -/
theorem look_any {Ms : List BlX} {es : Array MapEntry} (hR : MapR es Ms) (hf : FitMs Ms) (hU : ∀ M ∈ Ms, ∀ M' ∈ Ms, namN M.b = namN M'.b → M = M') (v n : Int) (hv : -9223372036854775808 ≤ v ∧ v ≤ 9223372036854775807) (hn : -9223372036854775808 ≤ n ∧ n ≤ 9223372036854775807) :
    (∃ M ∈ Ms, isB n v M.b = true ∧ ∀ (w : World) (r c : Nat), w.heap[r]? = some (.map es c) → (Instr.lookup 121 (.map (some r)) (keyV v n) true).run Tryz.prog w = .ok (.tuple #[BsA M, .bool true]) w) ∨
    ((∀ M ∈ Ms, isB n v M.b = false) ∧ ∀ (w : World) (r c : Nat), w.heap[r]? = some (.map es c) → (Instr.lookup 121 (.map (some r)) (keyV v n) true).run Tryz.prog w = .ok (.tuple #[.agg #[.int .i64 0, .int .i64 0, .int .i64 0, .int .i64 0, .slice none 0 0, .slice none 0 0, .slice none 0 0, .int .i64 0], .bool false]) w) := by
  obtain ⟨l, hl⟩ := keyLitV v n hv hn
  have hu : Tryz.prog.underlying 121 = some (.map 233 34) := by kernel_rfl
  by_cases hex : ∃ M ∈ Ms, isB n v M.b = true
  · obtain ⟨M0, hM0, hb0⟩ := hex
    unfold isB at hb0
    simp at hb0
    left
    refine ⟨M0, hM0, by unfold isB; simp [hb0], fun w r c hm => ?_⟩
    obtain ⟨e0, he0, hk0, hv0⟩ := hR.ent hM0
    rcases lawKeyV.find w hl es.toList (hR.lits hf) with ⟨h1, h2⟩ | ⟨j, e, h1, h2, h3⟩
    · exact absurd (by rw [hk0, hb0.1, hb0.2]) (h2 e0 he0)
    · obtain ⟨M, hM, hk, hval⟩ := hR.key (List.mem_of_getElem? h2)
      rw [h3] at hk
      obtain ⟨hkv, hkn⟩ := keyV_inj hk
      have hMM : M = M0 := hU M hM M0 hM0 (by rw [← hkn, hb0.2])
      subst hMM
      have hc := lawKeyV.check w es.isEmpty hl
      simp [Instr.lookup, run_underlying hu, MapKept.run_getObj_map hm, hc, h1, hval, Result.andThen]
  · right
    refine ⟨fun M hM => by cases h : isB n v M.b with | false => rfl | true => exact absurd ⟨M, hM, h⟩ hex, fun w r c hm => ?_⟩
    rcases lawKeyV.find w hl es.toList (hR.lits hf) with ⟨h1, h2⟩ | ⟨j, e, h1, h2, h3⟩
    · have hc := lawKeyV.check w es.isEmpty hl
      simp [Instr.lookup, run_underlying hu, MapKept.run_getObj_map hm, hc, h1, zero_blockV w, Result.andThen]
    · exfalso
      obtain ⟨M, hM, hk, -⟩ := hR.key (List.mem_of_getElem? h2)
      rw [h3] at hk
      obtain ⟨hkv, hkn⟩ := keyV_inj hk
      exact hex ⟨M, hM, by unfold isB; simp [← hkv, ← hkn]⟩
/-- A new entry. -/
theorem put_any {Ms : List BlX} {es : Array MapEntry} (hR : MapR es Ms) (hf : FitMs Ms) (M : BlX) (hM : -9223372036854775808 ≤ M.b.vw ∧ M.b.vw ≤ 9223372036854775807) (hnew : ∀ M' ∈ Ms, namN M'.b ≠ namN M.b) (w : World) (r c : Nat) (hm : w.heap[r]? = some (.map es c)) :
    ∃ es' w', (Instr.mapUpdate 121 (.map (some r)) (keyV M.b.vw (namN M.b)) (BsA M)).run Tryz.prog w = .ok () w' ∧ w'.heap[r]? = some (.map es' (c + 1)) ∧ MapR es' (Ms ++ [M]) ∧ Touch [r] w w' := by
  obtain ⟨l, hl⟩ := keyLitV M.b.vw (namN M.b) hM (by have := namN_in M.b; omega)
  have hu : Tryz.prog.underlying 121 = some (.map 233 34) := by kernel_rfl
  have hc := lawKeyV.check w false hl
  have hlt : r < w.heap.size := (Array.getElem?_eq_some_iff.1 hm).1
  rcases lawKeyV.find w hl es.toList (hR.lits hf) with ⟨h1, h2⟩ | ⟨j, e, h1, h2, h3⟩
  · refine ⟨es.push { key := keyV M.b.vw (namN M.b), val := BsA M, born := c }, { w with heap := w.heap.setIfInBounds r (.map (es.push { key := keyV M.b.vw (namN M.b), val := BsA M, born := c }) (c + 1)) }, ?_, ?_, ?_, ?_⟩
    · simp [Instr.mapUpdate, run_underlying hu, MapKept.run_getObj_map hm, hc, h1, MapKept.run_setObj_map _ hm, Result.andThen]
    · exact (MapKept.heap_set hm).1
    · unfold MapR at hR ⊢
      simp only [Array.toList_push, List.map_append, hR, List.map_cons, List.map_nil]
    · exact ⟨rfl, rfl, rfl, by simp, fun k _ hk => (MapKept.heap_set hm).2 k (fun e => hk (by simp [e]))⟩
  · exfalso
    obtain ⟨M', hM', hk, -⟩ := hR.key (List.mem_of_getElem? h2)
    rw [h3] at hk
    exact hnew M' hM' (keyV_inj hk).2.symm
end Go.Proofs.YtilhaokiohbeeaaGreatDoor
