/- The program's groupOf, as far as ClusterOk asks; its ClusterOk. -/
import Derived.Test.YtilhaokiohbeeaaGreatDoorG36
import Derived.Test.YtilhaokiohbeeaaGreatDoorVtrOf
import Derived.Test.YtilhaokiohbeeaaGreatDoorRepEqv
import Derived.Deep.WholeRow
-- UNF Gen
namespace Go.Proofs.YtilhaokiohbeeaaGreatDoor
open Go.RowKit
/-- What groupOf answers, as far as ClusterOk asks. -/
def GrB (w : World) (X : ClX) (e : Ending) (w' : World) : Prop := ∃ (g : Nat) (b : Bool), e = .returned (.tuple #[.pointer (some ⟨g, 0, none⟩), .bool b]) ∧ (b = true ↔ ClOk X) ∧ Below w.heap.size w w'
theorem GrB.mk {w : World} {X : ClX} {w' : World} (g : Nat) (b : Bool) (h : b = true ↔ ClOk X) (hb : Below w.heap.size w w') : GrB w X (.returned (.tuple #[.pointer (some ⟨g, 0, none⟩), .bool b])) w' := ⟨g, b, rfl, h, hb⟩
theorem GrB.yes {w : World} {X : ClX} {w' : World} (g : Nat) (h : ClOk X) (hb : Below w.heap.size w w') : GrB w X (.returned (.tuple #[.pointer (some ⟨g, 0, none⟩), .bool true])) w' := ⟨g, true, rfl, ⟨fun _ => h, fun _ => rfl⟩, hb⟩
theorem GrB.no {w : World} {X : ClX} {w' : World} (g : Nat) (h : ¬ ClOk X) (hb : Below w.heap.size w w') : GrB w X (.returned (.tuple #[.pointer (some ⟨g, 0, none⟩), .bool false])) w' := ⟨g, false, rfl, ⟨fun e => (by cases e), fun e => absurd e h⟩, hb⟩
/-- What the program's copies ask of a Replica. -/
structure GoodRep (t : RepX) : Prop where
  fit : FitRep t.rep
  sm : SmB t.bs
  nil : ∀ M ∈ t.bs, NilOk M.vm
  sum : t.hi.p.sv.length ≤ 1048576 ∧ t.hi.p.tg.length ≤ 1048576 ∧ t.dn.length ≤ 1048576
structure GoodMg (t : MsX) : Prop where
  nil : NilOk t.bl.vm
  sm : SmallMs t
  to' : -9223372036854775808 ≤ t.to' ∧ t.to' ≤ 9223372036854775807
/-- A Replica's six rows are slices. -/
theorem rdRep_sl {w : World} {X : RepX} (h : RdRep w X) : SlR X := by
  obtain ⟨h1, h2⟩ := OwnPr.sl h.hi
  refine ⟨h1, h2, ?_, ?_, ?_, ?_⟩
  · obtain ⟨a, c, e, -⟩ := h.bl; rw [e]; rfl
  · obtain ⟨a, c, e, -⟩ := h.vo; rw [e]; rfl
  · obtain ⟨a, c, e, -⟩ := h.nw; rw [e]; rfl
  · obtain ⟨a, c, e, -⟩ := h.dn; rw [e]; rfl
theorem RepAt.range {w : World} {b o : Nat} {e : RepX} (h : RepAt w b o e) : w.rangeAt b o (RsC e) := fun _ _ hv => h.cellAt hv
theorem fill20 (Y : MsX) : List.foldl (fun cs x => cs.setIfInBounds x.snd x.fst) #[.int .i64 0, .int .i64 0, .int .i64 0, .int .i64 0, .int .i64 0, .int .i64 0, .int .i64 0, .int .i64 0, .slice none 0 0, .slice none 0 0, .slice none 0 0, .int .i64 0, .int .i64 0, .int .i64 0, .int .i64 0, .int .i64 0, .int .i64 0, .int .i64 0, .slice none 0 0, .slice none 0 0] (MsC Y).zipIdx = (MsC Y).toArray := by
  simp [MsC]
def VoB (W : World) (t : RepX) (e : Ending) (w' : World) : Prop := ∃ g : Nat, e = .returned (.tuple #[.pointer (some ⟨g, 0, none⟩), .bool (repR t.rep)]) ∧ Below W.heap.size W w'
theorem voB_any (t : RepX) (W : World) (h : RdRep W t) (hg : GoodRep t) (ht : Tab W) : Calls Tryz.prog 67 #[.agg #[.int .i64 t.idn, .int .i64 t.n, .int .i64 t.vw, .int .i64 t.vo, .int .i64 t.lo, .int .i64 t.pr, .int .i64 t.hi.p.vw, .int .i64 t.hi.p.nm, t.hi.vs, t.hi.vt, t.vb, t.vv, t.vn, t.vd]] W fun e w' => VoB W t e w' := by
  refine (voterOf_any t W h hg.fit hg.sm hg.nil hg.sum ht).mono ?_
  rintro e w' (⟨hr, ⟨g, rfl⟩, hb⟩ | ⟨hr, g, V, rfl, hV, -⟩)
  · rw [rep_same] at hr
    exact ⟨g, by rw [hr], hb⟩
  · rw [rep_same] at hr
    exact ⟨g, by rw [hr], hV.a.bel⟩
set_option maxHeartbeats 40000000 in
set_option maxRecDepth 100000 in
theorem groupOf_any (X : ClX) (w : World) (hx : RdCl w X) (hfr : ∀ t ∈ X.rs, GoodRep t) (hfm : ∀ t ∈ X.ms, GoodMg t) (ht : Tab w) :
    Calls Tryz.prog 93 #[.agg #[X.vr, X.vm]] w fun e w' => GrB w X e w' := by
  obtain ⟨vr, rs, vm, ms⟩ := X
  obtain ⟨ar, kr, hvr, hlr, hmr, -⟩ := id hx.rr
  obtain ⟨am, km, hvm, hlm, hmm, -⟩ := id hx.rm
  simp only at hvr hvm hlr hmr hlm hmm hfr hfm ⊢
  unfold maxLen at hmr hmm
  obtain ⟨nr, hnr⟩ : ∃ n, n = rs.length := ⟨_, rfl⟩
  obtain ⟨nm, hnm⟩ : ∃ n, n = ms.length := ⟨_, rfl⟩
  have HNR : Hid (nr = rs.length) := hnr
  have HNM : Hid (nm = ms.length) := hnm
  rw [← hnr] at hvr hlr
  rw [← hnm] at hvm hlm
  have HX : Hid (∀ W, Below w.heap.size w W → RdCl W ⟨vr, rs, vm, ms⟩) := fun W h => hx.below h
  have HSR : Hid (∀ k, k < nr → ∀ W, RdRep W (nthRs rs k) → Below w.heap.size w W → Calls Tryz.prog 67 #[.agg #[.int .i64 (nthRs rs k).idn, .int .i64 (nthRs rs k).n, .int .i64 (nthRs rs k).vw, .int .i64 (nthRs rs k).vo, .int .i64 (nthRs rs k).lo, .int .i64 (nthRs rs k).pr, .int .i64 (nthRs rs k).hi.p.vw, .int .i64 (nthRs rs k).hi.p.nm, (nthRs rs k).hi.vs, (nthRs rs k).hi.vt, (nthRs rs k).vb, (nthRs rs k).vv, (nthRs rs k).vn, (nthRs rs k).vd]] W fun e w' => VoB W (nthRs rs k) e w') := fun k hk W h hb => by
    have hm : nthRs rs k ∈ rs := by rw [nthRs_eq (by omega)]; exact List.getElem_mem _
    exact voB_any _ W h (hfr _ hm) (ht.on hb)
  have HTM : Hid (∀ k, k < nm → GoodMg (nthMs ms k)) := fun k hk => hfm _ (by rw [nthMs_eq (by omega)]; exact List.getElem_mem _)
  clear hx hfr hfm hnr hnm ht
  subst hvr hvm
  have CB0 := bx_new w 65 #[.slice ar nr kr, .slice am nm km]
  have bb0 := below1 w (.cells #[.slice ar nr kr, .slice am nm km] 65)
  have CB := CB0.below (below1 (w.alloc (.cells #[.slice ar nr kr, .slice am nm km] 65)) (.cells #[.slice none 0 0, .slice none 0 0] 217))
  have GB := bx_new (w.alloc (.cells #[.slice ar nr kr, .slice am nm km] 65)) 217 #[.slice none 0 0, .slice none 0 0]
  rw [show (w.alloc (.cells #[.slice ar nr kr, .slice am nm km] 65)).heap.size = w.heap.size + 1 by simp] at GB
  have b0 := below2 w (.cells #[.slice ar nr kr, .slice am nm km] 65) (.cells #[.slice none 0 0, .slice none 0 0] 217)
  obtain ⟨q0, q1⟩ := CB.d2
  cases hs : srvB (nr : Int) with
  | false =>
    have HQ : Hid (∀ W, Calls Tryz.prog 99 #[.int .i64 (nr : Int)] W fun e w' => e = .returned (.int .i64 (-1)) ∧ w' = W) := fun W => implQuorumZ_any (-1) _ (quoR_no hs) W
    have HNO : Hid (¬ ClOk ⟨.slice ar nr kr, rs, .slice am nm km, ms⟩) := fun h => by
      have h1 := h.sv
      simp only at h1
      rw [← HNR.out, hs] at h1
      cases h1
    clear hs
    go_enter Tryz.func93, Tryz.ntmps93
    go_wp2_with fail
    refine (HQ.out _).mono ?_
    rintro e w2 ⟨rfl, rfl⟩
    go_wp2
    go_ret2
    exact GrB.no _ HNO.out b0
  | true =>
  have HQ0 : ∃ q : Int, (q == -1) = false ∧ ∀ W, Calls Tryz.prog 99 #[.int .i64 (nr : Int)] W fun e w' => e = .returned (.int .i64 q) ∧ w' = W := ⟨quoR (nr : Int), by have := quoR_yes hs; simp; omega, fun W => implQuorumZ_any _ _ rfl W⟩
  obtain ⟨qq, hqq, HQ1⟩ := HQ0
  have HQ : Hid (∀ W, Calls Tryz.prog 99 #[.int .i64 (nr : Int)] W fun e w' => e = .returned (.int .i64 qq) ∧ w' = W) := HQ1
  have HSV : Hid (srvB (rs.length : Int) = true) := by rw [← HNR.out]; exact hs
  have h17 : nr ≤ 7 := by
    rcases srvB_iff.1 hs with h | h | h <;> omega
  clear hs HQ1
  by_cases h150 : nm ≤ 150
  case neg =>
    have HNO : Hid (¬ ClOk ⟨.slice ar nr kr, rs, .slice am nm km, ms⟩) := fun h => by
      have h1 := h.ln
      simp only at h1
      rw [← HNM.out] at h1
      omega
    have h151 : (150 : Int) < (nm : Int) := by omega
    go_enter Tryz.func93, Tryz.ntmps93
    go_wp2_with fail
    refine (HQ.out _).mono ?_
    rintro e w2 ⟨rfl, rfl⟩
    go_wp2
    go_ret2
    exact GrB.no _ HNO.out b0
  have h151 : ¬ (150 : Int) < (nm : Int) := by omega
  go_enter Tryz.func93, Tryz.ntmps93
  go_wp2_with fail
  refine (HQ.out _).mono ?_
  rintro e w2 ⟨rfl, rfl⟩
  go_wp2
  clear CB0 bb0
  go_loopw [30] (fun i wr => ∃ (k : Nat) (av : Option Addr) (cv : Nat) (gs : List Nat), k ≤ nr ∧ i = .int .i64 k ∧ Bx wr w.heap.size 65 #[.slice ar nr kr, .slice am nm km] ∧ Bx wr (w.heap.size + 1) 217 #[.slice av k cv, .slice none 0 0] ∧ Hid (OwnPt wr w.heap.size (.slice av k cv) gs ∧ gs.length = k) ∧ Hid (∀ j, j < k → repIs (nr : Int) j (nthRs rs j).rep) ∧ Below w.heap.size w wr) (fun i _ => nr - (intOf i).toNat)
  case atStart => exact ⟨0, none, 0, [], Nat.zero_le _, rfl, CB, GB, ⟨ownPt_nil _ _, rfl⟩, (fun j h => by omega), b0⟩
  case round =>
    obtain ⟨k, av, cv, gs, hk, rfl, hC, hG, HP, HJ, hb⟩ := hrel
    clear CB GB b0 q0 q1
    obtain ⟨q0, q1⟩ := hC.d2
    by_cases hlt : k < nr
    · have hkl : k < rs.length := by rw [← HNR.out]; exact hlt
      have hX := HX.out _ hb
      obtain ⟨b, off, rfl, hc⟩ := hX.rr.atN k hkl
      have hri := hX.ir.nth hkl
      have hkc : k < kr := by omega
      have HC := HSR.out k hlt
      have HNO : Hid (¬ repIs (nr : Int) k (nthRs rs k).rep → ¬ ClOk ⟨.slice (some ⟨b, off, none⟩) nr kr, rs, .slice am nm km, ms⟩) := fun hn h => hn (by have := h.rp k hkl; simp only at this; rwa [← HNR.out] at this)
      have HJ2 : Hid (repIs (nr : Int) k (nthRs rs k).rep → ∀ j, j < k + 1 → repIs (nr : Int) j (nthRs rs j).rep) := fun h j hj => by
        by_cases e : j = k
        · rw [e]; exact h
        · exact HJ.out j (by omega)
      generalize nthRs rs k = t at hc hri HC HNO HJ2
      have HCC : Hid (∀ W, RdRep W t → Below w.heap.size w W → Calls Tryz.prog 67 #[.agg #[.int .i64 t.idn, .int .i64 t.n, .int .i64 t.vw, .int .i64 t.vo, .int .i64 t.lo, .int .i64 t.pr, .int .i64 t.hi.p.vw, .int .i64 t.hi.p.nm, t.hi.vs, t.hi.vt, t.vb, t.vv, t.vn, t.vd]] W fun e w' => VoB W t e w') := HC
      clear HC hX hkl
      obtain ⟨RC, hRC⟩ : ∃ RC : List Value, RC = RsC t := ⟨_, rfl⟩
      have hrg : wr.rangeAt b (off + k * 14) RC := by rw [hRC]; exact hc.range
      have hsz : (Tryz.prog.info? 31).map (·.size) = some RC.length := by rw [hRC]; kernel_rfl
      have hsz2 : (Tryz.prog.info? 31).map (·.size) = some RC.toArray.size := by rw [hRC]; kernel_rfl
      have hos : (#[.int .i64 0, .int .i64 0, .int .i64 0, .int .i64 0, .int .i64 0, .int .i64 0, .int .i64 0, .int .i64 0, .slice none 0 0, .slice none 0 0, .slice none 0 0, .slice none 0 0, .slice none 0 0, .slice none 0 0] : Array Value).size = RC.toArray.size := by rw [hRC]; rfl
      have hall : RC.toArray.all (·.oneCell') = true := all_oneCell_toArray (by
        rw [hRC, ← RsV_one]
        exact RsV_oneCell [t] (fun X hX => by rw [List.mem_singleton.1 hX]; exact rdRep_sl hri))
      have e0 : RC.toArray[0]? = some (.int .i64 t.idn) := by rw [hRC]; rfl
      have e1 : RC.toArray[1]? = some (.int .i64 t.n) := by rw [hRC]; rfl
      have HC9 : Hid (∀ W, RdRep W t → Below w.heap.size w W → Calls Tryz.prog 67 #[.agg RC.toArray] W fun e w' => VoB W t e w') := by rw [hRC]; exact HCC
      have TA : Touch [wr.heap.size] (wr.alloc (.cells #[.int .i64 0, .int .i64 0, .int .i64 0, .int .i64 0, .int .i64 0, .int .i64 0, .int .i64 0, .int .i64 0, .slice none 0 0, .slice none 0 0, .slice none 0 0, .slice none 0 0, .slice none 0 0, .slice none 0 0] 31)) ((wr.alloc (.cells #[.int .i64 0, .int .i64 0, .int .i64 0, .int .i64 0, .int .i64 0, .int .i64 0, .int .i64 0, .int .i64 0, .slice none 0 0, .slice none 0 0, .slice none 0 0, .slice none 0 0, .slice none 0 0, .slice none 0 0] 31)).setRow wr.heap.size RC.toArray) := touch_setRow
      have bA : Below wr.heap.size wr ((wr.alloc (.cells #[.int .i64 0, .int .i64 0, .int .i64 0, .int .i64 0, .int .i64 0, .int .i64 0, .int .i64 0, .int .i64 0, .slice none 0 0, .slice none 0 0, .slice none 0 0, .slice none 0 0, .slice none 0 0, .slice none 0 0] 31)).setRow wr.heap.size RC.toArray) := TA.below (below1 wr _) (fun q hq => by have := List.mem_singleton.1 hq; omega)
      have RB : Bx ((wr.alloc (.cells #[.int .i64 0, .int .i64 0, .int .i64 0, .int .i64 0, .int .i64 0, .int .i64 0, .int .i64 0, .int .i64 0, .slice none 0 0, .slice none 0 0, .slice none 0 0, .slice none 0 0, .slice none 0 0, .slice none 0 0] 31)).setRow wr.heap.size RC.toArray) wr.heap.size 31 RC.toArray := (bx_new wr 31 #[.int .i64 0, .int .i64 0, .int .i64 0, .int .i64 0, .int .i64 0, .int .i64 0, .int .i64 0, .int .i64 0, .slice none 0 0, .slice none 0 0, .slice none 0 0, .slice none 0 0, .slice none 0 0, .slice none 0 0]).setRow RC.toArray
      have hbA := hb.trans (bA.mono hb.size)
      have hC1 := hC.below bA
      have hG1 := hG.below bA
      have HP1 : Hid (OwnPt ((wr.alloc (.cells #[.int .i64 0, .int .i64 0, .int .i64 0, .int .i64 0, .int .i64 0, .int .i64 0, .int .i64 0, .int .i64 0, .slice none 0 0, .slice none 0 0, .slice none 0 0, .slice none 0 0, .slice none 0 0, .slice none 0 0] 31)).setRow wr.heap.size RC.toArray) w.heap.size (.slice av k cv) gs ∧ gs.length = k) := ⟨HP.out.1.below bA, HP.out.2⟩
      have hri1 := hri.below bA
      have hheap : ((wr.alloc (.cells #[.int .i64 0, .int .i64 0, .int .i64 0, .int .i64 0, .int .i64 0, .int .i64 0, .int .i64 0, .int .i64 0, .slice none 0 0, .slice none 0 0, .slice none 0 0, .slice none 0 0, .slice none 0 0, .slice none 0 0] 31)).setRow wr.heap.size RC.toArray).heap[wr.heap.size]? = some (.cells RC.toArray 31 (0, 0)) := RB
      clear hc hri hb bA hC hG HP TA HCC hRC
      go_wp2_with (first | (refine wpList_load_mid rfl 31 _ rfl b (off + k * 14) rfl RC _ hrg Tryz.underlying31 (by rfl) hsz ?_) | (refine wpList_store_row rfl 31 _ _ rfl wr.heap.size RC.toArray rfl rfl 31 _ (heap_alloc_new wr _) hsz2 hos hall ?_) | (refine wpList_load_row rfl 31 _ rfl wr.heap.size rfl 31 RC.toArray (0, 0) _ hheap Tryz.underlying31 (by rfl) hsz2 ?_))
      generalize (wr.alloc (.cells #[.int .i64 0, .int .i64 0, .int .i64 0, .int .i64 0, .int .i64 0, .int .i64 0, .int .i64 0, .int .i64 0, .slice none 0 0, .slice none 0 0, .slice none 0 0, .slice none 0 0, .slice none 0 0, .slice none 0 0] 31)).setRow wr.heap.size RC.toArray = W1 at hbA hC1 hG1 HP1 hri1 RB ⊢
      clear hheap hrg
      generalize wr.heap.size = rb at RB ⊢
      refine (HC9.out _ hri1 hbA).mono ?_
      rintro e w3 ⟨vg, rfl, hb3⟩
      have hC3 := hC1.below hb3
      have hG3 := hG1.below hb3
      have HP3 : Hid (OwnPt w3 w.heap.size (.slice av k cv) gs ∧ gs.length = k) := ⟨HP1.out.1.below hb3, HP1.out.2⟩
      have R3 := RB.below hb3
      have bz := hbA.trans (hb3.mono hbA.size)
      have r0 := R3.cell 0 e0
      have r1 := R3.cell 1 e1
      clear hC1 hG1 HP1 RB hbA hb3 hri1 HC9 q0 q1 e0 e1 hsz hsz2 hos hall
      have HRI : Hid (repR t.rep = true → t.idn = (k : Int) → t.n = (nr : Int) → repIs (nr : Int) k t.rep) := fun h1 h2 h3 => ⟨h2, h3, h1⟩
      have HRN : Hid (repIs (nr : Int) k t.rep → repR t.rep = true ∧ t.idn = (k : Int) ∧ t.n = (nr : Int)) := fun h => ⟨h.2.2, h.1, h.2.1⟩
      generalize repR t.rep = rr at HRI HRN ⊢
      cases rr with
      | false =>
        have HN : Hid (¬ ClOk ⟨.slice (some ⟨b, off, none⟩) nr kr, rs, .slice am nm km, ms⟩) := HNO.out (fun h => by have := (HRN.out h).1; cases this)
        clear HNO HJ2 HRI HRN
        go_wp2
        go_ret2
        exact GrB.no _ HN.out bz
      | true =>
      by_cases hid : t.idn = (k : Int)
      case neg =>
        have HN : Hid (¬ ClOk ⟨.slice (some ⟨b, off, none⟩) nr kr, rs, .slice am nm km, ms⟩) := HNO.out (fun h => hid (HRN.out h).2.1)
        have hne : (t.idn != (k : Int)) = true := by simpa using hid
        clear HNO HJ2 HRI HRN hid
        go_wp2
        go_ret2
        exact GrB.no _ HN.out bz
      have hie : (t.idn != (k : Int)) = false := by simpa using hid
      by_cases hnn : t.n = (nr : Int)
      case neg =>
        have HN : Hid (¬ ClOk ⟨.slice (some ⟨b, off, none⟩) nr kr, rs, .slice am nm km, ms⟩) := HNO.out (fun h => hnn (HRN.out h).2.2)
        have hne : (t.n != (nr : Int)) = true := by simpa using hnn
        clear HNO HJ2 HRI HRN hnn hid
        go_wp2
        go_ret2
        exact GrB.no _ HN.out bz
      have hnne : (t.n != (nr : Int)) = false := by simpa using hnn
      have HJ3 : Hid (∀ j, j < k + 1 → repIs (nr : Int) j (nthRs rs j).rep) := HJ2.out (HRI.out rfl hid hnn)
      have bP := below1 w3 (.cells #[.pointer (some ⟨vg, 0, none⟩)] 117)
      have hO := HP3.out.1.below bP
      have hl := HP3.out.2
      have hRd := (ownPt_one w3 vg).rd
      have bw := bz.trans (bP.mono bz.size)
      have hC4 := hC3.below bP
      have hG4 := hG3.below bP
      obtain ⟨x0, x1⟩ := hG3.d2
      clear HNO HJ2 HRI HRN hnn hid bz bP HP3 HJ R3
      go_wp2_with (at_builtin; (refine wpList_append_pts rfl _ _ rfl w.heap.size _ _ gs [vg] rfl rfl hO hRd (by simp; omega) (by first | exact bw.size | omega) ?_))
      intro u2 w4 ho4 hg4
      obtain ⟨a2, c2, rfl⟩ : ∃ a c, u2 = .slice a (k + 1) c := by
        obtain ⟨a, c, h⟩ := ownSlX ho4
        rw [List.length_append, hl] at h
        exact ⟨a, c, h⟩
      have tch := Touch.of_grown hg4 (fun q hq => mem_oneB.2 hq)
      have b4 := tch.below bw (fun q hq => (World.ownsRow.lt hO q (mem_oneB.1 hq)).1)
      have hC5 := hC4.touch tch (fun e => hC4.row hO (by decide) _ (mem_oneB.1 e) rfl)
      have hG5 := hG4.touch tch (fun e => hG4.row hO (by decide) _ (mem_oneB.1 e) rfl)
      have T6 : Touch [w.heap.size + 1] w4 (w4.setCell ⟨w.heap.size + 1, 0, none⟩ (.slice a2 (k + 1) c2)) := Touch.set (List.mem_singleton.2 rfl)
      have hC6 := hC5.touch T6 (by simp)
      have hG6 : Bx (w4.setCell ⟨w.heap.size + 1, 0, none⟩ (.slice a2 (k + 1) c2)) (w.heap.size + 1) 217 #[.slice a2 (k + 1) c2, .slice none 0 0] := hG5.set 0 _
      have hO6 : Hid (OwnPt (w4.setCell ⟨w.heap.size + 1, 0, none⟩ (.slice a2 (k + 1) c2)) w.heap.size (.slice a2 (k + 1) c2) (gs ++ [vg]) ∧ (gs ++ [vg]).length = k + 1) := ⟨row_set ho4 (fun q hq e => hG5.row ho4 (by decide) q hq e), by simp [hl]⟩
      have b6 := T6.below b4 (fun q hq => by have := List.mem_singleton.1 hq; omega)
      obtain ⟨y0, y1⟩ := hG5.d2
      have f0 := hG5.fz 0
      clear hO hRd bw hC4 hG4 tch b4 hC5 hG5 T6 ho4 hg4 x0 x1 hG3 hC3 hl r0 r1
      go_wp2
      go_roundw
      case rel => exact ⟨k + 1, _, _, _, by omega, by go_num, hC6, hG6, hO6, HJ3, b6⟩
      case measure => simp [intOf]; omega
    · have hke : k = nr := by omega
      have HJA : Hid (∀ j, j < nr → repIs (nr : Int) j (nthRs rs j).rep) := fun j hj => HJ.out j (by omega)
      clear HJ HSR HP hk
      subst hke
      have N0 : Hid (OwnMs wr w.heap.size (.slice none 0 0) []) := ⟨rfl, .inl ⟨rfl, rfl⟩⟩
      go_wp2
      go_loopw [69] (fun i wq => ∃ (m : Nat) (an : Option Addr) (cn : Nat) (ys : List MsX), m ≤ nm ∧ i = .int .i64 m ∧ Bx wq w.heap.size 65 #[.slice ar k kr, .slice am nm km] ∧ Bx wq (w.heap.size + 1) 217 #[.slice av k cv, .slice an m cn] ∧ Hid (OwnMs wq w.heap.size (.slice an m cn) ys ∧ ys.length = m) ∧ Hid (∀ j, j < m → 0 ≤ (nthMs ms j).to' ∧ (nthMs ms j).to' < (k : Int)) ∧ Below w.heap.size w wq) (fun i _ => nm - (intOf i).toNat)
      case atStart => exact ⟨0, none, 0, [], Nat.zero_le _, rfl, hC, hG, ⟨N0.out, rfl⟩, (fun j h => by omega), hb⟩
      case round =>
        obtain ⟨m, an, cn, ys, hm, rfl, hC2, hG2, HN2, HM, hb2⟩ := hrel
        clear hC hG hb N0 q0 q1
        by_cases hlt2 : m < nm
        · have hml : m < ms.length := by rw [← HNM.out]; exact hlt2
          have hX := HX.out _ hb2
          obtain ⟨b, off, rfl, hc⟩ := hX.rm.atN m hml
          have hri := hX.im.nth hml
          have hmc : m < km := by omega
          have hto := HTM.out m hlt2
          have HNO : Hid (¬ (0 ≤ (nthMs ms m).to' ∧ (nthMs ms m).to' < (k : Int)) → ¬ ClOk ⟨.slice ar k kr, rs, .slice (some ⟨b, off, none⟩) nm km, ms⟩) := fun hn h => hn (by have := h.ms m hml; simp only at this; rwa [← HNR.out] at this)
          have HM2 : Hid (0 ≤ (nthMs ms m).to' ∧ (nthMs ms m).to' < (k : Int) → ∀ j, j < m + 1 → 0 ≤ (nthMs ms j).to' ∧ (nthMs ms j).to' < (k : Int)) := fun h j hj => by
            by_cases e : j = m
            · rw [e]; exact h
            · exact HM.out j (by omega)
          generalize nthMs ms m = t at hc hri hto HNO HM2
          obtain ⟨CC, hCC⟩ : ∃ CC : List Value, CC = MsC t := ⟨_, rfl⟩
          have hrg : wr.rangeAt b (off + m * 20) CC := by rw [hCC]; exact hc.range
          have hsz : (Tryz.prog.info? 38).map (·.size) = some CC.length := by rw [hCC]; kernel_rfl
          have hsz2 : (Tryz.prog.info? 38).map (·.size) = some CC.toArray.size := by rw [hCC]; kernel_rfl
          have hos : (#[.int .i64 0, .int .i64 0, .int .i64 0, .int .i64 0, .int .i64 0, .int .i64 0, .int .i64 0, .int .i64 0, .slice none 0 0, .slice none 0 0, .slice none 0 0, .int .i64 0, .int .i64 0, .int .i64 0, .int .i64 0, .int .i64 0, .int .i64 0, .int .i64 0, .slice none 0 0, .slice none 0 0] : Array Value).size = CC.toArray.size := by rw [hCC]; rfl
          have hall : CC.toArray.all (·.oneCell') = true := all_oneCell_toArray (by
            rw [hCC, ← MsV_one]
            exact MsV_oneCell [t] (fun X hX => by rw [List.mem_singleton.1 hX]; exact hri.sl))
          have e2 : CC.toArray[2]? = some (.int .i64 t.to') := by rw [hCC]; rfl
          have HCP : Hid (∀ W, RdMg W t → Calls Tryz.prog 180 #[.agg CC.toArray] W fun e w' => ToMg W t.m e w') := by rw [hCC]; exact fun W h => messageCopied_any t W h hto.nil hto.sm
          have bA : Below wr.heap.size wr ((wr.alloc (.cells #[.int .i64 0, .int .i64 0, .int .i64 0, .int .i64 0, .int .i64 0, .int .i64 0, .int .i64 0, .int .i64 0, .slice none 0 0, .slice none 0 0, .slice none 0 0, .int .i64 0, .int .i64 0, .int .i64 0, .int .i64 0, .int .i64 0, .int .i64 0, .int .i64 0, .slice none 0 0, .slice none 0 0] 38)).setRow wr.heap.size CC.toArray) := (touch_setRow (g := wr.heap.size)).below (below1 wr (.cells #[.int .i64 0, .int .i64 0, .int .i64 0, .int .i64 0, .int .i64 0, .int .i64 0, .int .i64 0, .int .i64 0, .slice none 0 0, .slice none 0 0, .slice none 0 0, .int .i64 0, .int .i64 0, .int .i64 0, .int .i64 0, .int .i64 0, .int .i64 0, .int .i64 0, .slice none 0 0, .slice none 0 0] 38)) (fun q hq => by have := List.mem_singleton.1 hq; omega)
          have MB : Bx ((wr.alloc (.cells #[.int .i64 0, .int .i64 0, .int .i64 0, .int .i64 0, .int .i64 0, .int .i64 0, .int .i64 0, .int .i64 0, .slice none 0 0, .slice none 0 0, .slice none 0 0, .int .i64 0, .int .i64 0, .int .i64 0, .int .i64 0, .int .i64 0, .int .i64 0, .int .i64 0, .slice none 0 0, .slice none 0 0] 38)).setRow wr.heap.size CC.toArray) wr.heap.size 38 CC.toArray := (bx_new wr 38 #[.int .i64 0, .int .i64 0, .int .i64 0, .int .i64 0, .int .i64 0, .int .i64 0, .int .i64 0, .int .i64 0, .slice none 0 0, .slice none 0 0, .slice none 0 0, .int .i64 0, .int .i64 0, .int .i64 0, .int .i64 0, .int .i64 0, .int .i64 0, .int .i64 0, .slice none 0 0, .slice none 0 0]).setRow CC.toArray
          have hbA := hb2.trans (bA.mono hb2.size)
          have hC3 := hC2.below bA
          have hG3 := hG2.below bA
          have HN3 : Hid (OwnMs ((wr.alloc (.cells #[.int .i64 0, .int .i64 0, .int .i64 0, .int .i64 0, .int .i64 0, .int .i64 0, .int .i64 0, .int .i64 0, .slice none 0 0, .slice none 0 0, .slice none 0 0, .int .i64 0, .int .i64 0, .int .i64 0, .int .i64 0, .int .i64 0, .int .i64 0, .int .i64 0, .slice none 0 0, .slice none 0 0] 38)).setRow wr.heap.size CC.toArray) w.heap.size (.slice an m cn) ys ∧ ys.length = m) := ⟨OwnMs.below HN2.out.1 bA, HN2.out.2⟩
          have hri1 := hri.below bA
          have m2 := MB.cell 2 e2
          obtain ⟨bb, hbb⟩ : ∃ bb, bb = (decide (0 ≤ t.to') && decide (t.to' < (k : Int))) := ⟨_, rfl⟩
          have HH : Hid (∀ W, Bx W (w.heap.size + 1) 217 #[.slice av k cv, .slice an m cn] → Calls Tryz.prog 178 #[.pointer (some ⟨w.heap.size + 1, 0, none⟩), .int .i64 t.to'] W fun e w' => e = .returned (.bool bb) ∧ w' = W) := fun W h => has_any _ av k cv _ _ bb W h hbb.symm
          have HBT : Hid (bb = true → 0 ≤ t.to' ∧ t.to' < (k : Int)) := fun h => by
            rw [hbb] at h
            simpa only [Bool.and_eq_true, decide_eq_true_eq] using h
          have HBF : Hid (bb = false → ¬ (0 ≤ t.to' ∧ t.to' < (k : Int))) := fun h g => by
            rw [hbb, decide_eq_true g.1, decide_eq_true g.2] at h
            cases h
          have hm150 : m < 150 := by omega
          clear hc hri hb2 bA hC2 hG2 HN2 hCC hX hml hto hbb
          go_wp2_with (first | (refine wpList_load_mid rfl 38 _ rfl b (off + m * 20) rfl CC _ hrg Tryz.underlying38 (by rfl) hsz ?_) | (refine wpList_store_row rfl 38 _ _ rfl wr.heap.size CC.toArray rfl rfl 38 _ (heap_alloc_new wr _) hsz2 hos hall ?_))
          generalize (wr.alloc (.cells #[.int .i64 0, .int .i64 0, .int .i64 0, .int .i64 0, .int .i64 0, .int .i64 0, .int .i64 0, .int .i64 0, .slice none 0 0, .slice none 0 0, .slice none 0 0, .int .i64 0, .int .i64 0, .int .i64 0, .int .i64 0, .int .i64 0, .int .i64 0, .int .i64 0, .slice none 0 0, .slice none 0 0] 38)).setRow wr.heap.size CC.toArray = W1 at hbA hC3 hG3 HN3 hri1 MB m2 ⊢
          clear hrg
          generalize wr.heap.size = mb at MB m2 ⊢
          refine (HH.out _ hG3).mono ?_
          rintro e w2 ⟨rfl, rfl⟩
          cases bb with
          | false =>
            have HN : Hid (¬ ClOk ⟨.slice ar k kr, rs, .slice (some ⟨b, off, none⟩) nm km, ms⟩) := HNO.out (HBF.out rfl)
            clear HNO HM2 HBT HBF HH HCP
            go_wp2
            go_ret2
            exact GrB.no _ HN.out hbA
          | true =>
            have HM4 : Hid (∀ j, j < m + 1 → 0 ≤ (nthMs ms j).to' ∧ (nthMs ms j).to' < (k : Int)) := HM2.out (HBT.out rfl)
            have hheap : w2.heap[mb]? = some (.cells CC.toArray 38 (0, 0)) := MB
            clear HNO HM2 HBT HBF HH HM m2
            go_wp2_with (refine wpList_load_row rfl 38 _ rfl mb rfl 38 CC.toArray (0, 0) _ hheap Tryz.underlying38 (by rfl) hsz2 ?_)
            refine (HCP.out _ hri1).mono ?_
            rintro e w3 ⟨Y, he, hY, hOM, hb3⟩
            obtain ⟨DD, hDD⟩ : ∃ DD : List Value, DD = MsC Y := ⟨_, rfl⟩
            have he2 : e = .returned (.agg DD.toArray) := by rw [he, hDD]; rfl
            clear he
            subst he2
            have hd20 : DD.toArray.size = 20 := by rw [hDD]; rfl
            have hsl : SlM Y := hOM.rd.sl
            have bB := below1 w3 (.cells DD.toArray 38)
            have hC4 := (hC3.below hb3).below bB
            have hG4 := (hG3.below hb3).below bB
            have HN4 : Hid (OwnMs (w3.alloc (.cells DD.toArray 38)) w.heap.size (.slice an m cn) ys ∧ ys.length = m) := ⟨OwnMs.below (OwnMs.below HN3.out.1 hb3) bB, HN3.out.2⟩
            have hRd : RdMs (w3.alloc (.cells DD.toArray 38)) (.slice (some ⟨w3.heap.size, 0, none⟩) 1 1) [Y] := by rw [hDD]; exact rdMs_one w3 Y _
            have b3 := hbA.trans (hb3.mono hbA.size)
            have b4 := b3.trans (bB.mono b3.size)
            have hEQ : List.foldl (fun cs x => cs.setIfInBounds x.snd x.fst) #[.int .i64 0, .int .i64 0, .int .i64 0, .int .i64 0, .int .i64 0, .int .i64 0, .int .i64 0, .int .i64 0, .slice none 0 0, .slice none 0 0, .slice none 0 0, .int .i64 0, .int .i64 0, .int .i64 0, .int .i64 0, .int .i64 0, .int .i64 0, .int .i64 0, .slice none 0 0, .slice none 0 0] DD.zipIdx = DD.toArray := by rw [hDD]; exact fill20 Y
            clear hC3 hG3 HN3 hri1 MB hbA hb3 hheap hsz hsz2 hos hall e2 bB hDD hOM hY HCP
            go_wp2_with fail
            try rw [hEQ]
            generalize w3.alloc (.cells DD.toArray 38) = W4 at hC4 hG4 HN4 hRd b4 ⊢
            generalize w3.heap.size = nb at hRd ⊢
            refine (put_one (w.heap.size + 1) w.heap.size nb av k cv an m cn ys Y W4 hG4 HN4.out.1 HN4.out.2 hm150 hRd hsl b4.size).mono ?_
            rintro e w5 ⟨rfl, a2, c2, hG5, hO5, hTT⟩
            have hC5 := hC4.touch hTT (fun e => by
              rcases List.mem_cons.1 e with e | e
              · omega
              · exact hC4.row HN4.out.1 (by decide) _ (mem_oneB.1 e) rfl)
            have b5 := hTT.below b4 (fun q hq => by
              rcases List.mem_cons.1 hq with e | e
              · omega
              · exact (World.ownsRow.lt HN4.out.1 q (mem_oneB.1 e)).1)
            have HN5 : Hid (OwnMs w5 w.heap.size (.slice a2 (m + 1) c2) (ys ++ [Y]) ∧ (ys ++ [Y]).length = m + 1) := ⟨hO5, by rw [List.length_append, HN4.out.2]; rfl⟩
            clear hC4 hG4 HN4 hRd b3 b4 hEQ hO5 hTT hsl hd20
            go_wp2
            go_roundw
            case rel => exact ⟨m + 1, a2, c2, ys ++ [Y], by omega, by go_num, hC5, hG5, HN5, HM4, b5⟩
            case measure => simp [intOf]; omega
        · have hme : m = nm := by omega
          have HF : Hid (ClOk ⟨.slice ar k kr, rs, .slice am nm km, ms⟩) := by
            refine ⟨HSV.out, ?_, fun i hi => ?_, fun i hi => ?_⟩
            · simp only; rw [← HNM.out]; exact h150
            · simp only at hi ⊢; rw [← HNR.out] at hi ⊢; exact HJA.out i hi
            · simp only at hi ⊢; rw [← HNM.out] at hi; rw [← HNR.out]; exact HM.out i (by omega)
          clear hme
          go_wp2
          go_ret2
          exact GrB.yes _ HF.out hb2
set_option maxHeartbeats 4000000 in
set_option maxRecDepth 100000 in
theorem implClusterOk_any (X : ClX) (w : World) (hx : RdCl w X) (hfr : ∀ t ∈ X.rs, GoodRep t) (hfm : ∀ t ∈ X.ms, GoodMg t) (ht : Tab w) :
    Calls Tryz.prog 38 #[.agg #[X.vr, X.vm]] w fun e w' => ClB w X e w' := by
  have HG : Hid (∀ W, Below w.heap.size w W → Calls Tryz.prog 93 #[.agg #[X.vr, X.vm]] W fun e w' => GrB W X e w') := fun W h => groupOf_any X W (hx.below h) hfr hfm (ht.on h)
  obtain ⟨ar, kr, hvr, -⟩ := id hx.rr
  obtain ⟨am, km, hvm, -⟩ := id hx.rm
  generalize X.rs.length = nr at hvr
  generalize X.ms.length = nm at hvm
  clear hx hfr hfm ht
  rw [hvr, hvm] at HG ⊢
  have b0 := below1 w (.cells #[.slice ar nr kr, .slice am nm km] 65)
  have CB := bx_new w 65 #[.slice ar nr kr, .slice am nm km]
  obtain ⟨q0, q1⟩ := CB.d2
  go_enter Tryz.func38, Tryz.ntmps38
  go_wp2_with fail
  refine (HG.out _ b0).mono ?_
  rintro e w2 ⟨g, b, rfl, hb, hb2⟩
  have HF : Hid (ClB w X (.returned (.bool b)) w2) := ClB.mk b hb (b0.trans (hb2.mono b0.size))
  clear hb hb2 b0 CB q0 q1
  go_wp2
  go_ret
  exact HF.out
end Go.Proofs.YtilhaokiohbeeaaGreatDoor
