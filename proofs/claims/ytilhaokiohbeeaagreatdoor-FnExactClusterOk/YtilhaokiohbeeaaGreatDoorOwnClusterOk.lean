/- Whatever Cluster it is called with, laws.FnExactClusterOk returns true and its argument reads as before: both ClusterOk tell the same. Condition: the three listed tables of the Go library hold what its text lays there (tied by the card). -/
import Derived.Test.YtilhaokiohbeeaaGreatDoorRows
import Derived.Test.YtilhaokiohbeeaaGreatDoorCards
import Derived.Test.YtilhaokiohbeeaaGreatDoorTie
import Derived.Test.YtilhaokiohbeeaaGreatDoorG00
import Derived.Test.YtilhaokiohbeeaaGreatDoorG18
import Derived.Test.YtilhaokiohbeeaaGreatDoorCloGrp
import Derived.ProofKit
import Derived.OpenShut
import Derived.ShutString
import Derived.ChangeOld
import Derived.LaidMore
import Derived.SevenTiedAt
import Derived.Stop.Joined
-- UNF Gen
namespace Go.Proofs.YtilhaokiohbeeaaGreatDoor
open Go.ChangeShapes Go.WideShapes Go.ChangeAt Go.RowKit
theorem rep_partsC {X Y : RepX} (h : Y.rep = X.rep) (hs : SmallRep X) : SmB Y.bs ∧ Y.hi.p.sv.length ≤ 1048576 ∧ Y.hi.p.tg.length ≤ 1048576 ∧ Y.dn.length ≤ 1048576 := by
  have hp : Y.hi.p = X.hi.p := congrArg Rep.hi h
  have hb : Y.bs.map (·.b) = X.bs.map (·.b) := congrArg Rep.bs h
  have hd : Y.dn = X.dn := congrArg Rep.dn h
  have hsum := hs.sum
  refine ⟨fun M hM => ?_, by rw [hp]; omega, by rw [hp]; omega, by rw [hd]; omega⟩
  have hm : M.b ∈ X.bs.map (·.b) := by rw [← hb]; exact List.mem_map.2 ⟨M, hM, rfl⟩
  obtain ⟨t, ht, e⟩ := List.mem_map.1 hm
  have e : t.b = M.b := e
  rw [← e]
  exact hs.bs t ht
/-- The copies are what the program's copies ask. -/
theorem cl_good {w : World} {B : Nat} {X Y : ClX} (hY : Y.pl = X.pl) (h1 : OwnL2Rs w B Y.vr Y.rs) (h2 : OwnL2Ms w B Y.vm Y.ms) (hs : SmallCl X) (hf : FitCl X) : (∀ t ∈ Y.rs, GoodRep t) ∧ ∀ t ∈ Y.ms, GoodMg t := by
  have e1 : Y.rs.map RepX.rep = X.rs.map RepX.rep := (Prod.mk.inj hY).1
  have e2 : Y.ms.map MsX.m = X.ms.map MsX.m := (Prod.mk.inj hY).2
  constructor
  · intro t ht
    obtain ⟨x, hx, e⟩ := List.mem_map.1 (by rw [← e1]; exact List.mem_map.2 ⟨t, ht, rfl⟩ : t.rep ∈ X.rs.map RepX.rep)
    have hp := rep_partsC (X := x) (Y := t) e.symm (hs.sr x hx)
    exact ⟨by rw [← e]; exact hf.rs x hx, hp.1, fun M hM => own_nil ((h1.ins t ht).ib M hM).mo, hp.2⟩
  · intro t ht
    obtain ⟨x, hx, e⟩ := List.mem_map.1 (by rw [← e2]; exact List.mem_map.2 ⟨t, ht, rfl⟩ : t.m ∈ X.ms.map MsX.m)
    have eb : t.bl.b = x.bl.b := (congrArg Msg.b e).symm
    have ep : t.pf.p = x.pf.p := (congrArg Msg.p e).symm
    have et : t.to' = x.to' := (congrArg Msg.to' e).symm
    have hsx := hs.sm x hx
    exact ⟨own_nil (h2.ins t ht).bl.mo, ⟨by rw [eb]; exact hsx.bl, by rw [ep]; exact hsx.pf, by rw [eb]; exact hsx.tx⟩, by rw [et]; exact (hf.ms x hx).to'⟩
theorem clB_same {w : World} {X Y : ClX} {r : Bool} {e : Ending} {w' : World} (hY : Y.pl = X.pl) (hr : r = true ↔ ClOk X) (h : ClB w Y e w') : e = .returned (.bool r) ∧ Below w.heap.size w w' := by
  obtain ⟨b, rfl, hb, hbl⟩ := h
  have : b = r := Bool.eq_iff_iff.2 (hb.trans ((clOk_same hY).trans hr.symm))
  exact ⟨by rw [this], hbl⟩
set_option maxHeartbeats 4000000 in
set_option maxRecDepth 100000 in
theorem lawClusterOk (X : ClX) (w : World) (hr : RdCl w X) (hf : FitCl X) (ht : Tab w) :
    Calls Tryz.prog 8 #[.agg #[X.vr, X.vm]] w fun e w' => e = .returned (.bool true) ∧ Below w.heap.size w w' := by
  obtain ⟨r, hrr⟩ : ∃ r : Bool, r = true ↔ ClOk X := by
    by_cases h : ClOk X
    · exact ⟨true, fun _ => h, fun _ => rfl⟩
    · exact ⟨false, fun e => (by cases e), fun e => absurd e h⟩
  have hne : (r != r) = false := by simp
  have HT1 : Hid (∀ t ∈ X.rs, TxtRep t) := fun t h b hb s hs => ((hf.rs t h).bs b.b (List.mem_map.2 ⟨b, hb, rfl⟩)).mo s hs
  have HT2 : Hid (∀ t ∈ X.ms, TxtMs t) := fun t h s hs => (hf.ms t h).bl.mo s hs
  have HSZ : Hid (∀ W, Below w.heap.size w W → Calls Tryz.prog 58 #[.agg #[X.vr, X.vm], .int .i64 1048576] W fun e w' => SzCl W X e w') := fun W h => szCluster_any X 1048576 W (hr.below h) HT1.out HT2.out (by omega) (by omega)
  have HTO : Hid (SmallCl X → ∀ W, Below w.heap.size w W → Calls Tryz.prog 59 #[.agg #[X.vr, X.vm]] W fun e w' => ToCl W X.pl e w') := fun hs W h => toCluster_any X W (hr.below h) hs
  have HSP : Hid (SmallCl X → ∀ (Y : ClX) (B : Nat) W, Y.pl = X.pl → OwnL2Rs W B Y.vr Y.rs → OwnL2Ms W B Y.vm Y.ms → Calls Tryz.prog 39 #[.agg #[Y.vr, Y.vm]] W fun e w' => e = .returned (.bool r) ∧ Below W.heap.size W w') := fun hs Y B W hp h1 h2 => by
    have hg := cl_good hp h1 h2 hs hf
    exact (specClusterOk_any Y W ⟨h1.row.rd, h1.ins.rd, h2.row.rd, h2.ins.rd⟩ (fun t ht => ⟨(hg.1 t ht).fit, (hg.1 t ht).sm⟩) (fun t ht => (hg.2 t ht).to')).mono fun e w' h => clB_same hp hrr h
  have HIM : Hid (SmallCl X → ∀ (Y : ClX) (B : Nat) W, Y.pl = X.pl → OwnL2Rs W B Y.vr Y.rs → OwnL2Ms W B Y.vm Y.ms → Tab W → Calls Tryz.prog 38 #[.agg #[Y.vr, Y.vm]] W fun e w' => e = .returned (.bool r) ∧ Below W.heap.size W w') := fun hs Y B W hp h1 h2 ht => by
    have hg := cl_good hp h1 h2 hs hf
    exact (implClusterOk_any Y W ⟨h1.row.rd, h1.ins.rd, h2.row.rd, h2.ins.rd⟩ hg.1 hg.2 ht).mono fun e w' h => clB_same hp hrr h
  obtain ⟨ar, kr, hvr, -⟩ := id hr.rr
  obtain ⟨am, km, hvm, -⟩ := id hr.rm
  generalize X.rs.length = nr at hvr
  generalize X.ms.length = nm at hvm
  clear hrr HT1 HT2 hf hr
  rw [hvr, hvm] at HSZ HTO ⊢
  clear hvr hvm
  have b0 := below1 w (.cells #[.slice ar nr kr, .slice am nm km] 106)
  have t0 := bx_new w 106 #[.slice ar nr kr, .slice am nm km]
  obtain ⟨q0, q1⟩ := t0.d2
  go_enter Tryz.func8, Tryz.ntmps8
  go_wp2_with fail
  refine (HSZ.out _ b0).mono ?_
  rintro e w1 ⟨hb1, z, rfl, hz⟩
  have t1 := t0.below hb1
  have b1 := b0.trans (hb1.mono b0.size)
  clear t0 b0 hb1 q0 q1 HSZ
  rcases hz with hz | ⟨hz0, hS⟩
  · subst hz
    go_wp2
    go_ret
    exact ⟨rfl, b1⟩
  have HTO2 := HTO.out hS
  have HTO3 : Hid (∀ W, Below w.heap.size w W → Calls Tryz.prog 59 #[.agg #[.slice ar nr kr, .slice am nm km]] W fun e w' => ToCl W X.pl e w') := HTO2
  have HSP2 : Hid (∀ (Y : ClX) (B : Nat) W, Y.pl = X.pl → OwnL2Rs W B Y.vr Y.rs → OwnL2Ms W B Y.vm Y.ms → Calls Tryz.prog 39 #[.agg #[Y.vr, Y.vm]] W fun e w' => e = .returned (.bool r) ∧ Below W.heap.size W w') := HSP.out hS
  have HIM2 : Hid (∀ (Y : ClX) (B : Nat) W, Y.pl = X.pl → OwnL2Rs W B Y.vr Y.rs → OwnL2Ms W B Y.vm Y.ms → Tab W → Calls Tryz.prog 38 #[.agg #[Y.vr, Y.vm]] W fun e w' => e = .returned (.bool r) ∧ Below W.heap.size W w') := HIM.out hS
  clear HTO HTO2 HSP HIM hS
  obtain ⟨q0, q1⟩ := t1.d2
  go_wp2_with fail
  refine (HTO3.out _ b1).mono ?_
  rintro e w2 ⟨⟨v1, rs1, u1, ms1⟩, rfl, hY1, oR1, oM1, hb2⟩
  have t2 := t1.below hb2
  have b2 := b1.trans (hb2.mono b1.size)
  clear t1 b1 hb2 q0 q1
  obtain ⟨a1, n1, c1, e1⟩ : ∃ a n c, v1 = .slice a n c := by
    obtain ⟨a, c, h⟩ := ownSlX oR1.row
    exact ⟨a, _, c, h⟩
  obtain ⟨a2, n2, c2, e2⟩ : ∃ a n c, u1 = .slice a n c := by
    obtain ⟨a, c, h⟩ := ownSlX oM1.row
    exact ⟨a, _, c, h⟩
  try simp only at e1 e2
  subst e1 e2
  have HCS : Hid (Calls Tryz.prog 39 #[.agg #[.slice a1 n1 c1, .slice a2 n2 c2]] w2 fun e w' => e = .returned (.bool r) ∧ Below w2.heap.size w2 w') := HSP2.out ⟨.slice a1 n1 c1, rs1, .slice a2 n2 c2, ms1⟩ _ _ hY1 oR1 oM1
  clear hY1 oR1 oM1 HSP2
  go_wp2_with fail
  refine HCS.out.mono ?_
  rintro e w3 ⟨rfl, hb3⟩
  have t3 := t2.below hb3
  have b3 := b2.trans (hb3.mono b2.size)
  clear t2 b2 hb3 HCS
  obtain ⟨q0, q1⟩ := t3.d2
  go_wp2_with fail
  refine (HTO3.out _ b3).mono ?_
  rintro e w4 ⟨⟨v2, rs2, u2, ms2⟩, rfl, hY2, oR2, oM2, hb4⟩
  have t4 := t3.below hb4
  have b4 := b3.trans (hb4.mono b3.size)
  clear t3 b3 hb4 q0 q1
  obtain ⟨a3, n3, c3, e1⟩ : ∃ a n c, v2 = .slice a n c := by
    obtain ⟨a, c, h⟩ := ownSlX oR2.row
    exact ⟨a, _, c, h⟩
  obtain ⟨a4, n4, c4, e2⟩ : ∃ a n c, u2 = .slice a n c := by
    obtain ⟨a, c, h⟩ := ownSlX oM2.row
    exact ⟨a, _, c, h⟩
  try simp only at e1 e2
  subst e1 e2
  have bA := below1 w4 (.cells #[.slice a3 n3 c3, .slice a4 n4 c4] 65)
  have x5 := bx_new w4 65 #[.slice a3 n3 c3, .slice a4 n4 c4]
  have t5 := t4.below bA
  have b5 := b4.trans (bA.mono b4.size)
  have oR5 := oR2.below bA
  have oM5 : OwnL2Ms _ _ _ _ := OwnL2Ms.below oM2 bA
  have HY2 : Hid (ClX.pl ⟨.slice a3 n3 c3, rs2, .slice a4 n4 c4, ms2⟩ = X.pl) := hY2
  have HCI : Hid (Calls Tryz.prog 38 #[.agg #[.slice a3 n3 c3, .slice a4 n4 c4]] (w4.alloc (.cells #[.slice a3 n3 c3, .slice a4 n4 c4] 65)) fun e w' => e = .returned (.bool r) ∧ Below (w4.alloc (.cells #[.slice a3 n3 c3, .slice a4 n4 c4] 65)).heap.size (w4.alloc (.cells #[.slice a3 n3 c3, .slice a4 n4 c4] 65)) w') := HIM2.out ⟨.slice a3 n3 c3, rs2, .slice a4 n4 c4, ms2⟩ _ _ HY2.out oR5 oM5 (ht.on b5)
  have O5 : Hid (OwnL2Rs (w4.alloc (.cells #[.slice a3 n3 c3, .slice a4 n4 c4] 65)) _ _ _ ∧ OwnL2Ms (w4.alloc (.cells #[.slice a3 n3 c3, .slice a4 n4 c4] 65)) _ _ _) := ⟨oR5, oM5⟩
  obtain ⟨y0, y1⟩ := x5.d2
  clear t4 b4 oR2 oM2 hY2 bA oR5 oM5 HIM2
  go_wp2_with fail
  generalize w4.alloc (.cells #[.slice a3 n3 c3, .slice a4 n4 c4] 65) = W5 at x5 t5 b5 HCI O5 y0 y1 ⊢
  generalize w4.heap.size = p5 at x5 y0 y1 ⊢
  refine HCI.out.mono ?_
  rintro e w7 ⟨rfl, hb7⟩
  have t7 := t5.below hb7
  have x7 := x5.below hb7
  have b7 := b5.trans (hb7.mono b5.size)
  have O7 : Hid (OwnL2Rs w7 _ _ _ ∧ OwnL2Ms w7 _ _ _) := ⟨OwnL2Rs.below O5.out.1 hb7, OwnL2Ms.below O5.out.2 hb7⟩
  clear t5 x5 b5 O5 hb7 HCI y0 y1
  go_wp2_with fail
  refine wp_region_noPanic ?_
  refine wp_region_held_drew (S := fun w' => (w'.cell? ⟨w.heap.size, 0, none⟩ = some (.slice ar nr kr) ∧ w'.cell? ⟨w.heap.size, 1, none⟩ = some (.slice am nm km)) ∧ (w'.cell? ⟨p5, 0, none⟩ = some (.slice a3 n3 c3) ∧ w'.cell? ⟨p5, 1, none⟩ = some (.slice a4 n4 c4))) (by kernel_rfl) ⟨t7.d2, x7.d2⟩ (fun h0 => ?_)
  refine tkG 0 22 h0 ?_
  try simp only [Act.put, List.setIfInBounds_toArray, List.set_cons_zero, List.set_cons_succ]
  refine tkG 1 23 h0 ?_
  try simp only [Act.put, List.setIfInBounds_toArray, List.set_cons_zero, List.set_cons_succ]
  refine wpAnyH_ready (rs := [2]) (by kernel_rfl) (by simp) ?_
  refine AllReadyH.cons rfl (fun K hK => ?_) AllReadyH.nil
  go_simp
  refine (HTO3.out _ b7.drew).mono ?_
  rintro e w8 ⟨⟨v3, rs3, u3, ms3⟩, rfl, hY3, oR3, oM3, hb8⟩
  obtain ⟨a5, n5, c5, e1⟩ : ∃ a n c, v3 = .slice a n c := by
    obtain ⟨a, c, h⟩ := ownSlX oR3.row
    exact ⟨a, _, c, h⟩
  obtain ⟨a6, n6, c6, e2⟩ : ∃ a n c, u3 = .slice a n c := by
    obtain ⟨a, c, h⟩ := ownSlX oM3.row
    exact ⟨a, _, c, h⟩
  try simp only at e1 e2
  subst e1 e2
  have t8 := (t7.below (Below.refl _ _).drew).below hb8
  have x8 := (x7.below (Below.refl _ _).drew).below hb8
  have b8 := b7.drew.trans (hb8.mono b7.drew.size)
  have HEQ : Hid (Calls Tryz.prog 60 #[.agg #[.slice a3 n3 c3, .slice a4 n4 c4], .agg #[.slice a5 n5 c5, .slice a6 n6 c6]] w8 fun e w' => e = .returned (.bool true) ∧ Below w8.heap.size w8 w') :=
    eqCluster_same ⟨.slice a3 n3 c3, rs2, .slice a4 n4 c4, ms2⟩ ⟨.slice a5 n5 c5, rs3, .slice a6 n6 c6, ms3⟩ w8 ⟨(OwnL2Rs.below (OwnL2Rs.below O7.out.1 (Below.refl _ _).drew) hb8).row.rd, (OwnL2Rs.below (OwnL2Rs.below O7.out.1 (Below.refl _ _).drew) hb8).ins.rd, (OwnL2Ms.below (OwnL2Ms.below O7.out.2 (Below.refl _ _).drew) hb8).row.rd, (OwnL2Ms.below (OwnL2Ms.below O7.out.2 (Below.refl _ _).drew) hb8).ins.rd⟩ ⟨oR3.row.rd, oR3.ins.rd, oM3.row.rd, oM3.ins.rd⟩ (HY2.out.trans hY3.symm)
  clear hY3 oR3 oM3
  refine hK.out _ _ (⟨t8.d2, x8.d2⟩) (fun h1 => ?_)
  clear hK K
  try dsimp only
  clear h0
  refine wpAnyH_ready (rs := [3]) (by kernel_rfl) (by simp) ?_
  refine AllReadyH.cons rfl (fun K hK => ?_) AllReadyH.nil
  go_simp
  refine HEQ.out.mono ?_
  rintro e w9 ⟨rfl, hb9⟩
  have b9 := b8.trans (hb9.mono b8.size)
  refine hK.out _ _ (⟨(t8.below hb9).d2, (x8.below hb9).d2⟩) (fun h2 => ?_)
  clear hK K
  try simp only [Act.put, List.setIfInBounds_toArray, List.set_cons_zero, List.set_cons_succ]
  clear h1
  refine tkG 4 26 h2 ?_
  try simp only [Act.put, List.setIfInBounds_toArray, List.set_cons_zero, List.set_cons_succ]
  refine wpAnyH_done (by kernel_rfl) ?_ _
  refine NoPanic.normal ?_
  go_wp2
  go_ret
  exact ⟨rfl, b9⟩
theorem own_fnExactClusterOk : ownKnob Tryz.prog.godebug = none := by kernel_rfl
theorem laidOut_fnExactClusterOk : laidOutB Tryz.prog = true := by kernel_rfl
theorem door_fnExactClusterOk (os : Os) (args : Array Value) : laidMetH Tryz.prog Rows.fnExactClusterOkRow.laid ((World.doorLaid Tryz.prog 400 os).forCall (fun _ _ => 0) ⟨#[], args, []⟩).memory :=
  laidMetH_of_parts3 (fuel := 8) (laidMet_of_run' 8 (by kernel_rfl) (by kernel_rfl)) (by kernel_rfl) (by kernel_rfl)
set_option maxRecDepth 100000 in
theorem lifted_fnExactClusterOk (os : Os) (started : os.Started) (H : Type) (enc : TypeId × Value → H) :
    ReturnsInHanded {} Tryz.checked os 8 .any (fun w args => (Rows.fnExactClusterOkSpec.pre enc Tryz.prog Tryz.f8 [] false w args ∧ laidMetH Tryz.prog Rows.fnExactClusterOkRow.laid w) ∧ sizedMet enc Tryz.prog Tryz.f8 (OpenSpec.ofChange Rows.fnExactClusterOkSpec) false w args)
      (Rows.fnExactClusterOkSpec.post enc Tryz.prog Tryz.f8 false true false false) := by
  refine returnsInHanded_of_change_and (C := Tryz.checked) (X := fun w _ => laidMetH Tryz.prog Rows.fnExactClusterOkRow.laid w) (fun _ _ _ hh h => h.of_heap hh) own_fnExactClusterOk started (by kernel_rfl) Tryz.func8
    (ChangeSpec.witness_shaped (enc := enc) (C := Tryz.checked) (os := os) (X := fun w _ => laidMetH Tryz.prog Rows.fnExactClusterOkRow.laid w) false (World.doorLaid Tryz.prog 400 os) #[.agg #[.slice none 0 0, .slice none 0 0]] 8 rfl (World.shaped_of_RefB (by kernel_rfl) (by kernel_rfl)) (by kernel_rfl) (by kernel_rfl) (by kernel_rfl) (door_fnExactClusterOk os _)) ?_
  intro W base args ds gs before hval0 hW _ _ hL _
  have hval : ∀ (j : Nat) t v, Tryz.f8.params[j]? = some t → args[j]? = some v → Value.okWide Tryz.prog W .any base t v := hval0
  have hW' := hW
  obtain ⟨p, q, hA0, hV, rfl, hfz, hnd⟩ := hW
  have hA : DataW.TrodAll enc Tryz.prog W 0 (fun _ => true) true Tryz.f8.params.toList args.toList ds p := hA0
  rw [Tryz.params8] at hA hval
  obtain ⟨v0, vs0, d0, ds0, p0, q0, hargs, rfl, rfl, h0, r0⟩ := trodAll_cons hA
  obtain ⟨rfl, rfl, rfl⟩ := trodAll_nil r0
  obtain rfl : args = #[v0] := by cases args; simp_all
  obtain ⟨rfl, rfl⟩ := trodVars_none hV
  obtain ⟨c0, rfl, _⟩ := okWide_struct Tryz.underlying106 (hval 0 106 v0 rfl rfl)
  have k0 := h0
  have lt0 : ∀ x ∈ p0, x.block < W.heap.size := by obtain ⟨m, hm⟩ := k0; exact DataW.trod_lt m _ _ _ hm
  obtain ⟨X0, hc0, hr0, hh0⟩ : ∃ X : ClX, (Value.agg c0).cells.toList = [X.vr, X.vm] ∧ RdCl W X ∧ FitCl X := by obtain ⟨m, hm⟩ := h0; exact open_cluster hm
  obtain rfl : c0 = #[X0.vr, X0.vm] := by have h := congrArg List.toArray hc0; simp only [Value.cells, Array.toArray_toList] at h; exact h
  have htab := tab_of_laid hL
  clear hA0 hval0
  refine (lawClusterOk X0 W hr0 hh0 htab).mono fun e W' ⟨he, bel⟩ => ?_
  subst he
  exact ⟨_, rfl, _, _, _, [], _, [], hW', trodAll_mk1 (shut_bool Tryz.underlying4 _), (trodAll_cons_mk (Below.trod laidOut_fnExactClusterOk (by kernel_rfl) (of_decide_eq_true (by kernel_rfl)) k0 bel lt0) trodAll_mk0), rfl, bel.frame _, fun h => by cases h⟩
theorem over_fnExactClusterOk : Rows.fnExactClusterOkRow.holds Tryz.pinned (OpenSpec.ofChange Rows.fnExactClusterOkSpec) :=
  OpenClaim.holds_of_wide 8 Tryz.f8 rfl rfl rfl rfl rfl rfl rfl ⟨rfl, rfl, rfl, rfl, rfl⟩ rfl rfl rfl rfl rfl (by kernel_rfl) Tryz.func8 (by kernel_rfl)
    (of_decide_eq_true (by kernel_rfl)) (by unfold Func.isWrapper; first | (rw [if_pos (by decide +kernel)]; kernel_rfl) | (rw [if_neg (by decide +kernel)]; exact ⟨rfl, rfl⟩))
    (fun os started H enc _ => lifted_fnExactClusterOk os started H enc)
theorem fnExactClusterOk_holds : Rows.FnExactClusterOkCardSaid :=
  Claim7.holds_tied_plain_at .later [] [.data, .data, .data] true Rows.fnExactClusterOkCard.stood.harness Rows.fnExactClusterOkCard.stood.looks
    over_fnExactClusterOk (fun _ h => by cases h) (by kernel_rfl) (fun _ h => by cases h) fnExactClusterOk_row_tie rfl ⟨rfl, rfl⟩ (by kernel_rfl) rfl
    (fun f fn hf hfn => by
      obtain rfl : f = 8 := Option.some.inj ((show Tryz.prog.funcNamed "loop.example/g00217/laws.FnExactClusterOk" = some 8 by kernel_rfl).symm.trans hf) |>.symm
      obtain rfl : fn = Tryz.f8 := (Option.some.inj (Tryz.func8.symm.trans hfn)).symm
      exact ⟨by kernel_rfl, fun j t ht => by
        rw [Tryz.params8] at ht
        have hm : t ∈ [106] := by simpa using Array.mem_of_getElem? ht
        have hall : ([106].all fun u => !Tryz.prog.wantsStandIn u) = true := by kernel_rfl
        exact (show Tryz.prog.wantsStandIn t = false by simpa using List.all_eq_true.1 hall t hm)⟩)
    (by kernel_rfl)
#print axioms fnExactClusterOk_holds

end Go.Proofs.YtilhaokiohbeeaaGreatDoor
