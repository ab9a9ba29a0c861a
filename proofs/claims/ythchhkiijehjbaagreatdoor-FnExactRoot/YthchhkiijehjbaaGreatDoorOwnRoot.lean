/- Whatever device it is called with, laws.FnExactRoot returns true and its argument reads as before: both Roots tell the same generation and text. Condition: the listed tables and errors of the Go library and the program's own errors hold what the text lays there (tied by the card). -/
-- UNF Gen
import Derived.Test.YthchhkiijehjbaaGreatDoorRows
import Derived.Test.YthchhkiijehjbaaGreatDoorCards
import Derived.Test.YthchhkiijehjbaaGreatDoorTie
import Derived.Test.YthchhkiijehjbaaGreatDoorDevOpen
import Derived.Test.YthchhkiijehjbaaGreatDoorSltRt
import Derived.Test.YthchhkiijehjbaaGreatDoorSltLaid
import Derived.ProofKit
import Derived.OpenShut
import Derived.ShutString
import Derived.ChangeOld
import Derived.LaidMore
import Derived.SevenTiedAt
import Derived.Stop.Joined
namespace Go.Proofs.YthchhkiijehjbaaGreatDoor
open Go.ChangeShapes Go.WideShapes Go.ChangeAt Go.RowKit
set_option maxHeartbeats 4000000 in
set_option maxRecDepth 100000 in
theorem lawRoot (X : DvX) (a b : Addr) (w : World) (hx : RdDv w X) (hh : HeldDv X) (he : SEnv2 w a b) :
    Calls Tryz.prog 3 #[.agg #[X.vs, X.vl]] w fun e w' => e = .returned (.bool true) ∧ Below w.heap.size w w' := by
  have t0 := dvAt_new w X 25
  have b0 := below1 w (.cells #[X.vs, X.vl] 25)
  have HSZ : Hid (Calls _ _ _ _ _) := szDevice_any X _ (hx.below b0) hh
  obtain ⟨d0, d1⟩ := id t0
  go_enter Tryz.func3, Tryz.ntmps3
  go_wp2_with fail
  refine HSZ.out.mono ?_
  rintro e w1 ⟨hb1, z, rfl, hz⟩
  have t1 := t0.below hb1
  have b1 := b0.trans (hb1.mono b0.size)
  clear HSZ t0 b0 hb1 d0 d1
  rcases hz with hz | ⟨hz0, hsm⟩
  · subst hz
    go_wp2
    go_ret
    exact ⟨rfl, b1⟩
  have HTO : Hid (∀ W, RdDv W X → Calls Tryz.prog 8 #[.agg #[X.vs, X.vl]] W fun e w' => ToDv W X.secs X.late e w') := fun W h => toDevice_any X W h hsm
  obtain ⟨r0, h0⟩ := rs_ex (liesL X.secs X.late 0)
  obtain ⟨r1, h1⟩ := rs_ex (liesL X.secs X.late 1)
  have HSP0 : ∀ (Y : DvX) W, RdDv W Y → Y.secs = X.secs → Y.late = X.late → Calls Tryz.prog 7 #[.agg #[Y.vs, Y.vl]] W fun e w' => e = .returned (.tuple #[.int .i64 (rootD X.secs X.late r0 r1).2.1, .string (rootD X.secs X.late r0 r1).2.2]) ∧ Below W.heap.size W w' := fun Y W h e1 e2 => by
    rw [← e1, ← e2] at h0 h1 ⊢
    obtain ⟨sa, la, cs, cl, eY⟩ := h.op
    rw [eY] at h h0 h1 ⊢
    exact specRoot_any sa la cs cl _ _ r0 r1 W h h0 h1
  have HIM0 : ∀ (Y : DvX) W, RdDv W Y → SEnv2 W a b → Y.secs = X.secs → Y.late = X.late → Calls Tryz.prog 9 #[.agg #[Y.vs, Y.vl]] W fun e w' => e = .returned (.tuple #[.int .i64 (rootD X.secs X.late r0 r1).2.1, .string (rootD X.secs X.late r0 r1).2.2]) ∧ Below W.heap.size W w' := fun Y W h hs e1 e2 => by
    rw [← e1, ← e2] at h0 h1 ⊢
    obtain ⟨sa, la, cs, cl, eY⟩ := h.op
    rw [eY] at h h0 h1 ⊢
    exact implRoot_any sa la cs cl _ _ r0 r1 a b W h h0 h1 hs
  generalize (rootD X.secs X.late r0 r1).2.1 = og at HSP0 HIM0
  generalize (rootD X.secs X.late r0 r1).2.2 = ot at HSP0 HIM0
  have HSP : Hid (∀ (Y : DvX) W, RdDv W Y → Y.secs = X.secs → Y.late = X.late → Calls Tryz.prog 7 #[.agg #[Y.vs, Y.vl]] W fun e w' => e = .returned (.tuple #[.int .i64 og, .string ot]) ∧ Below W.heap.size W w') := HSP0
  have HIM : Hid (∀ (Y : DvX) W, RdDv W Y → SEnv2 W a b → Y.secs = X.secs → Y.late = X.late → Calls Tryz.prog 9 #[.agg #[Y.vs, Y.vl]] W fun e w' => e = .returned (.tuple #[.int .i64 og, .string ot]) ∧ Below W.heap.size W w') := HIM0
  have hog : (og != og) = false := by simp
  obtain ⟨d0, d1⟩ := id t1
  clear hsm hh h0 h1 HSP0 HIM0
  go_wp2_with fail
  refine (HTO.out _ (hx.below b1)).mono ?_
  rintro e w2 ⟨Y2, rfl, hs2, hl2, ho2, hb2⟩
  have t2 := t1.below hb2
  have b2 := b1.trans (hb2.mono b1.size)
  clear t1 hb2 d0 d1 b1
  go_wp2_with fail
  refine (HSP.out Y2 _ ho2.rd hs2 hl2).mono ?_
  rintro e w3 ⟨rfl, hb3⟩
  have t3 := t2.below hb3
  have b3 := b2.trans (hb3.mono b2.size)
  clear t2 hb3 ho2 hs2 hl2 b2
  obtain ⟨d0, d1⟩ := id t3
  go_wp2_with fail
  refine (HTO.out _ (hx.below b3)).mono ?_
  rintro e w4 ⟨Y4, rfl, hs4, hl4, ho4, hb4⟩
  have t4 := t3.below hb4
  have b4 := b3.trans (hb4.mono b3.size)
  obtain ⟨as4, cs4, v0⟩ := own_slice ho4.secs
  obtain ⟨al4, cl4, v1⟩ := own_slice ho4.late
  obtain ⟨vs4, vl4, secs4, late4⟩ := Y4
  simp only at v0 v1 hs4 hl4
  generalize secs4.length = sn at v0
  generalize late4.length = ln at v1
  subst v0
  subst v1
  clear t3 hb4 d0 d1 b3
  have x5 := dvAt_new w4 ⟨.slice as4 sn cs4, .slice al4 ln cl4, secs4, late4⟩ 31
  have bb5 := below1 w4 (.cells #[.slice as4 sn cs4, .slice al4 ln cl4] 31)
  simp only at x5
  have t5 := t4.below bb5
  have b5 := b4.trans (bb5.mono b4.size)
  have ho5 := ho4.below bb5
  obtain ⟨p0, p1⟩ := id x5
  simp only at p0 p1
  clear t4 b4 ho4 bb5
  go_wp2_with fail
  generalize w4.alloc (.cells #[.slice as4 sn cs4, .slice al4 ln cl4] 31) = W5 at x5 t5 b5 ho5 p0 p1 ⊢
  refine (HIM.out ⟨.slice as4 sn cs4, .slice al4 ln cl4, secs4, late4⟩ _ ho5.rd (he.on b5) hs4 hl4).mono ?_
  rintro e w6 ⟨rfl, hb6⟩
  have x6 := x5.below hb6
  have t6 := t5.below hb6
  have b6 := b5.trans (hb6.mono b5.size)
  have ho6 := ho5.below hb6
  clear x5 t5 b5 ho5 p0 p1
  go_wp2_with fail
  refine wp_region_noPanic ?_
  refine wp_region_held_drew (S := fun w' => (w'.cell? ⟨w4.heap.size, 0, none⟩ = some (.slice as4 sn cs4) ∧ w'.cell? ⟨w4.heap.size, 1, none⟩ = some (.slice al4 ln cl4)) ∧ w'.cell? ⟨w.heap.size, 0, none⟩ = some X.vs ∧ w'.cell? ⟨w.heap.size, 1, none⟩ = some X.vl) (by kernel_rfl) ⟨x6, t6⟩ (fun hH => ?_)
  have qb := b6.drew
  have qo := ho6.below ((Below.refl _ w6).drew)
  clear x6 t6 b6 ho6
  revert qo
  revert qb
  revert hH
  generalize w6.drew = W7
  intro hH qb qo
  refine tkG 0 35 hH ?_
  try simp only [Act.put, List.setIfInBounds_toArray, List.set_cons_zero, List.set_cons_succ]
  refine tkG 1 36 hH ?_
  try simp only [Act.put, List.setIfInBounds_toArray, List.set_cons_zero, List.set_cons_succ]
  refine wpAnyH_ready (rs := [2]) (by kernel_rfl) (by simp) ?_
  refine AllReadyH.cons rfl (fun K hK => ?_) AllReadyH.nil
  go_simp
  refine (HTO.out _ (hx.below qb)).mono ?_
  rintro e w8 ⟨Y8, rfl, hs8, hl8, ho8, hb8⟩
  have hx8 : DvAt w8 w4.heap.size ⟨.slice as4 sn cs4, .slice al4 ln cl4, secs4, late4⟩ := DvAt.below (w := W7) hH.1 hb8
  have ht8 : DvAt w8 w.heap.size X := DvAt.below (w := W7) hH.2 hb8
  replace qb := qb.trans (hb8.mono qb.size)
  replace qo := qo.below hb8
  refine hK.out _ _ ⟨hx8, ht8⟩ (fun h8 => ?_)
  clear hK K hH hb8
  try simp only [Act.put, List.setIfInBounds_toArray, List.set_cons_zero, List.set_cons_succ]
  refine wpAnyH_ready (rs := [3]) (by kernel_rfl) (by simp) ?_
  refine AllReadyH.cons rfl (fun K hK => ?_) AllReadyH.nil
  go_simp
  refine (eqDevice_same ⟨.slice as4 sn cs4, .slice al4 ln cl4, secs4, late4⟩ Y8 _ qo.rd ho8.rd (hs4.trans hs8.symm) (hl4.trans hl8.symm)).mono ?_
  rintro e w9 ⟨rfl, hb9⟩
  have qb9 := qb.trans (hb9.mono qb.size)
  refine hK.out _ _ ⟨hx8.below hb9, ht8.below hb9⟩ (fun h9 => ?_)
  clear hK K h8 hx8 ht8
  try simp only [Act.put, List.setIfInBounds_toArray, List.set_cons_zero, List.set_cons_succ]
  refine tkG 4 39 h9 ?_
  try simp only [Act.put, List.setIfInBounds_toArray, List.set_cons_zero, List.set_cons_succ]
  refine wpAnyH_done (by kernel_rfl) ?_ _
  refine NoPanic.normal ?_
  go_wp2
  go_ret
  exact ⟨rfl, qb9⟩
theorem own_fnExactRoot : ownKnob Tryz.prog.godebug = none := by kernel_rfl
theorem laidOut_fnExactRoot : laidOutB Tryz.prog = true := by kernel_rfl
theorem door_fnExactRoot (os : Os) (args : Array Value) : laidMetH Tryz.prog Rows.fnExactRootRow.laid ((World.doorLaid Tryz.prog 400 os).forCall (fun _ _ => 0) ⟨#[], args, []⟩).memory :=
  laidMetH_of_parts3 (fuel := 8) (laidMet_of_run' 8 (by kernel_rfl) (by kernel_rfl)) (by kernel_rfl) (by kernel_rfl)
set_option maxRecDepth 100000 in
theorem lifted_fnExactRoot (os : Os) (started : os.Started) (H : Type) (enc : TypeId × Value → H) :
    ReturnsInHanded {} Tryz.checked os 3 .any (fun w args => (Rows.fnExactRootSpec.pre enc Tryz.prog Tryz.f3 [] false w args ∧ laidMetH Tryz.prog Rows.fnExactRootRow.laid w) ∧ sizedMet enc Tryz.prog Tryz.f3 (OpenSpec.ofChange Rows.fnExactRootSpec) false w args)
      (Rows.fnExactRootSpec.post enc Tryz.prog Tryz.f3 false true false false) := by
  refine returnsInHanded_of_change_and (C := Tryz.checked) (X := fun w _ => laidMetH Tryz.prog Rows.fnExactRootRow.laid w) (fun _ _ _ hh h => h.of_heap hh) own_fnExactRoot started (by kernel_rfl) Tryz.func3
    (ChangeSpec.witness_shaped (enc := enc) (C := Tryz.checked) (os := os) (X := fun w _ => laidMetH Tryz.prog Rows.fnExactRootRow.laid w) false (World.doorLaid Tryz.prog 400 os) #[.agg #[.slice none 0 0, .slice none 0 0]] 8 rfl (World.shaped_of_RefB (by kernel_rfl) (by kernel_rfl)) (by kernel_rfl) (by kernel_rfl) (by kernel_rfl) (door_fnExactRoot os _)) ?_
  intro W base args ds gs before hval0 hW _ _ hL _
  have hval : ∀ (j : Nat) t v, Tryz.f3.params[j]? = some t → args[j]? = some v → Value.okWide Tryz.prog W .any base t v := hval0
  have hW' := hW
  obtain ⟨p, q, hA0, hV, rfl, hfz, hnd⟩ := hW
  have hA : DataW.TrodAll enc Tryz.prog W 0 (fun _ => true) true Tryz.f3.params.toList args.toList ds p := hA0
  rw [Tryz.params3] at hA hval
  obtain ⟨v0, vs0, d0, ds0, p0, q0, hargs, rfl, rfl, h0, r0⟩ := trodAll_cons hA
  obtain ⟨rfl, rfl, rfl⟩ := trodAll_nil r0
  obtain rfl : args = #[v0] := by cases args; simp_all
  have hV1 : DataW.TrodVars enc Tryz.prog W (fun _ => true) ["loop.example/g00217/impl.errNoSector", "loop.example/g00217/impl.errNoSlot"] gs q := hV
  obtain ⟨ea, eb, henv, hvb, hva⟩ := env_fnExactRoot hL
  have vr : ∀ {X : World}, X.var? Tryz.prog "loop.example/g00217/impl.errNoSector" = some #[.iface 169 (.pointer (some eb))] → X.var? Tryz.prog "loop.example/g00217/impl.errNoSlot" = some #[.iface 169 (.pointer (some ea))] → ∀ sp : Nat → Bool,
      DataW.TrodVars enc Tryz.prog X sp ["loop.example/g00217/impl.errNoSector", "loop.example/g00217/impl.errNoSlot"] [tok enc (.iface 169 (.pointer (some eb))), tok enc (.iface 169 (.pointer (some ea)))] [.cell 0 0, .cell 1 0] :=
    fun x0 x1 sp => vars_read2 enc gSec tSec Tryz.underlying50 x0 trivial gSlot tSlot Tryz.underlying50 x1 trivial sp
  obtain ⟨rfl, rfl⟩ := hV1.unique (vr hvb hva _)
  obtain ⟨c0, rfl, _⟩ := okWide_struct Tryz.underlying25 (hval 0 25 v0 rfl rfl)
  have k0 := h0
  have lt0 : ∀ x ∈ p0, x.block < W.heap.size := by obtain ⟨m, hm⟩ := k0; exact DataW.trod_lt m _ _ _ hm
  obtain ⟨X0, hc0, hx0, hh0⟩ : ∃ X : DvX, (Value.agg c0).cells.toList = [X.vs, X.vl] ∧ RdDv W X ∧ HeldDv X := by obtain ⟨m, hm⟩ := h0; exact open_device hm
  obtain rfl : c0 = #[X0.vs, X0.vl] := by have h := congrArg List.toArray hc0; simp only [Value.cells, Array.toArray_toList] at h; exact h
  clear hA0 hval0
  refine (lawRoot X0 ea eb W hx0 hh0 henv).mono fun e W' ⟨he, bel⟩ => ?_
  subst he
  exact ⟨_, rfl, _, _, _, [], _, [.cell 0 0, .cell 1 0], hW', trodAll_mk1 (shut_bool Tryz.underlying4 _), (trodAll_cons_mk (Below.trod laidOut_fnExactRoot (by kernel_rfl) (of_decide_eq_true (by kernel_rfl)) k0 bel lt0) trodAll_mk0), vr (var_below hvb bel) (var_below hva bel) _, bel.frame _, fun h => by cases h⟩
theorem over_fnExactRoot : Rows.fnExactRootRow.holds Tryz.pinned (OpenSpec.ofChange Rows.fnExactRootSpec) :=
  OpenClaim.holds_of_wide 3 Tryz.f3 rfl rfl rfl rfl rfl rfl rfl ⟨rfl, rfl, rfl, rfl, rfl⟩ rfl rfl rfl rfl rfl (by kernel_rfl) Tryz.func3 (by kernel_rfl)
    (of_decide_eq_true (by kernel_rfl)) (by unfold Func.isWrapper; first | (rw [if_pos (by decide +kernel)]; kernel_rfl) | (rw [if_neg (by decide +kernel)]; exact ⟨rfl, rfl⟩))
    (fun os started H enc _ => lifted_fnExactRoot os started H enc)
theorem fnExactRoot_holds : Rows.FnExactRootCardSaid :=
  Claim7.holds_tied_plain_at .later [] [.data, .data, .data, .sentinel, .sentinel, .sentinel, .sentinel] true Rows.fnExactRootCard.stood.harness Rows.fnExactRootCard.stood.looks
    over_fnExactRoot (fun _ h => by cases h) (by kernel_rfl) (fun _ h => by cases h) fnExactRoot_row_tie rfl ⟨rfl, rfl⟩ (by kernel_rfl) rfl
    (fun f fn hf hfn => by
      obtain rfl : f = 3 := Option.some.inj ((show Tryz.prog.funcNamed "loop.example/g00217/laws.FnExactRoot" = some 3 by kernel_rfl).symm.trans hf) |>.symm
      obtain rfl : fn = Tryz.f3 := (Option.some.inj (Tryz.func3.symm.trans hfn)).symm
      exact ⟨by kernel_rfl, fun j t ht => by
        rw [Tryz.params3] at ht
        have hm : t ∈ [25] := by simpa using Array.mem_of_getElem? ht
        have hall : ([25].all fun u => !Tryz.prog.wantsStandIn u) = true := by kernel_rfl
        exact (show Tryz.prog.wantsStandIn t = false by simpa using List.all_eq_true.1 hall t hm)⟩)
    (by kernel_rfl)
#print axioms fnExactRoot_holds

end Go.Proofs.YthchhkiijehjbaaGreatDoor
