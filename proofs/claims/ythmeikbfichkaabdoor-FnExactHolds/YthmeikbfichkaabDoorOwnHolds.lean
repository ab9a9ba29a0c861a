/- Whatever numbers and way it is called with, laws.FnExactHolds returns true and its arguments read as before: both Holds tell the same, and what they are handed stays. Condition: the three listed tables of the Go library hold what its text lays there (tied by the card). -/
import Derived.Test.YthmeikbfichkaabDoorRows
import Derived.Test.YthmeikbfichkaabDoorCards
import Derived.Test.YthmeikbfichkaabDoorTie
import Derived.Test.YthmeikbfichkaabDoorTriHld2
import Derived.Test.YthmeikbfichkaabDoorNumZ
import Derived.Test.YthmeikbfichkaabDoorLaid
import Derived.ProofKit
import Derived.OpenShut
import Derived.ShutString
import Derived.ChangeOld
import Derived.LaidMore
import Derived.SevenTiedAt
import Derived.Stop.Joined
namespace Go.Proofs.YthmeikbfichkaabDoor
open Go.ChangeShapes Go.WideShapes Go.ChangeAt Go.RowKit
theorem open_intsB {H : Type} {enc : TypeId × Value → H} {w : World} {v : Value} {d : DataW H} {p : List MemPlace} (h : DataW.Trod enc Tryd.prog w 0 (fun _ => true) true 24 v d p) (hs : ∃ a n c, v = .slice a n c) : ∃ ns, RdI w v ns ∧ ∀ j, I64 (ns.getD j 0) := by
  obtain ⟨a0, len0, cap0, rfl⟩ := hs
  obtain ⟨fuel, hf⟩ := h
  rcases open_ints Tryd.underlying24 Tryd.underlying2 (by kernel_rfl) hf with ⟨hcs, _⟩ | ⟨x, l, c, zs, hcs, _, hl, hm, hz, _, hcell, hwz⟩
  · simp [Value.cells] at hcs
    obtain ⟨rfl, rfl, rfl⟩ := hcs
    exact ⟨[], rdI_nil w, fun j => by simp; exact ⟨by omega, by omega⟩⟩
  · simp [Value.cells] at hcs
    obtain ⟨rfl, rfl, rfl⟩ := hcs
    have hzl : zs.length = cap0 := by simpa using hz
    have htl : (zs.take len0).length = len0 := by rw [List.length_take]; omega
    refine ⟨zs.take len0, ⟨some x, cap0, by rw [htl], by rw [htl]; exact hl, hm, (fun e => by cases e), ?_⟩, fun j => ?_⟩
    · by_cases h0 : len0 = 0
      · left; subst h0; simp
      · right
        obtain ⟨b, off, spot⟩ := x
        have hc := hcell 0 (by omega)
        have hspot : spot = none := by simpa [Addr.add] using World.cell?_spot hc
        subst hspot
        refine ⟨b, off, rfl, fun i hi => ?_⟩
        have hi' : i < len0 := by rw [htl] at hi; exact hi
        have h := hcell i (by omega)
        have hg : zs.getD i 0 = zs[i]'(by omega) := by simp [List.getD, List.getElem?_eq_getElem (show i < zs.length by omega)]
        rw [Addr.add_lit] at h
        rw [h, hg, List.getElem_take]
    · by_cases hj : j < (zs.take len0).length
      · have hb := bounds_i64 (hwz _ (List.mem_of_mem_take (List.getElem_mem hj)))
        rw [← getD_at hj]
        exact hb
      · have e : (zs.take len0).getD j 0 = 0 := by simp [List.getD, List.getElem?_eq_none (show (zs.take len0).length ≤ j by omega)]
        rw [e]; exact ⟨by omega, by omega⟩
set_option maxHeartbeats 2000000 in
set_option maxRecDepth 100000 in
theorem lawHolds (q : Int) (_ : (Lit.int .i64 q).wf = true) (p : Int) (_ : (Lit.int .i64 p).wf = true) (v : Int) (_ : (Lit.int .i64 v).wf = true) (vw : Value) (ws : List Int) (w : World) (hr : RdI w vw ws) (hi : ∀ j, I64 (ws.getD j 0)) (ht : Tab w) :
    Calls Tryd.prog 4 #[.int .i64 q, .int .i64 p, .int .i64 v, vw] w fun e w' => e = .returned (.bool true) ∧ Below w.heap.size w w' := by
  have HS : Hid (∀ u w', RdI w' u ws → Calls Tryd.prog 15 #[.int .i64 q, .int .i64 p, .int .i64 v, u] w' fun e w'' => e = .returned (.bool (hldR q p v ws)) ∧ Below w'.heap.size w' w'') := fun u w' h => specHolds_any q p v u ws w' h hi
  have HI : Hid (∀ u w', RdI w' u ws → Tab w' → Calls Tryd.prog 17 #[.int .i64 q, .int .i64 p, .int .i64 v, u] w' fun e w'' => e = .returned (.bool (hldR q p v ws)) ∧ Below w'.heap.size w' w'') := fun u w' h t => implHolds_any q p v u ws w' h hi t
  generalize hldR q p v ws = R at HS HI
  have hne : (R != R) = false := by simp
  obtain ⟨a, c, hvw, hc1, hc2, -⟩ := id hr
  unfold maxLen at hc2
  obtain ⟨n, hn⟩ : ∃ n, n = ws.length := ⟨_, rfl⟩
  rw [← hn] at hvw hc1
  have HR : Hid (RdI w vw ws) := hr
  have HN : Hid (n = ws.length) := hn
  subst hvw
  clear hr hi hn
  by_cases hbig : 1048576 < n
  · go_enter Tryd.func4, Tryd.ntmps4
    go_wp2
    go_ret
    exact ⟨rfl, Below.refl _ _⟩
  have HL : Hid (ws.length ≤ 1073741824) := by unfold Hid; have := HN.out; omega
  go_enter Tryd.func4, Tryd.ntmps4
  go_wp2_with fail
  refine (toInts_any _ ws _ HR.out HL.out).mono ?_
  rintro e w2 ⟨u2, rfl, ho2, b2⟩
  go_wp2_with fail
  refine (HS.out _ _ ho2.rd).mono ?_
  rintro e w3 ⟨rfl, hb3⟩
  have b3 := b2.trans (hb3.mono b2.size)
  clear hb3 b2 ho2
  go_wp2_with fail
  refine (toInts_any _ ws _ (HR.out.below b3) HL.out).mono ?_
  rintro e w4 ⟨u4, rfl, ho4, hb4⟩
  have b4 := b3.trans (hb4.mono b3.size)
  clear hb4 b3
  go_wp2_with fail
  refine (HI.out _ _ ho4.rd (ht.on b4)).mono ?_
  rintro e w5 ⟨rfl, hb5⟩
  have b5 := b4.trans (hb5.mono b4.size)
  have ho5 := ho4.below hb5
  clear hb5 b4 ho4
  go_wp2_with fail
  refine (toInts_any _ ws _ (HR.out.below b5) HL.out).mono ?_
  rintro e w6 ⟨u6, rfl, ho6, hb6⟩
  have b6 := b5.trans (hb6.mono b5.size)
  have ho7 := ho5.below hb6
  clear hb6 b5 ho5
  go_wp2_with fail
  refine (eqIntsZ _ _ ws _ ho7.rd ho6.rd).mono ?_
  rintro e w7 ⟨rfl, hb7⟩
  have b7 := b6.trans (hb7.mono b6.size)
  clear hb7 b6 ho6 ho7
  go_wp2
  go_ret
  exact ⟨rfl, b7⟩
theorem own_fnExactHolds : ownKnob Tryd.prog.godebug = none := by kernel_rfl
theorem laidOut_fnExactHolds : laidOutB Tryd.prog = true := by kernel_rfl
theorem door_fnExactHolds (os : Os) (args : Array Value) : laidMetH Tryd.prog Rows.fnExactHoldsRow.laid ((World.doorLaid Tryd.prog 400 os).forCall (fun _ _ => 0) ⟨#[], args, []⟩).memory :=
  laidMetH_of_parts3 (fuel := 8) (laidMet_of_run' 8 (by kernel_rfl) (by kernel_rfl)) (by kernel_rfl) (by kernel_rfl)
set_option maxRecDepth 100000 in
theorem lifted_fnExactHolds (os : Os) (started : os.Started) (H : Type) (enc : TypeId × Value → H) :
    ReturnsInHanded {} Tryd.checked os 4 .any (fun w args => (Rows.fnExactHoldsSpec.pre enc Tryd.prog Tryd.f4 [] false w args ∧ laidMetH Tryd.prog Rows.fnExactHoldsRow.laid w) ∧ sizedMet enc Tryd.prog Tryd.f4 (OpenSpec.ofChange Rows.fnExactHoldsSpec) false w args)
      (Rows.fnExactHoldsSpec.post enc Tryd.prog Tryd.f4 false true false false) := by
  refine returnsInHanded_of_change_and (C := Tryd.checked) (X := fun w _ => laidMetH Tryd.prog Rows.fnExactHoldsRow.laid w) (fun _ _ _ hh h => h.of_heap hh) own_fnExactHolds started (by kernel_rfl) Tryd.func4
    (ChangeSpec.witness_shaped (enc := enc) (C := Tryd.checked) (os := os) (X := fun w _ => laidMetH Tryd.prog Rows.fnExactHoldsRow.laid w) false (World.doorLaid Tryd.prog 400 os) #[.int .i64 0, .int .i64 0, .int .i64 0, .slice none 0 0] 8 rfl (World.shaped_of_RefB (by kernel_rfl) (by kernel_rfl)) (by kernel_rfl) (by kernel_rfl) (by kernel_rfl) (door_fnExactHolds os _)) ?_
  intro W base args ds gs before hval0 hW _ _ hL _
  have hval : ∀ (j : Nat) t v, Tryd.f4.params[j]? = some t → args[j]? = some v → Value.okWide Tryd.prog W .any base t v := hval0
  have hW' := hW
  obtain ⟨p, q, hA0, hV, rfl, hfz, hnd⟩ := hW
  have hA : DataW.TrodAll enc Tryd.prog W 0 (fun _ => true) true Tryd.f4.params.toList args.toList ds p := hA0
  rw [Tryd.params4] at hA hval
  obtain ⟨v0, vs0, d0, ds0, p0, q0, hargs, rfl, rfl, h0, r0⟩ := trodAll_cons hA
  obtain ⟨v1, vs1, d1, ds1, p1, q1, rfl, rfl, rfl, h1, r1⟩ := trodAll_cons r0
  obtain ⟨v2, vs2, d2, ds2, p2, q2, rfl, rfl, rfl, h2, r2⟩ := trodAll_cons r1
  obtain ⟨v3, vs3, d3, ds3, p3, q3, rfl, rfl, rfl, h3, r3⟩ := trodAll_cons r2
  obtain ⟨rfl, rfl, rfl⟩ := trodAll_nil r3
  obtain rfl : args = #[v0, v1, v2, v3] := by cases args; simp_all
  obtain ⟨rfl, rfl⟩ := trodVars_none hV
  obtain ⟨a0, rfl, rfl, rfl, w0⟩ := open_int Tryd.underlying2 (hval 0 2 v0 rfl rfl) h0
  obtain ⟨a1, rfl, rfl, rfl, w1⟩ := open_int Tryd.underlying2 (hval 1 2 v1 rfl rfl) h1
  obtain ⟨a2, rfl, rfl, rfl, w2⟩ := open_int Tryd.underlying2 (hval 2 2 v2 rfl rfl) h2
  obtain ⟨a3, len3, cap3, rfl⟩ := okWide_slice Tryd.underlying24 (hval 3 24 v3 rfl rfl)
  have k3 := h3
  have lt3 : ∀ x ∈ p3, x.block < W.heap.size := by obtain ⟨m, hm⟩ := k3; exact DataW.trod_lt m _ _ _ hm
  obtain ⟨ns3, hr3, hh3⟩ := open_intsB k3 ⟨a3, len3, cap3, rfl⟩
  have htab := tab_of_laid hL
  clear hA0 hval0
  refine (lawHolds a0 w0 a1 w1 a2 w2 _ ns3 W hr3 hh3 htab).mono fun e W' ⟨he, bel⟩ => ?_
  subst he
  exact ⟨_, rfl, _, _, _, [], _, [], hW', trodAll_mk1 (shut_bool Tryd.underlying4 _), (trodAll_cons_mk (shut_int Tryd.underlying2 w0) (trodAll_cons_mk (shut_int Tryd.underlying2 w1) (trodAll_cons_mk (shut_int Tryd.underlying2 w2) (trodAll_cons_mk (Below.trod laidOut_fnExactHolds (by kernel_rfl) (of_decide_eq_true (by kernel_rfl)) k3 bel lt3) trodAll_mk0)))), rfl, bel.frame _, fun h => by cases h⟩
theorem over_fnExactHolds : Rows.fnExactHoldsRow.holds Tryd.pinned (OpenSpec.ofChange Rows.fnExactHoldsSpec) :=
  OpenClaim.holds_of_wide 4 Tryd.f4 rfl rfl rfl rfl rfl rfl rfl ⟨rfl, rfl, rfl, rfl, rfl⟩ rfl rfl rfl rfl rfl (by kernel_rfl) Tryd.func4 (by kernel_rfl)
    (of_decide_eq_true (by kernel_rfl)) (by unfold Func.isWrapper; first | (rw [if_pos (by decide +kernel)]; kernel_rfl) | (rw [if_neg (by decide +kernel)]; exact ⟨rfl, rfl⟩))
    (fun os started H enc _ => lifted_fnExactHolds os started H enc)
theorem fnExactHolds_holds : Rows.FnExactHoldsCardSaid :=
  Claim7.holds_tied_plain_at .later [] [.data, .data, .data] true Rows.fnExactHoldsCard.stood.harness Rows.fnExactHoldsCard.stood.looks
    over_fnExactHolds (fun _ h => by cases h) (by kernel_rfl) (fun _ h => by cases h) fnExactHolds_row_tie rfl ⟨rfl, rfl⟩ (by kernel_rfl) rfl
    (fun f fn hf hfn => by
      obtain rfl : f = 4 := Option.some.inj ((show Tryd.prog.funcNamed "loop.example/g00217/laws.FnExactHolds" = some 4 by kernel_rfl).symm.trans hf) |>.symm
      obtain rfl : fn = Tryd.f4 := (Option.some.inj (Tryd.func4.symm.trans hfn)).symm
      exact ⟨by kernel_rfl, fun j t ht => by
        rw [Tryd.params4] at ht
        have hm : t ∈ [2, 2, 2, 24] := by simpa using Array.mem_of_getElem? ht
        have hall : ([2, 2, 2, 24].all fun u => !Tryd.prog.wantsStandIn u) = true := by kernel_rfl
        exact (show Tryd.prog.wantsStandIn t = false by simpa using List.all_eq_true.1 hall t hm)⟩)
    (by kernel_rfl)
#print axioms fnExactHolds_holds

end Go.Proofs.YthmeikbfichkaabDoor
