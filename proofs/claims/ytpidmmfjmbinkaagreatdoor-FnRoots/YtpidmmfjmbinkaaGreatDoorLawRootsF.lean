/- Whatever code it is called with, laws.FnRoots returns true and its argument reads as before: the root is the new one behind a switch, and wherever power fails within it the old one or the new one, by the program as by the model. Condition: the listed tables, errors and type of the Go library and the program's own errors hold what the text lays there (tied by the card). -/
import Derived.Test.YtpidmmfjmbinkaaGreatDoorRows
import Derived.Test.YtpidmmfjmbinkaaGreatDoorCards
import Derived.Test.YtpidmmfjmbinkaaGreatDoorTie
import Derived.Test.YtpidmmfjmbinkaaGreatDoorLawRootsW
import Derived.Test.YtpidmmfjmbinkaaGreatDoorG36
import Derived.ProofKit
import Derived.OpenShut
import Derived.ShutString
import Derived.ChangeOld
import Derived.LaidMore
import Derived.SevenTiedAt
import Derived.Stop.Joined
namespace Go.Proofs.YtpidmmfjmbinkaaGreatDoor
open Go.ChangeShapes Go.WideShapes Go.ChangeAt Go.RowKit
theorem env_fnRoots {W : World} (h : laidMetH Tryz.prog Rows.fnRootsRow.laid W) : ∃ a b, SEnv3 W a b ∧ W.var? Tryz.prog "loop.example/g00217/impl.errNoSector" = some #[.iface 174 (.pointer (some b))] ∧ W.var? Tryz.prog "loop.example/g00217/impl.errNoSlot" = some #[.iface 174 (.pointer (some a))] := by
  have h' : laidMet Tryz.prog [("math/bits.deBruijn32tab", Rows.laid_math_bits_deBruijn32tab), ("math/bits.deBruijn64tab", Rows.laid_math_bits_deBruijn64tab), ("internal/strconv.uint64pow10", Rows.laid_internal_strconv_uint64pow10), ("strconv.ErrRange", Rows.laid_strconv_ErrRange), ("strconv.ErrSyntax", Rows.laid_strconv_ErrSyntax), ("loop.example/g00217/impl.errNoSlot", Rows.laid_loop_example_g00217_impl_errNoSlot), ("loop.example/g00217/impl.errNoSector", Rows.laid_loop_example_g00217_impl_errNoSector)] W ∧ handlesMet Tryz.prog [("errors.errorType", Rows.laid_errors_errorType)] W := h
  obtain ⟨a, b, hE, hb, ha⟩ := env2_of_laid h'.1
  refine ⟨a, b, ⟨hE, ?_⟩, hb, ha⟩
  obtain ⟨name, u, ty, e1, e2, e3, e4, e5⟩ := h'.2 _ (List.mem_singleton.2 rfl)
  have en : name = [101, 114, 114, 111, 114] := (Option.some.inj e1).symm
  subst en
  have hrt : (Tryz.prog.cutTypes.find? (·.1 == "internal/reflectlite.rtype")).map (·.2) = some 123 := by kernel_rfl
  obtain rfl := Option.some.inj (hrt.symm.trans e2)
  have hsz : Tryz.prog.types.size = 205 := by kernel_rfl
  have hrow : ((List.range 205).filter fun t => Tryz.prog.rowNamed t [101, 114, 114, 111, 114]) = [59] := by kernel_rfl
  have hm : ty ∈ (List.range 205).filter fun t => Tryz.prog.rowNamed t [101, 114, 114, 111, 114] := List.mem_filter.2 ⟨List.mem_range.2 (by rw [← hsz]; exact e3), e4⟩
  rw [hrow] at hm
  obtain rfl := List.mem_singleton.1 hm
  have hh : typeHandle Tryz.prog 59 = .pointer (some ⟨9, 59, none⟩) := by kernel_rfl
  rw [hh] at e5
  have het : Tryz.prog.globalNamed "errors.errorType" = some 2 := by kernel_rfl
  simpa using World.var?_cell het e5 0
theorem own_fnRoots : ownKnob Tryz.prog.godebug = none := by kernel_rfl
theorem laidOut_fnRoots : laidOutB Tryz.prog = true := by kernel_rfl
theorem door_fnRoots (os : Os) (args : Array Value) : laidMetH Tryz.prog Rows.fnRootsRow.laid ((World.doorLaid Tryz.prog 400 os).forCall (fun _ _ => 0) ⟨#[], args, []⟩).memory :=
  laidMetH_of_parts3 (fuel := 8) (laidMet_of_run' 8 (by kernel_rfl) (by kernel_rfl)) (by kernel_rfl) (by kernel_rfl)
set_option maxRecDepth 100000 in
theorem lifted_fnRoots (os : Os) (started : os.Started) (H : Type) (enc : TypeId × Value → H) :
    ReturnsInHanded {} Tryz.checked os 3 .any (fun w args => (Rows.fnRootsSpec.pre enc Tryz.prog Tryz.f3 [] false w args ∧ laidMetH Tryz.prog Rows.fnRootsRow.laid w) ∧ sizedMet enc Tryz.prog Tryz.f3 (OpenSpec.ofChange Rows.fnRootsSpec) false w args)
      (Rows.fnRootsSpec.post enc Tryz.prog Tryz.f3 false true false false) := by
  refine returnsInHanded_of_change_and (C := Tryz.checked) (X := fun w _ => laidMetH Tryz.prog Rows.fnRootsRow.laid w) (fun _ _ _ hh h => h.of_heap hh) own_fnRoots started (by kernel_rfl) Tryz.func3
    (ChangeSpec.witness_shaped (enc := enc) (C := Tryz.checked) (os := os) (X := fun w _ => laidMetH Tryz.prog Rows.fnRootsRow.laid w) false (World.doorLaid Tryz.prog 400 os) #[.slice none 0 0] 8 rfl (World.shaped_of_RefB (by kernel_rfl) (by kernel_rfl)) (by kernel_rfl) (by kernel_rfl) (by kernel_rfl) (door_fnRoots os _)) ?_
  intro W base args ds gs before hval0 hW _ _ hL _
  have hval : ∀ (j : Nat) t v, Tryz.f3.params[j]? = some t → args[j]? = some v → Value.okWide Tryz.prog W .any base t v := hval0
  have hW' := hW
  obtain ⟨p, q, hA0, hV, rfl, hfz, hnd⟩ := hW
  have hA : DataW.TrodAll enc Tryz.prog W 0 (fun _ => true) true Tryz.f3.params.toList args.toList ds p := hA0
  rw [Tryz.params3] at hA hval
  obtain ⟨v0, vs0, d0, ds0, p0, q0, hargs, rfl, rfl, h0, r0⟩ := trodAll_cons hA
  obtain ⟨rfl, rfl, rfl⟩ := trodAll_nil r0
  obtain rfl : args = #[v0] := by cases args; simp_all
  have hV1 : DataW.TrodVars enc Tryz.prog W (fun _ => true) ["loop.example/g00217/impl.errNoSector", "loop.example/g00217/impl.errNoSlot"] gs q := hV
  obtain ⟨ea, eb, henv, hvb, hva⟩ := env_fnRoots hL
  have vr : ∀ {X : World}, X.var? Tryz.prog "loop.example/g00217/impl.errNoSector" = some #[.iface 174 (.pointer (some eb))] → X.var? Tryz.prog "loop.example/g00217/impl.errNoSlot" = some #[.iface 174 (.pointer (some ea))] → ∀ sp : Nat → Bool,
      DataW.TrodVars enc Tryz.prog X sp ["loop.example/g00217/impl.errNoSector", "loop.example/g00217/impl.errNoSlot"] [tok enc (.iface 174 (.pointer (some eb))), tok enc (.iface 174 (.pointer (some ea)))] [.cell 1 0, .cell 0 0] :=
    fun x0 x1 sp => vars_read2 enc gSec tSec Tryz.underlying59 x0 trivial gSlot tSlot Tryz.underlying59 x1 trivial sp
  obtain ⟨rfl, rfl⟩ := hV1.unique (vr hvb hva _)
  obtain ⟨a0, len0, cap0, rfl⟩ := okWide_slice Tryz.underlying22 (hval 0 22 v0 rfl rfl)
  have k0 := h0
  have lt0 : ∀ x ∈ p0, x.block < W.heap.size := by obtain ⟨m, hm⟩ := k0; exact DataW.trod_lt m _ _ _ hm
  obtain ⟨bs0, hr0⟩ : ∃ bs, Rd W (.slice a0 len0 cap0) bs := by
    obtain ⟨fuel, hf⟩ := h0
    rcases open_ints Tryz.underlying22 Tryz.underlying5 (by kernel_rfl) hf with ⟨hcs, _⟩ | ⟨x, l, c, zs, hcs, _, hl, hm, hz, _, hcell, hwz⟩
    · simp [Value.cells] at hcs
      obtain ⟨rfl, rfl, rfl⟩ := hcs
      exact ⟨[], rd_nil W⟩
    · simp [Value.cells] at hcs
      obtain ⟨rfl, rfl, rfl⟩ := hcs
      exact rd_of hl hm (by simpa using hz) hcell hwz
  clear hA0 hval0
  refine (lawRootsF _ bs0 ea eb W hr0 henv).mono fun e W' ⟨he, bel⟩ => ?_
  subst he
  exact ⟨_, rfl, _, _, _, [], _, [.cell 1 0, .cell 0 0], hW', trodAll_mk1 (shut_bool Tryz.underlying4 _), (trodAll_cons_mk (Below.trod laidOut_fnRoots (by kernel_rfl) (of_decide_eq_true (by kernel_rfl)) k0 bel lt0) trodAll_mk0), vr (var_below hvb bel) (var_below hva bel) _, bel.frame _, fun h => by cases h⟩
theorem over_fnRoots : Rows.fnRootsRow.holds Tryz.pinned (OpenSpec.ofChange Rows.fnRootsSpec) :=
  OpenClaim.holds_of_wide 3 Tryz.f3 rfl rfl rfl rfl rfl rfl rfl ⟨rfl, rfl, rfl, rfl, rfl⟩ rfl rfl rfl rfl rfl (by kernel_rfl) Tryz.func3 (by kernel_rfl)
    (of_decide_eq_true (by kernel_rfl)) (by unfold Func.isWrapper; first | (rw [if_pos (by decide +kernel)]; kernel_rfl) | (rw [if_neg (by decide +kernel)]; exact ⟨rfl, rfl⟩))
    (fun os started H enc _ => lifted_fnRoots os started H enc)
theorem fnRoots_holds : Rows.FnRootsCardSaid :=
  Claim7.holds_tied_plain_at .later [] [.data, .data, .data, .handle, .sentinel, .sentinel, .sentinel, .sentinel] true Rows.fnRootsCard.stood.harness Rows.fnRootsCard.stood.looks
    over_fnRoots (fun _ h => by cases h) (by kernel_rfl) (fun _ h => by cases h) fnRoots_row_tie rfl ⟨rfl, rfl⟩ (by kernel_rfl) rfl
    (fun f fn hf hfn => by
      obtain rfl : f = 3 := Option.some.inj ((show Tryz.prog.funcNamed "loop.example/g00217/laws.FnRoots" = some 3 by kernel_rfl).symm.trans hf) |>.symm
      obtain rfl : fn = Tryz.f3 := (Option.some.inj (Tryz.func3.symm.trans hfn)).symm
      exact ⟨by kernel_rfl, fun j t ht => by
        rw [Tryz.params3] at ht
        have hm : t ∈ [22] := by simpa using Array.mem_of_getElem? ht
        have hall : ([22].all fun u => !Tryz.prog.wantsStandIn u) = true := by kernel_rfl
        exact (show Tryz.prog.wantsStandIn t = false by simpa using List.all_eq_true.1 hall t hm)⟩)
    (by kernel_rfl)
#print axioms fnRoots_holds

end Go.Proofs.YtpidmmfjmbinkaaGreatDoor
