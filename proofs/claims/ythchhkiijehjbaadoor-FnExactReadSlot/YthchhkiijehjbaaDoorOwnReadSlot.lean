/- Whatever text it is called with, laws.FnExactReadSlot returns true and its argument reads as before: both ReadSlots read the same generation and text, or none. Condition: the listed tables and errors of the Go library and the program's own error hold what the text lays there (tied by the card). -/
import Derived.Test.YthchhkiijehjbaaDoorRows
import Derived.Test.YthchhkiijehjbaaDoorCards
import Derived.Test.YthchhkiijehjbaaDoorTie
import Derived.Test.YthchhkiijehjbaaDoorSltOf
import Derived.Test.YthchhkiijehjbaaDoorLaid
import Derived.ProofKit
import Derived.OpenShut
import Derived.ShutString
import Derived.ChangeOld
import Derived.LaidMore
import Derived.SevenTiedAt
import Derived.Stop.Joined
import Derived.Stop.LaidErr
namespace Go.Proofs.YthchhkiijehjbaaDoor
open Go.ChangeShapes Go.WideShapes Go.ChangeAt Go.RowKit
open Go.ChangeMaps (open_string shut_string)
set_option maxHeartbeats 4000000 in
set_option maxRecDepth 100000 in
theorem lawReadSlot (s : ByteArray) (w1 : s.size ≤ maxLen) (a : Addr) (w : World) (he : SEnv w a) :
    Calls Tryd.prog 4 #[.string s] w fun e w' => e = .returned (.bool true) ∧ Below w.heap.size w w' := by
  unfold maxLen at w1
  by_cases hbig : 1048576 < s.size
  · go_enter Tryd.func4, Tryd.ntmps4
    go_wp2
    go_ret
    exact ⟨rfl, Below.refl _ _⟩
  have hle : s.size ≤ 1048576 := by omega
  obtain ⟨g, t, o, HS, HI⟩ : ∃ (g : Int) (t : ByteArray) (o : Bool), Hid (∀ W, Calls Tryd.prog 7 #[.string s] W fun e w' => e = .returned (.tuple #[.int .i64 g, .string t, .bool o]) ∧ Below W.heap.size W w') ∧ Hid (∀ W, SEnv W a → Calls Tryd.prog 8 #[.string s] W fun e w' => e = .returned (.tuple #[.int .i64 g, .string t, .bool o]) ∧ Below W.heap.size W w') := by
    obtain ⟨r, hr⟩ := rs_ex s
    cases r with
    | none => exact ⟨0, ⟨#[]⟩, false, fun W => specRead_no s W hle hr, fun W h => implRead_no s a W hle hr h⟩
    | some p =>
      obtain ⟨g, t⟩ := p
      obtain ⟨h1, rfl⟩ := hr
      exact ⟨g, t, true, fun W => specRead_yes g t W h1, fun W h => implRead_yes g t a W h1 h⟩
  have hg : (g != g) = false := by simp
  have ho : (o != o) = false := by cases o <;> rfl
  clear w1
  go_enter Tryd.func4, Tryd.ntmps4
  go_wp2_with fail
  refine (HS.out _).mono ?_
  rintro e w1 ⟨rfl, hb1⟩
  have he1 := he.on hb1
  go_wp2_with fail
  refine (HI.out _ he1).mono ?_
  rintro e w2 ⟨rfl, hb2⟩
  have hb := hb1.trans (hb2.mono hb1.size)
  clear hb1 hb2 he1
  go_wp2
  go_ret
  exact ⟨rfl, hb⟩
theorem var_below {P : Program} {W W' : World} {n : String} {cs : Array Value} (h : W.var? P n = some cs) (hb : Below W.heap.size W W') : W'.var? P n = some cs := by
  unfold World.var? at h ⊢
  cases hg : P.globalNamed n with
  | none => simp [hg] at h
  | some g =>
    simp only [hg, Option.bind_some] at h ⊢
    have hlt : g < W.heap.size := by
      rcases Nat.lt_or_ge g W.heap.size with h' | h'
      · exact h'
      · simp [Array.getElem?_eq_none h'] at h
    rw [hb.block g hlt]
    exact h
theorem gSlot : Tryd.prog.globalNamed "loop.example/g00217/impl.errNoSlot" = some 0 := by kernel_rfl
theorem gSyn : Tryd.prog.globalNamed "strconv.ErrSyntax" = some 3 := by kernel_rfl
theorem gRng : Tryd.prog.globalNamed "strconv.ErrRange" = some 4 := by kernel_rfl
theorem tSlot : (Tryd.prog.globals[0]?).map (·.type) = some 38 := by kernel_rfl
theorem tSyn : (Tryd.prog.globals[3]?).map (·.type) = some 38 := by kernel_rfl
theorem tRng : (Tryd.prog.globals[4]?).map (·.type) = some 38 := by kernel_rfl
theorem starE : "*" ++ "errors.errorString" = "*errors.errorString" := by decide
theorem rowE (u : TypeId) (h : Tryd.prog.typeName? 3 u = some "*errors.errorString") : u = 103 :=
  typeName_ptr_named (nm := "errors.errorString") (by rw [starE]; kernel_rfl) (by kernel_rfl) (by decide) u (by rw [starE]; exact h)
theorem cellsE : Tryd.prog.cellsOf 105 = 1 := by kernel_rfl
theorem cellsStr : Tryd.prog.cellsOf 9 = 1 := by kernel_rfl
theorem env_of_laid {W : World} (h : laidMetH Tryd.prog Rows.fnExactReadSlotRow.laid W) : ∃ a, SEnv W a ∧ W.var? Tryd.prog "loop.example/g00217/impl.errNoSlot" = some #[.iface 103 (.pointer (some a))] := by
  rw [MakeChecks.laidMetH_plain _ _ _ (by kernel_rfl)] at h
  have h2 := h.tail.tail
  obtain ⟨aR, sR, vR, _, _, _⟩ := laid_sentinel h2.tail gRng tRng Tryd.underlying38 rowE Tryd.underlying103 Tryd.underlying105 rfl rfl Tryd.underlying9 cellsE cellsStr
  obtain ⟨aS, sS, vS, _, _, _⟩ := laid_sentinel h2.tail.tail gSyn tSyn Tryd.underlying38 rowE Tryd.underlying103 Tryd.underlying105 rfl rfl Tryd.underlying9 cellsE cellsStr
  obtain ⟨aN, sN, vN, _, _, _⟩ := laid_sentinel h2.tail.tail.tail gSlot tSlot Tryd.underlying38 rowE Tryd.underlying103 Tryd.underlying105 rfl rfl Tryd.underlying9 cellsE cellsStr
  refine ⟨aN, ⟨?_, ⟨_, _, by simpa using World.var?_cell gSyn vS 0⟩, ⟨_, _, by simpa using World.var?_cell gRng vR 0⟩, by simpa using World.var?_cell gSlot vN 0⟩, vN⟩
  rw [dPow] at h2
  exact Lib.tabIs_of_head gPow tPow Tryd.underlying78 Tryd.underlying56 (by kernel_rfl) (by kernel_rfl) h2
theorem own_fnExactReadSlot : ownKnob Tryd.prog.godebug = none := by kernel_rfl
theorem door_fnExactReadSlot (os : Os) (args : Array Value) : laidMetH Tryd.prog Rows.fnExactReadSlotRow.laid ((World.doorLaid Tryd.prog 400 os).forCall (fun _ _ => 0) ⟨#[], args, []⟩).memory :=
  laidMetH_of_parts3 (fuel := 8) (laidMet_of_run' 8 (by kernel_rfl) (by kernel_rfl)) (by kernel_rfl) (by kernel_rfl)
set_option maxRecDepth 100000 in
theorem lifted_fnExactReadSlot (os : Os) (started : os.Started) (H : Type) (enc : TypeId × Value → H) :
    ReturnsInHanded {} Tryd.checked os 4 .any (fun w args => (Rows.fnExactReadSlotSpec.pre enc Tryd.prog Tryd.f4 [] false w args ∧ laidMetH Tryd.prog Rows.fnExactReadSlotRow.laid w) ∧ sizedMet enc Tryd.prog Tryd.f4 (OpenSpec.ofChange Rows.fnExactReadSlotSpec) false w args)
      (Rows.fnExactReadSlotSpec.post enc Tryd.prog Tryd.f4 false true false false) := by
  refine returnsInHanded_of_change_and (C := Tryd.checked) (X := fun w _ => laidMetH Tryd.prog Rows.fnExactReadSlotRow.laid w) (fun _ _ _ hh h => h.of_heap hh) own_fnExactReadSlot started (by kernel_rfl) Tryd.func4
    (ChangeSpec.witness_shaped (enc := enc) (C := Tryd.checked) (os := os) (X := fun w _ => laidMetH Tryd.prog Rows.fnExactReadSlotRow.laid w) false (World.doorLaid Tryd.prog 400 os) #[.string ByteArray.empty] 8 rfl (World.shaped_of_RefB (by kernel_rfl) (by kernel_rfl)) (by kernel_rfl) (by kernel_rfl) (by kernel_rfl) (door_fnExactReadSlot os _)) ?_
  intro W base args ds gs before hval0 hW _ _ hL _
  have hval : ∀ (j : Nat) t v, Tryd.f4.params[j]? = some t → args[j]? = some v → Value.okWide Tryd.prog W .any base t v := hval0
  have hW' := hW
  obtain ⟨p, q, hA0, hV0, rfl, hfz, hnd⟩ := hW
  have hA : DataW.TrodAll enc Tryd.prog W 0 (fun _ => true) true Tryd.f4.params.toList args.toList ds p := hA0
  have hV : DataW.TrodVars enc Tryd.prog W (fun _ => true) ["loop.example/g00217/impl.errNoSlot"] gs q := hV0
  rw [Tryd.params4] at hA hval
  obtain ⟨v0, vs0, d0, ds0, p0, q0, hargs, rfl, rfl, h0, r0⟩ := trodAll_cons hA
  obtain ⟨rfl, rfl, rfl⟩ := trodAll_nil r0
  obtain rfl : args = #[v0] := by cases args; simp_all
  obtain ⟨a0, rfl, rfl, rfl, w0⟩ := open_string Tryd.underlying9 (hval 0 9 v0 rfl rfl) h0
  obtain ⟨a, henv, hvar⟩ := env_of_laid hL
  have vr : ∀ {X : World}, X.var? Tryd.prog "loop.example/g00217/impl.errNoSlot" = some #[.iface 103 (.pointer (some a))] → ∀ sp : Nat → Bool,
      DataW.TrodVars enc Tryd.prog X sp ["loop.example/g00217/impl.errNoSlot"] [tok enc (.iface 103 (.pointer (some a)))] [.cell 0 0] :=
    fun x0 sp => vars_read1 enc gSlot tSlot Tryd.underlying38 x0 trivial sp
  obtain ⟨rfl, rfl⟩ := hV.unique (vr hvar _)
  clear hA0 hV0 hval0
  refine (lawReadSlot a0 w0 a W henv).mono fun e W' ⟨he, bel⟩ => ?_
  subst he
  exact ⟨_, rfl, _, _, _, [], _, [.cell 0 0], hW', trodAll_mk1 (shut_bool Tryd.underlying4 _), (trodAll_cons_mk (shut_string Tryd.underlying9 w0) trodAll_mk0), vr (var_below hvar bel) _, bel.frame _, fun h => by cases h⟩
theorem over_fnExactReadSlot : Rows.fnExactReadSlotRow.holds Tryd.pinned (OpenSpec.ofChange Rows.fnExactReadSlotSpec) :=
  OpenClaim.holds_of_wide 4 Tryd.f4 rfl rfl rfl rfl rfl rfl rfl ⟨rfl, rfl, rfl, rfl, rfl⟩ rfl rfl rfl rfl rfl (by kernel_rfl) Tryd.func4 (by kernel_rfl)
    (of_decide_eq_true (by kernel_rfl)) (by unfold Func.isWrapper; first | (rw [if_pos (by decide +kernel)]; kernel_rfl) | (rw [if_neg (by decide +kernel)]; exact ⟨rfl, rfl⟩))
    (fun os started H enc _ => lifted_fnExactReadSlot os started H enc)
theorem fnExactReadSlot_holds : Rows.FnExactReadSlotCardSaid :=
  Claim7.holds_tied_plain_at .later [] [.data, .data, .data, .sentinel, .sentinel, .sentinel] true Rows.fnExactReadSlotCard.stood.harness Rows.fnExactReadSlotCard.stood.looks
    over_fnExactReadSlot (fun _ h => by cases h) (by kernel_rfl) (fun _ h => by cases h) fnExactReadSlot_row_tie rfl ⟨rfl, rfl⟩ (by kernel_rfl) rfl
    (fun f fn hf hfn => by
      obtain rfl : f = 4 := Option.some.inj ((show Tryd.prog.funcNamed "loop.example/g00217/laws.FnExactReadSlot" = some 4 by kernel_rfl).symm.trans hf) |>.symm
      obtain rfl : fn = Tryd.f4 := (Option.some.inj (Tryd.func4.symm.trans hfn)).symm
      exact ⟨by kernel_rfl, fun j t ht => by
        rw [Tryd.params4] at ht
        have hm : t ∈ [9] := by simpa using Array.mem_of_getElem? ht
        have hall : ([9].all fun u => !Tryd.prog.wantsStandIn u) = true := by kernel_rfl
        exact (show Tryd.prog.wantsStandIn t = false by simpa using List.all_eq_true.1 hall t hm)⟩)
    (by kernel_rfl)
#print axioms fnExactReadSlot_holds
end Go.Proofs.YthchhkiijehjbaaDoor
