/- What the rows' lists of variables, and the shape of the world, give the walks that read moves. -/
import Derived.Test.YtdleolgkbkoekaaDoorRows
import Derived.Test.YtdleolgkbkoekaaDoorMovRdI
import Derived.Test.YtdleolgkbkoekaaDoorLaid
import Derived.Shelf.Vars
import Derived.Lay
import Derived.HandedShaped
import Derived.LaidMore
import Derived.Stop.LaidErr
namespace Go.Proofs.YtdleolgkbkoekaaDoor
open Go.RowKit Go.ChangeShapes
theorem gSynM : Tryd.prog.globalNamed "strconv.ErrSyntax" = some 0 := by kernel_rfl
theorem gRngM : Tryd.prog.globalNamed "strconv.ErrRange" = some 1 := by kernel_rfl
theorem tSynM : (Tryd.prog.globals[0]?).map (·.type) = some 69 := by kernel_rfl
theorem tRngM : (Tryd.prog.globals[1]?).map (·.type) = some 69 := by kernel_rfl
theorem starM : "*" ++ "errors.errorString" = "*errors.errorString" := by decide
theorem rowM (u : TypeId) (h : Tryd.prog.typeName? 3 u = some "*errors.errorString") : u = 114 :=
  typeName_ptr_named (nm := "errors.errorString") (by rw [starM]; kernel_rfl) (by kernel_rfl) (by decide) u (by rw [starM]; exact h)
theorem cellsME : Tryd.prog.cellsOf 116 = 1 := by kernel_rfl
theorem cellsMS : Tryd.prog.cellsOf 9 = 1 := by kernel_rfl
/-- The list of the seven. -/
abbrev laid7 : List (String × DataW Unit) := [("math/bits.deBruijn32tab", Rows.laid_math_bits_deBruijn32tab), ("math/bits.deBruijn64tab", Rows.laid_math_bits_deBruijn64tab), ("internal/strconv.uint64pow10", Rows.laid_internal_strconv_uint64pow10), ("unicode/utf8.acceptRanges", Rows.laid_unicode_utf8_acceptRanges), ("strconv.ErrRange", Rows.laid_strconv_ErrRange), ("strconv.ErrSyntax", Rows.laid_strconv_ErrSyntax), ("unicode/utf8.first", Rows.laid_unicode_utf8_first)]
theorem menv_of_laid {W : World} (h : laidMetH Tryd.prog laid7 W) (hs : W.ShapedOpen Tryd.prog) : MEnv W := by
  rw [MakeChecks.laidMetH_plain _ _ _ (by kernel_rfl)] at h
  have h2 := h.tail.tail
  obtain ⟨aR, sR, vR, _, _, _⟩ := laid_sentinel h2.tail.tail gRngM tRngM Tryd.underlying69 rowM Tryd.underlying114 Tryd.underlying116 rfl rfl Tryd.underlying9 cellsME cellsMS
  obtain ⟨aS, sS, vS, _, _, _⟩ := laid_sentinel h2.tail.tail.tail gSynM tSynM Tryd.underlying69 rowM Tryd.underlying114 Tryd.underlying116 rfl rfl Tryd.underlying9 cellsME cellsMS
  refine ⟨?_, ⟨_, _, by simpa using World.var?_cell gSynM vS 0⟩, ⟨_, _, by simpa using World.var?_cell gRngM vR 0⟩, ?_⟩
  · rw [dPow] at h2
    exact Lib.tabIs_of_head gPow tPow Tryd.underlying118 Tryd.underlying83 (by kernel_rfl) (by kernel_rfl) h2
  · exact cell_of_shapedOpen_int (g := 2) (t := 3) (zero := #[.int .i64 0]) (k := .i64) hs (of_decide_eq_true (by kernel_rfl)) (by kernel_rfl) rfl (by kernel_rfl) (by kernel_rfl) Tryd.underlying3
/-- The lift of a contract that is told what the listed variables hold and that the world has its shape. -/
theorem returnsInHanded_of_change_shut {H : Type} {enc : TypeId × Value → H} {a : Assume} {C : Checked} {os : Os} {f : FuncId} {fn : Func} {s : ChangeSpec} {conds : List PathCond} {apart fresh handsOn again : Bool} {X : World → Array Value → Prop}
    (hX : ∀ (w w' : World) (args : Array Value), w.heap = w'.heap → X w args → X w' args)
    (own : ownKnob C.prog.godebug = none) (started : os.Started) (noInit : C.prog.inits.idxOf? f = none) (hfn : C.prog.funcs[f]? = some fn)
    (witness : ∃ (w : World) (tape : Tape) (i : Input), w.os = os ∧ (w.forCall tape i).Shaped C.prog ∧ i.vars = [] ∧ Input.okWide C.prog (w.forCall tape i) .any w.heap.size f i ∧
      ((s.pre enc C.prog fn conds apart (w.forCall tape i).memory i.args ∧ X (w.forCall tape i).memory i.args) ∧ sizedMet enc C.prog fn (OpenSpec.ofChange s) apart (w.forCall tape i).memory i.args) ∧ a.holds C.prog (lone (Frame.enter C.prog f i.args .normal) [] (w.forCall tape i)))
    (contract : ∀ (W : World) (base : Nat) (args : Array Value) (ds gs : List (DataW H)) (before : List MemPlace),
      (∀ (j : Nat) t v, fn.params[j]? = some t → args[j]? = some v → Value.okWide C.prog W .any base t v) →
      DataW.Whole enc C.prog fn.params.toList s.vars apart W args.toList ds gs before →
      conds.all (PathCond.test C.prog ⟨fn.params.toList, ds, s.plain.varTypes C.prog, gs⟩) = true →
      (DataW.weightsEach C.prog (fn.params.toList ++ s.plain.varTypes C.prog) (ds ++ gs)).all (· ≤ reachBytes) = true → X W args →
      W.ShapedOpen C.prog →
      a.holds C.prog (lone (Frame.enter C.prog f args .normal) [] W) →
      Calls C.prog f args W fun e W' => ∃ v, e = .returned v ∧ s.post enc C.prog fn apart fresh handsOn again W args v W') :
    ReturnsInHanded a C os f .any (fun w args => (s.pre enc C.prog fn conds apart w args ∧ X w args) ∧ sizedMet enc C.prog fn (OpenSpec.ofChange s) apart w args) (s.post enc C.prog fn apart fresh handsOn again) := by
  refine returnsInHanded_of_calls own started noInit witness fun w tape i _ hsh _ hok hpre hholds => ?_
  obtain ⟨_, _, _, fn', hfn', _, _, _, _, hval⟩ := hok
  cases Option.some.inj (hfn'.symm.trans hfn)
  obtain ⟨⟨⟨ds, gs, before, hw, hc⟩, hx⟩, hz⟩ := hpre
  have hw' := DataW.Whole.of_heap (w' := w.forCall tape i) (by rfl) hw
  exact (contract (w.forCall tape i) w.heap.size i.args ds gs before hval hw' hc (hz.weights hw) (hX _ _ _ (by rfl) hx) hsh hholds).mono fun e W' ⟨v, he, hp⟩ => by
    subst he
    exact ChangeSpec.post_blind hp
end Go.Proofs.YtdleolgkbkoekaaDoor
