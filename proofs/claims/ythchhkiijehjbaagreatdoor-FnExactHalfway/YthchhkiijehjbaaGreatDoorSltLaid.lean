/- What the rows' lists of variables give the walks of Root, Switch and Halfway. -/
import Derived.Test.YthchhkiijehjbaaGreatDoorRows
import Derived.Test.YthchhkiijehjbaaGreatDoorSltAt
import Derived.Test.YthchhkiijehjbaaGreatDoorG31
import Derived.LaidMore
import Derived.LaidHandle
import Derived.Stop.LaidErr
import Derived.Stop.LaidTwo
namespace Go.Proofs.YthchhkiijehjbaaGreatDoor
open Go.RowKit Go.ChangeShapes
theorem var_below {P : Program} {W W' : World} {n : String} {cs : Array Value} (h : W.var? P n = some cs) (hb : Below W.heap.size W W') : W'.var? P n = some cs := by
  unfold World.var? at h ⊢
  cases hg : P.globalNamed n with
  | none => simp [hg] at h
  | some g =>
    simp only [hg, Option.bind_some] at h ⊢
    have hlt : g < W.heap.size := by
      rcases Nat.lt_or_ge g W.heap.size with h' | h'
      · exact h'
      · simp [Array.getElem?_eq_none h'] at h
    rw [hb.block g hlt]
    exact h
theorem gSlot : Tryz.prog.globalNamed "loop.example/g00217/impl.errNoSlot" = some 1 := by kernel_rfl
theorem gSec : Tryz.prog.globalNamed "loop.example/g00217/impl.errNoSector" = some 0 := by kernel_rfl
theorem gSyn : Tryz.prog.globalNamed "strconv.ErrSyntax" = some 5 := by kernel_rfl
theorem gRng : Tryz.prog.globalNamed "strconv.ErrRange" = some 6 := by kernel_rfl
theorem tSlot : (Tryz.prog.globals[1]?).map (·.type) = some 50 := by kernel_rfl
theorem tSec : (Tryz.prog.globals[0]?).map (·.type) = some 50 := by kernel_rfl
theorem tSyn : (Tryz.prog.globals[5]?).map (·.type) = some 50 := by kernel_rfl
theorem tRng : (Tryz.prog.globals[6]?).map (·.type) = some 50 := by kernel_rfl
theorem starE : "*" ++ "errors.errorString" = "*errors.errorString" := by decide
theorem rowE (u : TypeId) (h : Tryz.prog.typeName? 3 u = some "*errors.errorString") : u = 169 :=
  typeName_ptr_named (nm := "errors.errorString") (by rw [starE]; kernel_rfl) (by kernel_rfl) (by decide) u (by rw [starE]; exact h)
theorem cellsE : Tryz.prog.cellsOf 171 = 1 := by kernel_rfl
theorem cellsStr : Tryz.prog.cellsOf 9 = 1 := by kernel_rfl
/-- What the seven plain ones give. -/
theorem env2_of_laid {W : World} (h : laidMet Tryz.prog [("math/bits.deBruijn32tab", Rows.laid_math_bits_deBruijn32tab), ("math/bits.deBruijn64tab", Rows.laid_math_bits_deBruijn64tab), ("internal/strconv.uint64pow10", Rows.laid_internal_strconv_uint64pow10), ("strconv.ErrRange", Rows.laid_strconv_ErrRange), ("strconv.ErrSyntax", Rows.laid_strconv_ErrSyntax), ("loop.example/g00217/impl.errNoSlot", Rows.laid_loop_example_g00217_impl_errNoSlot), ("loop.example/g00217/impl.errNoSector", Rows.laid_loop_example_g00217_impl_errNoSector)] W) :
    ∃ a b, SEnv2 W a b ∧ W.var? Tryz.prog "loop.example/g00217/impl.errNoSector" = some #[.iface 169 (.pointer (some b))] ∧ W.var? Tryz.prog "loop.example/g00217/impl.errNoSlot" = some #[.iface 169 (.pointer (some a))] := by
  have h2 := h.tail.tail
  obtain ⟨aR, sR, vR, _, _, _⟩ := laid_sentinel h2.tail gRng tRng Tryz.underlying50 rowE Tryz.underlying169 Tryz.underlying171 rfl rfl Tryz.underlying9 cellsE cellsStr
  obtain ⟨aS, sS, vS, _, _, _⟩ := laid_sentinel h2.tail.tail gSyn tSyn Tryz.underlying50 rowE Tryz.underlying169 Tryz.underlying171 rfl rfl Tryz.underlying9 cellsE cellsStr
  obtain ⟨a, b, s0, s1, c0, c1, t0, t1, va, vb, _, _, _, _, _, _, hne, hb0, hb1⟩ := laid_sentinels2 h2.tail.tail.tail gSlot tSlot gSec tSec Tryz.underlying50 rowE Tryz.underlying169 Tryz.underlying171 rfl rfl Tryz.underlying9 cellsE cellsStr
  refine ⟨a, b, ⟨⟨?_, ⟨_, _, by simpa using World.var?_cell gSyn vS 0⟩, ⟨_, _, by simpa using World.var?_cell gRng vR 0⟩, by simpa using World.var?_cell gSlot va 0⟩, by simpa using World.var?_cell gSec vb 0, hne, ⟨c0, t0, hb0⟩, ⟨c1, t1, hb1⟩⟩, vb, va⟩
  rw [dPow] at h2
  exact Lib.tabIs_of_head gPow tPow Tryz.underlying154 Tryz.underlying131 (by kernel_rfl) (by kernel_rfl) h2
theorem env_fnExactRoot {W : World} (h : laidMetH Tryz.prog Rows.fnExactRootRow.laid W) : ∃ a b, SEnv2 W a b ∧ W.var? Tryz.prog "loop.example/g00217/impl.errNoSector" = some #[.iface 169 (.pointer (some b))] ∧ W.var? Tryz.prog "loop.example/g00217/impl.errNoSlot" = some #[.iface 169 (.pointer (some a))] := by
  rw [MakeChecks.laidMetH_plain _ _ _ (by kernel_rfl)] at h
  exact env2_of_laid h
end Go.Proofs.YthchhkiijehjbaaGreatDoor
