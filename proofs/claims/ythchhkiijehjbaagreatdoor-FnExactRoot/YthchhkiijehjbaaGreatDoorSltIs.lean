/- The contracts of errors.Is at a sentinel: itself, and none. -/
import Derived.Test.YthchhkiijehjbaaGreatDoorBase
import Derived.WalkKit
import Derived.LaidEql
import Derived.Stop.Asserts
import Derived.RowKitTokens
namespace Go.Proofs.YthchhkiijehjbaaGreatDoor
open Go.RowKit Go.Extern.Stop Go.Stop Go.Extern
theorem Tryz.isTypeOf (v : Value) (w : World) : (Extern.ReflectliteType.typeOf #[.iface 169 v]).run Tryz.prog w = .ok (.iface 107 (.agg #[.pointer (some ⟨9, 169, none⟩)])) w := by kernel_rfl
/-- The model's own entry for (rtype).Comparable. -/
theorem Tryz.cmpX : ∃ x : Array Value → Sem Value, Extern.find Tryz.f138 = some x ∧ ∀ w : World, (x #[.agg #[.pointer (some ⟨9, 169, none⟩)]]).run Tryz.prog w = .ok (.bool true) w :=
  ⟨(Extern.find Tryz.f138).getD (fun _ => pure (.bool false)), by kernel_rfl, fun w => by kernel_rfl⟩
theorem Tryz.isMethodComparable (v : Value) (w : World) : (Go.method 302 107 v "Comparable").run Tryz.prog w = .ok (138, v) w := by kernel_rfl
theorem Tryz.isComp : (Tryz.prog.info? 169).map (·.comparable) = some true := by kernel_rfl
theorem Tryz.isSize : (Tryz.prog.info? 171).map (·.size) = some 1 := by kernel_rfl
set_option maxHeartbeats 4000000 in
/-- errors.Is(x, x), x a pointer to an errors.errorString. -/
theorem is_same (a : Addr) (w : World) :
    Calls Tryz.prog 44 #[.iface 169 (.pointer (some a)), .iface 169 (.pointer (some a))] w fun e w' => e = .returned (.bool true) ∧ w' = w := by
  obtain ⟨i, hi, hcmp⟩ := Option.map_eq_some_iff.1 Tryz.isComp
  obtain ⟨j, hj, hjs⟩ := Option.map_eq_some_iff.1 Tryz.isSize
  obtain ⟨cx, hcx, cT⟩ := Tryz.cmpX
  have h8 := @run_callFunc_extern Tryz.prog 64 _ Extern.ReflectliteType.typeOf Tryz.func64 (by kernel_rfl) (by kernel_rfl) (by kernel_rfl) (by kernel_rfl)
  have h32 := @run_callFunc_extern Tryz.prog 138 _ cx Tryz.func138 (by kernel_rfl) (by kernel_rfl) (by kernel_rfl) hcx
  have tT := Tryz.isTypeOf
  have mR := Tryz.isMethodComparable
  have heq := run_eql_iface_ptr_same (P := Tryz.prog) w a Tryz.underlying50 Tryz.underlying169 hi hcmp hj
  go_enter Tryz.func44, Tryz.ntmps44
  go_wp2
  refine wp_loop_rounds 1 ?_
  rw [rounds_succ]
  go_wp2
  go_ret
  exact ⟨rfl, rfl⟩
set_option maxHeartbeats 4000000 in
/-- errors.Is(nil, x). -/
theorem is_nil (b : Addr) (w : World) :
    Calls Tryz.prog 44 #[.nilIface, .iface 169 (.pointer (some b))] w fun e w' => e = .returned (.bool false) ∧ w' = w := by
  have hn := run_eql_iface_nil_left (P := Tryz.prog) w 169 (.pointer (some b)) Tryz.underlying50
  go_enter Tryz.func44, Tryz.ntmps44
  go_wp2
  go_ret
  exact ⟨rfl, rfl⟩
end Go.Proofs.YthchhkiijehjbaaGreatDoor
