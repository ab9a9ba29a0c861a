/- The contracts of errors.Is at an error of the program's own that wraps a sentinel, and of errors.As at that error's type. -/
import Derived.Test.YthchhkiijehjbaaGreatDoorSltOf
namespace Go.Proofs.YthchhkiijehjbaaGreatDoor
open Go.RowKit Go.Extern.Stop Go.Stop Go.Extern
theorem Tryz.noIsE (v : Value) (xT : TypeId) (w : World) : (Instr.typeAssert (.iface 169 v) xT 109 true).run Tryz.prog w = .ok (.tuple #[.nilIface, .bool false]) w := run_typeAssert_lacksB Tryz.underlying109 (by kernel_rfl) (by kernel_rfl) v xT w
theorem Tryz.noUnwrapE (v : Value) (xT : TypeId) (w : World) : (Instr.typeAssert (.iface 169 v) xT 112 true).run Tryz.prog w = .ok (.tuple #[.nilIface, .bool false]) w := run_typeAssert_lacksB Tryz.underlying112 (by kernel_rfl) (by kernel_rfl) v xT w
theorem Tryz.noUnwrapsE (v : Value) (xT : TypeId) (w : World) : (Instr.typeAssert (.iface 169 v) xT 114 true).run Tryz.prog w = .ok (.tuple #[.nilIface, .bool false]) w := run_typeAssert_lacksB Tryz.underlying114 (by kernel_rfl) (by kernel_rfl) v xT w
theorem Tryz.noIsW (v : Value) (xT : TypeId) (w : World) : (Instr.typeAssert (.iface 87 v) xT 109 true).run Tryz.prog w = .ok (.tuple #[.nilIface, .bool false]) w := run_typeAssert_lacksB Tryz.underlying109 (by kernel_rfl) (by kernel_rfl) v xT w
theorem Tryz.hasUnwrapW (v : Value) (xT : TypeId) (w : World) : (Instr.typeAssert (.iface 87 v) xT 112 true).run Tryz.prog w = .ok (.tuple #[.iface 87 v, .bool true]) w := run_typeAssert_hasB Tryz.underlying112 (by kernel_rfl) v xT w
theorem Tryz.methodUnwrap (v : Value) (w : World) : (Go.method 302 87 v "Unwrap").run Tryz.prog w = .ok (135, v) w := by kernel_rfl
/-- An error of the program's own: at which sector, and why. -/
abbrev secE (p : Int) (a : Addr) : Value := .iface 87 (.agg #[.int .i64 p, .iface 169 (.pointer (some a))])
set_option maxHeartbeats 4000000 in
set_option maxRecDepth 100000 in
theorem is_sec_same (p : Int) (b : Addr) (w : World) :
    Calls Tryz.prog 44 #[secE p b, .iface 169 (.pointer (some b))] w fun e w' => e = .returned (.bool true) ∧ Below w.heap.size w w' := by
  obtain ⟨i, hi, hcmp⟩ := Option.map_eq_some_iff.1 Tryz.isComp
  obtain ⟨j, hj, hjs⟩ := Option.map_eq_some_iff.1 Tryz.isSize
  obtain ⟨cx, hcx, cT⟩ := Tryz.cmpX
  have h8 := @run_callFunc_extern Tryz.prog 64 _ Extern.ReflectliteType.typeOf Tryz.func64 (by kernel_rfl) (by kernel_rfl) (by kernel_rfl) (by kernel_rfl)
  have h32 := @run_callFunc_extern Tryz.prog 138 _ cx Tryz.func138 (by kernel_rfl) (by kernel_rfl) (by kernel_rfl) hcx
  have tT := Tryz.isTypeOf
  have mR := Tryz.isMethodComparable
  have nW := Tryz.noIsW
  have uW := Tryz.hasUnwrapW
  have mU := Tryz.methodUnwrap
  have heq := fun W => run_eql_iface_ptr_same (P := Tryz.prog) W b Tryz.underlying50 Tryz.underlying169 hi hcmp hj
  have hty := fun W => run_eql_iface_types (P := Tryz.prog) 87 169 (.agg #[.int .i64 p, .iface 169 (.pointer (some b))]) (.pointer (some b)) Tryz.underlying50 (by decide) W
  have bl := below1 w (.cells #[.int .i64 p, .iface 169 (.pointer (some b))] 87)
  go_enter Tryz.func44, Tryz.ntmps44
  go_wp2
  refine wp_loop_rounds 2 ?_
  rw [rounds_succ]
  go_wp2
  rw [rounds_succ]
  go_wp2
  go_ret
  exact ⟨rfl, bl⟩
set_option maxHeartbeats 4000000 in
set_option maxRecDepth 100000 in
theorem is_sec_other (p : Int) (a b : Addr) (ca cb : Array Value) (ta tb : TypeId) (w : World) (hne : a ≠ b) (ha : w.heap[a.block]? = some (.cells ca ta (0, 0))) (hb : w.heap[b.block]? = some (.cells cb tb (0, 0))) :
    Calls Tryz.prog 44 #[secE p a, .iface 169 (.pointer (some b))] w fun e w' => e = .returned (.bool false) ∧ Below w.heap.size w w' := by
  obtain ⟨i, hi, hcmp⟩ := Option.map_eq_some_iff.1 Tryz.isComp
  obtain ⟨j, hj, hjs⟩ := Option.map_eq_some_iff.1 Tryz.isSize
  obtain ⟨cx, hcx, cT⟩ := Tryz.cmpX
  have h8 := @run_callFunc_extern Tryz.prog 64 _ Extern.ReflectliteType.typeOf Tryz.func64 (by kernel_rfl) (by kernel_rfl) (by kernel_rfl) (by kernel_rfl)
  have h32 := @run_callFunc_extern Tryz.prog 138 _ cx Tryz.func138 (by kernel_rfl) (by kernel_rfl) (by kernel_rfl) hcx
  have tT := Tryz.isTypeOf
  have mR := Tryz.isMethodComparable
  have nE := Tryz.noIsE
  have uE := Tryz.noUnwrapE
  have vE := Tryz.noUnwrapsE
  have nW := Tryz.noIsW
  have uW := Tryz.hasUnwrapW
  have mU := Tryz.methodUnwrap
  have bl := below1 w (.cells #[.int .i64 p, .iface 169 (.pointer (some a))] 87)
  have heq := run_eql_iface_ptr_other (P := Tryz.prog) (w.alloc (.cells #[.int .i64 p, .iface 169 (.pointer (some a))] 87)) Tryz.underlying50 Tryz.underlying169 hi hcmp hj (by rw [hjs]; decide) hne ((bl.block _ (Array.getElem?_eq_some_iff.1 ha).1).trans ha) ((bl.block _ (Array.getElem?_eq_some_iff.1 hb).1).trans hb)
  have hty := fun W => run_eql_iface_types (P := Tryz.prog) 87 169 (.agg #[.int .i64 p, .iface 169 (.pointer (some a))]) (.pointer (some b)) Tryz.underlying50 (by decide) W
  go_enter Tryz.func44, Tryz.ntmps44
  go_wp2
  refine wp_loop_rounds 2 ?_
  rw [rounds_succ]
  go_wp2
  rw [rounds_succ]
  go_wp2
  go_ret
  exact ⟨rfl, bl⟩
end Go.Proofs.YthchhkiijehjbaaGreatDoor
