/- A look into a map without an entry, its keys of two numbers. -/
-- UNF Gen
import Derived.Test.YtilhaokiohbeeabGreatDoorNrpBase
import Derived.Carry
import Derived.Deep.RegionHeld3
namespace Go.Proofs.YtilhaokiohbeeabGreatDoor
open Go.RowKit
set_option maxRecDepth 100000 in
theorem check_key (w : World) : (Instr.checkKey true 10000 221 (.agg #[.int .i64 0, .int .i64 0])).run Tryz.prog w = .ok () w := by
  first
  | kernel_rfl
  | (have hu : Tryz.prog.underlying 221 = some _ := Tryz.underlying221
     have hi : Tryz.prog.underlying 2 = some _ := Tryz.underlying2
     simp [Instr.checkKey, run_underlying hu, Result.andThen]
     trace_state)
set_option maxRecDepth 100000 in
theorem zero_block (w : World) : (zeroValue 54).run Tryz.prog w = .ok (.agg #[.int .i64 0, .int .i64 0, .int .i64 0, .int .i64 0, .slice none 0 0, .slice none 0 0, .slice none 0 0, .int .i64 0]) w := by
  first
  | kernel_rfl
  | (simp [zeroValue, typeInfo]
     trace_state)
set_option maxRecDepth 100000 in
theorem look_empty (w : World) (r c : Nat) (hm : w.heap[r]? = some (.map #[] c)) :
    (Instr.lookup 145 (.map (some r)) (.agg #[.int .i64 0, .int .i64 0]) true).run Tryz.prog w = .ok (.tuple #[(.agg #[.int .i64 0, .int .i64 0, .int .i64 0, .int .i64 0, .slice none 0 0, .slice none 0 0, .slice none 0 0, .int .i64 0]), .bool false]) w := by
  have hu : Tryz.prog.underlying 145 = some (.map 221 54) := by kernel_rfl
  have hd : Tryz.prog.underlying 221 = some _ := Tryz.underlying221
  have hc := check_key w
  have hz := zero_block w
  have hk := MapKept.run_findKey (w := w) (k := .agg #[.int .i64 0, .int .i64 0]) (l := []) (a := none) hd rfl
  simp [Instr.lookup, run_underlying hu, MapKept.run_getObj_map hm, hc, hk, hz, Result.andThen]
theorem listed_asN {P : Program} {md : Region.Mode} {ops : Array Oper} {Q : Exit → Act → World → Prop} {S : World → Prop} {fuel : Nat} {l l' : Array Bool} {a : Act} {w : World} (hl : l = l') (h : wpAnyH P md ops Q S fuel l' a w) : wpAnyH P md ops Q S fuel l a w := by subst hl; exact h
end Go.Proofs.YtilhaokiohbeeabGreatDoor
