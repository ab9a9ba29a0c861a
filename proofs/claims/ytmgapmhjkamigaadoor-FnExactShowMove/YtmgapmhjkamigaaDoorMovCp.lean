/- The contracts of the laws' own helpers over moves: copied, alike. -/
-- UNF Gen
import Derived.Test.YtmgapmhjkamigaaDoorBnkBase
namespace Go.Proofs.YtmgapmhjkamigaaDoor
open Go.RowKit
/-- A move's box. -/
def BoxMo (w : World) (b : Nat) (t : TypeId) (a c d e : Value) : Prop := w.heap[b]? = some (.cells #[a, c, d, e] t (0, 0))
theorem BoxMo.lt {w : World} {b t : Nat} {u0 u1 u2 u3 : Value} (h : BoxMo w b t u0 u1 u2 u3) : b < w.heap.size := (Array.getElem?_eq_some_iff.1 h).1
theorem BoxMo.of_block {w w' : World} {b t : Nat} {u0 u1 u2 u3 : Value} (h : BoxMo w b t u0 u1 u2 u3) (hb : w'.heap[b]? = w.heap[b]?) : BoxMo w' b t u0 u1 u2 u3 := hb.trans h
theorem BoxMo.below {w w' : World} {b t : Nat} {u0 u1 u2 u3 : Value} (h : BoxMo w b t u0 u1 u2 u3) (hb : Below w.heap.size w w') : BoxMo w' b t u0 u1 u2 u3 := h.of_block (hb.block b h.lt)
theorem BoxMo.facts {w : World} {b t : Nat} {u0 u1 u2 u3 : Value} (h : BoxMo w b t u0 u1 u2 u3) : w.cell? ⟨b, 0, none⟩ = some u0 ∧ w.cell? ⟨b, 1, none⟩ = some u1 ∧ w.cell? ⟨b, 2, none⟩ = some u2 ∧ w.cell? ⟨b, 3, none⟩ = some u3 := by
  unfold BoxMo at h
  refine ⟨?_, ?_, ?_, ?_⟩ <;> simp [World.cell?, h]
theorem boxMo_new (w : World) (t : TypeId) (u0 u1 u2 u3 : Value) : BoxMo (w.alloc (.cells #[u0, u1, u2, u3] t)) w.heap.size t u0 u1 u2 u3 := heap_alloc_new w _
set_option maxHeartbeats 4000000 in
set_option maxRecDepth 100000 in
theorem toMove_any (m : Mov) (w : World) :
    Calls Tryd.prog 30 #[.agg #[.int .i64 m.fr, .int .i64 m.to', .int .i64 m.sum, .int .i64 m.cou]] w fun e w' => e = .returned (.agg #[.int .i64 m.fr, .int .i64 m.to', .int .i64 m.sum, .int .i64 m.cou]) ∧ Below w.heap.size w w' := by
  obtain ⟨a, b, s, c⟩ := m
  simp only
  have bz : ∀ x y z, Below w.heap.size w (((w.alloc x).alloc y).alloc z) := fun x y z => ((below1 w x).alloc (by simp) y).alloc (by simp; omega) z
  go_enter Tryd.func30, Tryd.ntmps30
  go_wp2
  exact bodyPost_ret (v := .agg #[.int .i64 a, .int .i64 b, .int .i64 s, .int .i64 c]) (by simp [results, Tryd.results30, go_sem]) rfl ⟨rfl, bz _ _ _⟩
end Go.Proofs.YtmgapmhjkamigaaDoor
