/- The contract of the program's comparison of two entries. -/
import Derived.Test.YthaobdknpgnapaaEntOrd
import Derived.Deep.RegionHeld3
namespace Go.Proofs.Ythaobdknpgnapaa
open Go.RowKit
theorem or_at (x y z : Int) (b : Nat) (w : World) (hz : z = if x ≠ 0 then x else y) (h0 : w.cell? ⟨b, 0, none⟩ = some (.int .i64 x)) (h1 : w.cell? ⟨b, 1, none⟩ = some (.int .i64 y)) (bx : -1 ≤ x ∧ x ≤ 1) (hy1 : -1 ≤ y ∧ y ≤ 1) :
    Calls Try.prog 86 #[.slice (some ⟨b, 0, none⟩) 2 2] w fun e w' => e = .returned (.int .i64 z) ∧ w' = w := by
  subst hz; exact or_any x y b w h0 h1 bx hy1
set_option maxHeartbeats 1000000 in
set_option maxRecDepth 100000 in
theorem entryOrder_any (a b : Ent) (w : World) :
    Calls Try.prog 53 #[.agg #[.string a.key, .string a.val, .int .i64 a.seq, .bool a.gone], .agg #[.string b.key, .string b.val, .int .i64 b.seq, .bool b.gone]] w fun e w' => e = .returned (.int .i64 (ordE a b)) ∧ Below w.heap.size w w' := by
  have bx := cmpK_bd a.key b.key
  have hy1 := cmpI_bd b.seq a.seq
  have hz : Hid (ordE a b = if cmpK a.key b.key ≠ 0 then cmpK a.key b.key else cmpI b.seq a.seq) := rfl
  go_enter Try.func53, Try.ntmps53
  go_wp2
  go_region_held3 (fun w' => w'.cell? ⟨w.heap.size, 0, none⟩ = some (.string a.key) ∧ w'.cell? ⟨w.heap.size + 1, 0, none⟩ = some (.string b.key) ∧ w'.cell? ⟨w.heap.size, 2, none⟩ = some (.int .i64 a.seq) ∧ w'.cell? ⟨w.heap.size + 1, 2, none⟩ = some (.int .i64 b.seq)) (go_keep)
    (first
      | (go_at_call 87; refine (cmpStr_any _ _ _).mono ?_; rintro e w' ⟨rfl, rfl⟩)
      | (go_at_call 88; refine (cmpInt_any _ _ _).mono ?_; rintro e w' ⟨rfl, rfl⟩)
      | (go_at_call 86; refine (or_at (cmpK a.key b.key) (cmpI b.seq a.seq) (ordE a b) _ _ hz.out (by simp [World.cell?_alloc_at]) (by simp [World.cell?_alloc_at]) bx hy1).mono ?_; rintro e w' ⟨rfl, rfl⟩))
  all_goals go_wp2
  all_goals go_ret
  all_goals exact ⟨rfl, ((below2 _ _ _).alloc (by simp; omega) _).drew⟩
end Go.Proofs.Ythaobdknpgnapaa
