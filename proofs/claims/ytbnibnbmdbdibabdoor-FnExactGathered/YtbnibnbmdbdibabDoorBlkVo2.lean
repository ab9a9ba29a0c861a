/- The contract of the model's Voted. -/
-- UNF Gen
import Derived.Test.YtbnibnbmdbdibabDoorBlkVot
namespace Go.Proofs.YtbnibnbmdbdibabDoor
open Go.RowKit
theorem l1InB_any (b : Bool) (n lo hi : Int) (h : decide (lo ≤ n ∧ n ≤ hi) = b) (w : World) :
    Calls Tryd.prog 27 #[.int .i64 n, .int .i64 lo, .int .i64 hi] w fun e w' => e = .returned (.bool b) ∧ w' = w := by
  rw [← h]
  refine (l1InT_any n lo hi w).mono ?_
  rintro e w1 ⟨rfl, rfl⟩
  exact ⟨ret_bool (by simp), rfl⟩
theorem l15NameB_any (b : Bool) (n : Int) (h : inN n = b) (w : World) :
    Calls Tryd.prog 28 #[.int .i64 n] w fun e w' => e = .returned (.bool b) ∧ w' = w := by rw [← h]; exact l15Name_any n w
theorem BoxV.load {W : World} {b : Nat} {x : Vot} (h : BoxV W b x) : W.cell? ⟨b, 0, none⟩ = some (.int .i64 x.vw) := h.facts.1
end Go.Proofs.YtbnibnbmdbdibabDoor
