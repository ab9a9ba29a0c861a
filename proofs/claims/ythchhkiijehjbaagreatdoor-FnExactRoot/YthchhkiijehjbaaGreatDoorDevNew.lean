/- The contracts of both NewDevice. -/
import Derived.Test.YthchhkiijehjbaaGreatDoorDevCp
import Derived.Test.YthchhkiijehjbaaGreatDoorDevOk
namespace Go.Proofs.YthchhkiijehjbaaGreatDoor
open Go.RowKit
/-- What a function leaves that tells a device in rows of its own, and a bool. -/
def DvRes (w : World) (ss : List ByteArray) (ps : List Pat) (ok : Bool) (e : Ending) (w' : World) : Prop := ∃ Y : DvX, e = .returned (.tuple #[.agg #[Y.vs, Y.vl], .bool ok]) ∧ Y.secs = ss ∧ Y.late = ps ∧ OwnDv w' w.heap.size Y ∧ Below w.heap.size w w'
theorem ownS_zero (w : World) (B : Nat) : OwnS w B (.slice none 0 0) [] := ⟨rfl, .inl ⟨rfl, rfl⟩⟩
theorem ownPt_zero (w : World) (B : Nat) : OwnPt w B (.slice none 0 0) [] := ⟨rfl, .inl ⟨rfl, rfl⟩⟩
theorem ownDv_zero (w : World) (B : Nat) : OwnDv w B ⟨.slice none 0 0, .slice none 0 0, [], []⟩ := ⟨ownS_zero w B, ownPt_zero w B⟩
def newS (n : Int) : List ByteArray := if 1 ≤ n ∧ n ≤ 16 then List.replicate n.toNat ⟨#[]⟩ else []
def newO (n : Int) : Bool := decide (1 ≤ n) && decide (n ≤ 16)
end Go.Proofs.YthchhkiijehjbaaGreatDoor
