/- The model's Parted: where two values lead at one place to one number. -/
import Derived.Test.YtmfopbkhlekhkaaDoorTriLad
namespace Go.Proofs.YtmfopbkhlekhkaaDoor
open Go.RowKit
/-- The four numbers at step k. -/
def fourL (A : Nat) (v : Int) (ws : List Int) (o : Int) (us : List Int) (k : Nat) : List Int := [lpa A v ws k, lpb A v ws k, lpa A o us k, lpb A o us k]
/-- What is found as far as step k: the first like numbers' parts. -/
def fndL (A : Nat) (v : Int) (ws : List Int) (o : Int) (us : List Int) : Nat → List Int
  | 0 => if rnL A v ws 0 = rnL A o us 0 then fourL A v ws o us 0 else []
  | k + 1 => if fndL A v ws o us k = [] then (if rnL A v ws (k + 1) = rnL A o us (k + 1) then fourL A v ws o us (k + 1) else []) else fndL A v ws o us k
theorem fndL_len (A : Nat) (v : Int) (ws : List Int) (o : Int) (us : List Int) : ∀ k, (fndL A v ws o us k).length ≤ 4
  | 0 => by unfold fndL; split <;> simp [fourL]
  | k + 1 => by
    have := fndL_len A v ws o us k
    unfold fndL
    split
    · split <;> simp [fourL]
    · exact this
theorem fndL_some (A : Nat) (v : Int) (ws : List Int) (o : Int) (us : List Int) : ∀ k, rnL A v ws k = rnL A o us k → fndL A v ws o us k ≠ []
  | 0, h => by unfold fndL; rw [if_pos h]; simp [fourL]
  | k + 1, h => by
    unfold fndL
    split
    · simp [fourL]
    · assumption
/-- Is everything as told, and do both lead to one number? -/
def ptdB (p v : Int) (ws : List Int) (o : Int) (us : List Int) : Bool := tldB p v ws.length && tldB p o us.length && decide (v ≠ o) && decide (rnL p.toNat v ws 8 = rnL p.toNat o us 8)
def ptdR (p v : Int) (ws : List Int) (o : Int) (us : List Int) : List Int := if ptdB p v ws o us = true then fndL p.toNat v ws o us 8 else []
theorem ptdR_len (p v : Int) (ws : List Int) (o : Int) (us : List Int) : (ptdR p v ws o us).length ≤ 4 := by
  unfold ptdR
  split
  · exact fndL_len _ _ _ _ _ _
  · simp
set_option maxHeartbeats 400000 in
set_option maxRecDepth 100000 in
theorem l12Leaf_any (A : Nat) (v : Int) (ws : List Int) (w : World) (hv : v = -1 ∨ 0 ≤ v) :
    Calls Tryd.prog 61 #[.int .i64 (A : Int), .int .i64 v] w fun e w' => e = .returned (.tuple #[.int .i64 (lpa A v ws 0), .int .i64 (lpb A v ws 0)]) ∧ w' = w := by
  by_cases h : v = -1
  · have ea : lpa A v ws 0 = 0 := by show (if v = -1 then _ else _) = _; rw [if_pos h]
    have eb : lpb A v ws 0 = -1 := by show (if v = -1 then _ else _) = _; rw [if_pos h]
    rw [ea, eb]
    have hl : v < 0 := by omega
    clear ea eb h hv
    go_enter Tryd.func61, Tryd.ntmps61
    go_wp2
    go_ret2
    exact ⟨rfl, rfl⟩
  · have ea : lpa A v ws 0 = (A : Int) := by show (if v = -1 then _ else _) = _; rw [if_neg h]
    have eb : lpb A v ws 0 = v := by show (if v = -1 then _ else _) = _; rw [if_neg h]
    rw [ea, eb]
    have hl : ¬ v < 0 := by omega
    clear ea eb h hv
    go_enter Tryd.func61, Tryd.ntmps61
    go_wp2
    go_ret2
    exact ⟨rfl, rfl⟩
theorem ownI_four (w : World) (a b c d : Int) : OwnI (w.alloc (.cells #[.int .i64 a, .int .i64 b, .int .i64 c, .int .i64 d] 2)) w.heap.size (.slice (some ⟨w.heap.size, 0, none⟩) 4 4) [a, b, c, d] := World.ownsRow_lit w #[.int .i64 a, .int .i64 b, .int .i64 c, .int .i64 d] 4 (Nat.le_refl _) (by unfold maxLen; omega) rfl
theorem fnd_stay {A : Nat} {v : Int} {ws : List Int} {o : Int} {us : List Int} {k : Nat} (h : fndL A v ws o us k ≠ []) : fndL A v ws o us (k + 1) = fndL A v ws o us k := by
  show (if fndL A v ws o us k = [] then _ else _) = _
  rw [if_neg h]
theorem fnd_new {A : Nat} {v : Int} {ws : List Int} {o : Int} {us : List Int} {k : Nat} (h : fndL A v ws o us k = []) (e : rnL A v ws (k + 1) = rnL A o us (k + 1)) : fndL A v ws o us (k + 1) = fourL A v ws o us (k + 1) := by
  show (if fndL A v ws o us k = [] then (if _ then _ else _) else _) = _
  rw [if_pos h, if_pos e]
theorem fnd_no {A : Nat} {v : Int} {ws : List Int} {o : Int} {us : List Int} {k : Nat} (h : fndL A v ws o us k = []) (e : ¬ rnL A v ws (k + 1) = rnL A o us (k + 1)) : fndL A v ws o us (k + 1) = [] := by
  show (if fndL A v ws o us k = [] then (if _ then _ else _) else _) = _
  rw [if_pos h, if_neg e]
theorem lp_two (A : Nat) (v : Int) (ws : List Int) (k B : Nat) (hB : B = A / 2 ^ k) : (if B % 2 = 0 then rnL A v ws k else ws.getD k 0) = lpa A v ws (k + 1) ∧ (if B % 2 = 0 then ws.getD k 0 else rnL A v ws k) = lpb A v ws (k + 1) := by
  subst hB
  exact ⟨rfl, rfl⟩
def PtdPost (w : World) (p v : Int) (ws : List Int) (o : Int) (us : List Int) (e : Ending) (w' : World) : Prop := ∃ u, e = .returned (.tuple #[u, .bool (ptdB p v ws o us)]) ∧ OwnI w' w.heap.size u (ptdR p v ws o us) ∧ Below w.heap.size w w'
end Go.Proofs.YtmfopbkhlekhkaaDoor
