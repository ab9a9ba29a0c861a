/- The votes that a proof is made of: plain. -/
import Derived.Test.YtckidhcknibceaaDoorPrfBase
namespace Go.Proofs.YtckidhcknibceaaDoor
def nI (l : List Int) (i : Nat) : Int := l.getD i 0
theorem nI_eq {l : List Int} {i : Nat} (h : i < l.length) : nI l i = l[i] := by simp [nI, h]
/-- The vote of a proof's server number i. -/
def vAt (p : Prf) (i : Nat) : Vot := ⟨p.vw, p.nm, nI p.sv i, nI p.tg i⟩
/-- Is it the first one? -/
def frsB (p : Prf) : Bool := decide (p.vw = 0) && (decide (p.nm = 0) && (decide (p.sv.length = 0) && decide (p.tg.length = 0)))
def votesL (p : Prf) : List Vot := (List.range p.sv.length).map (vAt p)
/-- The votes that a proof is made of: none where there are not as many tags, or more than 7. -/
def votesR (p : Prf) : List Vot := if p.sv.length = p.tg.length ∧ p.sv.length ≤ 7 then votesL p else []
theorem votesL_mem (p : Prf) (x : Vot) : x ∈ votesL p ↔ ∃ i, i < p.sv.length ∧ vAt p i = x := by
  unfold votesL
  simp only [List.mem_map, List.mem_range]
theorem votesL_hd {p : Prf} (h : 0 < p.sv.length) : nthVo (votesL p) 0 = vAt p 0 := by
  unfold votesL
  rw [nthVo_eq (by rw [List.length_map, List.length_range]; exact h)]
  simp
theorem votesL_len (p : Prf) : (votesL p).length = p.sv.length := by unfold votesL; simp
end Go.Proofs.YtckidhcknibceaaDoor
