/- Plain facts on devices that FnDevices asks for. -/
import Derived.Test.YtgmjoejoehhekaaDevDraw
import Derived.Test.YtgmjoejoehhekaaDevBar
namespace Go.Proofs.Ytgmjoejoehhekaa
open Go.RowKit
/-- What is cut is as it was or as it was laid. -/
theorem cut_at {s : List ByteArray} {l : List Pat} {kp : Nat → Bool} {i : Nat} (hi : i < s.length) : ∀ k, (∀ j, j < k → 0 ≤ (nthP l j).pos) → ∀ h, (cutTo s l kp k)[i]'h = s[i] ∨ ∃ j, j < k ∧ (nthP l j).pos = (i : Int) ∧ (nthP l j).text = (cutTo s l kp k)[i]'h
  | 0, _, _ => .inl rfl
  | k + 1, hp, h => by
    have ih := cut_at (kp := kp) hi k (fun j hj => hp j (by omega)) (by rw [cutTo_len]; exact hi)
    have h0 := hp k (by omega)
    by_cases hk : kp k = true
    · have e : cutTo s l kp (k + 1) = (cutTo s l kp k).set (nthP l k).pos.toNat (nthP l k).text := by
        conv => lhs; unfold cutTo
        rw [if_pos hk]
      simp only [e]
      by_cases hq : (nthP l k).pos.toNat = i
      · refine .inr ⟨k, by omega, by omega, ?_⟩
        simp [hq]
      · rw [List.getElem_set_ne hq]
        rcases ih with ih | ⟨j, hj, h1, h2⟩
        · exact .inl ih
        · exact .inr ⟨j, by omega, h1, h2⟩
    · have e : cutTo s l kp (k + 1) = cutTo s l kp k := by
        conv => lhs; unfold cutTo
        rw [if_neg hk]
      simp only [e]
      rcases ih with ih | ⟨j, hj, h1, h2⟩
      · exact .inl ih
      · exact .inr ⟨j, by omega, h1, h2⟩
theorem lies_none {R : List ByteArray} {i : Nat} (h1 : devOk R [] = true) (hl : i < R.length) : liesL R [] (i : Int) = R[i] := by
  unfold liesL
  rw [h1, decide_eq_true (show (0 : Int) ≤ (i : Int) by omega), decide_eq_true (show (i : Int) < (R.length : Int) by omega)]
  simp only [Bool.and_self, if_true, List.length_nil]
  unfold liesTo
  simp [List.getD, List.getElem?_eq_getElem hl]
/-- Behind a barrier the same lies there. -/
theorem lies_bar {s : List ByteArray} {l : List Pat} {i : Nat} (h : devOk s l = true) (hi : i < s.length) : liesL (cutL s l (fun _ => true)) [] (i : Int) = liesL s l (i : Int) := by
  obtain ⟨h1, h2⟩ := dev_cut (fun _ => true) h
  have hl : i < (cutL s l (fun _ => true)).length := by rw [h2]; exact hi
  rw [(lies_of (s := s) (l := l) (p := (i : Int)) (R := cutL s l (fun _ => true)) rfl).2 i hl rfl]
  exact lies_none h1 hl
/-- A cut of what has nothing late leaves it. -/
theorem cut_none {s : List ByteArray} {kp : Nat → Bool} (h : devOk s [] = true) : cutL s [] kp = s := by
  rw [cutL_yes h]
  rfl
/-- What was laid last lies there. -/
theorem lies_lay {s : List ByteArray} {l : List Pat} {p : Int} {t : ByteArray} (h : layO s l p t = true) : liesL (layS s l) (layL s l p t) p = t := by
  have ho := h
  simp only [layO, Bool.and_eq_true, decide_eq_true_eq] at ho
  have hd := ho.1.1
  have hp := pOk_iff.1 ho.1.2
  have hs : layS s l = s := by unfold layS; rw [hd]; rfl
  have hl : layL s l p t = l ++ [⟨p, t⟩] := by unfold layL; rw [hd, if_pos rfl, if_pos h]
  have h1 := (dev_lay (p := p) (t := t) hd).1
  rw [hs, hl] at h1
  rw [hs, hl]
  simp only at hp
  unfold liesL
  rw [h1, decide_eq_true hp.1, decide_eq_true hp.2.1]
  simp only [Bool.and_self, if_true, List.length_append, List.length_singleton]
  unfold liesTo
  have e : nthP (l ++ [(⟨p, t⟩ : Pat)]) l.length = ⟨p, t⟩ := by rw [nthP_eq (by simp)]; simp
  rw [e]
  simp
end Go.Proofs.Ytgmjoejoehhekaa
