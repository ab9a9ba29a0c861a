/- The contracts of both ReadTexts over any slice of bytes that can be read. -/
import Derived.Test.YthkckgjcecommaaImplMany
namespace Go.Proofs.Ythkckgjcecommaa
open Go.RowKit
/-- What a ReadTexts leaves: the texts, in memory of its own, and whether there are any. -/
def TextsPost (w : World) (F : List ByteArray × Bool) (e : Ending) (w' : World) : Prop :=
  ∃ u, e = .returned (.tuple #[u, .bool F.2]) ∧ OwnS w' w.heap.size u F.1 ∧ Below w.heap.size w w'
theorem textsPost_no {w wr : World} {B : Nat} {F : List ByteArray × Bool} {u : Value} (h : F = ([], false)) (ho : OwnS wr B u []) (hB : w.heap.size ≤ B) (hb : Below w.heap.size w wr) : TextsPost w F (.returned (.tuple #[u, .bool false])) wr := by
  subst h
  exact ⟨u, rfl, ho.mono hB, hb⟩
theorem textsPost_yes {w wr : World} {B : Nat} {F : List ByteArray × Bool} {u : Value} {ss : List ByteArray} (h : F = (ss, true)) (ho : OwnS wr B u ss) (hB : w.heap.size ≤ B) (hb : Below w.heap.size w wr) : TextsPost w F (.returned (.tuple #[u, .bool true])) wr := by
  subst h
  exact ⟨u, rfl, ho.mono hB, hb⟩
theorem rdAcc_pos (bs : List UInt8) : ∀ (m p : Nat) (acc : List ByteArray) (r : List ByteArray × Nat), rdAcc bs m p acc = some r → p ≤ bs.length → p ≤ r.2 ∧ r.2 ≤ bs.length := by
  intro m
  induction m with
  | zero => intro p acc r h hp; rw [rdAcc] at h; cases h; exact ⟨Nat.le_refl _, hp⟩
  | succ m ih =>
    intro p acc r h hp
    rw [rdAcc] at h
    split at h
    · cases h
    · have hd := rdText_drop bs p
      have := ih _ _ r h (by omega)
      omega
theorem rdAll_pos (bs : List UInt8) (r : List ByteArray × Nat) (h : rdAll bs = some r) : 0 < r.2 ∧ r.2 ≤ bs.length := by
  have hl := rdNum_len bs
  unfold rdAll at h
  split at h
  · cases h
  · have := rdAcc_pos bs _ _ _ r h (by omega)
    omega

set_option maxHeartbeats 1000000 in
set_option maxRecDepth 100000 in
theorem specReadTexts_any (v : Value) (bs : List UInt8) (w : World) (hr : Rd w v bs) :
    Calls Try.prog 21 #[v] w fun e w' => TextsPost w (fin bs (rdAll bs)) e w' := by
  have HC : Hid (Calls Try.prog 33 #[v] w fun e w' => ManyPost w (rdAll bs) e w') := l1ReadTexts_any v bs w hr
  have hpos := rdAll_pos bs
  obtain ⟨a, cap, hv, hl, hm, _⟩ := hr
  unfold maxLen at hm
  subst hv
  obtain ⟨F, hF⟩ : ∃ F, F = fin bs (rdAll bs) := ⟨_, rfl⟩
  rw [← hF]
  generalize rdAll bs = res at HC hpos hF
  cases res with
  | none =>
    have HF : Hid (F = ([], false)) := hF
    clear hF hpos
    go_enter Try.func21, Try.ntmps21
    go_wp2_with fail
    refine HC.out.mono ?_
    rintro e w1 ⟨u, rfl, ho, hb⟩
    have hs := hb.size
    simp only [Option.elim]
    clear HC
    go_wp2
    go_ret2
    exact textsPost_no HF.out (ownS_none _) hs (hb.alloc hs _)
  | some r =>
    obtain ⟨ss, p⟩ := r
    have hp := hpos _ rfl
    simp only at hp
    have hp0 : ((p : Int) == 0) = false := by simp; omega
    by_cases hpl : p = bs.length
    · have HF : Hid (F = (ss, true)) := by show _ = _; rw [hF]; simp [fin, hpl]
      clear hF hpos
      have hpe : ((p : Int) != (bs.length : Int)) = false := by simp; omega
      clear hpl
      go_enter Try.func21, Try.ntmps21
      go_wp2_with fail
      refine HC.out.mono ?_
      rintro e w1 ⟨u, rfl, ho, hb⟩
      simp only [Option.elim] at ho ⊢
      clear HC
      go_wp2
      go_ret2
      exact textsPost_yes HF.out ho (Nat.le_refl _) hb
    · have HF : Hid (F = ([], false)) := by show _ = _; rw [hF]; simp [fin, hpl]
      clear hF hpos
      have hpe : ((p : Int) != (bs.length : Int)) = true := by simp; omega
      clear hpl
      go_enter Try.func21, Try.ntmps21
      go_wp2_with fail
      refine HC.out.mono ?_
      rintro e w1 ⟨u, rfl, ho, hb⟩
      have hs := hb.size
      simp only [Option.elim] at ho ⊢
      clear HC
      go_wp2
      go_ret2
      exact textsPost_no HF.out (ownS_none _) hs (hb.alloc hs _)

set_option maxHeartbeats 1000000 in
set_option maxRecDepth 100000 in
theorem implReadTexts_any (v : Value) (bs : List UInt8) (w : World) (hr : Rd w v bs) :
    Calls Try.prog 22 #[v] w fun e w' => TextsPost w (fin bs (rdAll bs)) e w' := by
  have HM : Hid (Calls Try.prog 34 _ _ fun e w' => ManyI w _ _ v bs (rdAll bs) e w') := readMany_any w _ w.heap.size v bs (cur_new hr)
  have hpos := rdAll_pos bs
  obtain ⟨a, cap, hv, hl, hm, _⟩ := hr
  unfold maxLen at hm
  subst hv
  obtain ⟨F, hF⟩ : ∃ F, F = fin bs (rdAll bs) := ⟨_, rfl⟩
  rw [← hF]
  generalize rdAll bs = res at HM hpos hF
  cases res with
  | none =>
    have HF : Hid (F = ([], false)) := hF
    clear hF hpos
    go_enter Try.func22, Try.ntmps22
    go_wp2_with fail
    refine HM.out.mono ?_
    rintro e w1 ⟨u, p', rfl, ho, hc, _⟩
    simp only [Option.isSome]
    have hb := hc.bel
    have hs := hb.size
    clear HM
    go_wp2
    go_ret2
    exact textsPost_no HF.out (ownS_none _) hs (hb.alloc hs _)
  | some r =>
    obtain ⟨ss, p⟩ := r
    have hp := hpos _ rfl
    simp only at hp
    by_cases hpl : p = bs.length
    · have HF : Hid (F = (ss, true)) := by show _ = _; rw [hF]; simp [fin, hpl]
      clear hF hpos
      have hpe : ¬ 0 < (bs.length : Int) - (p : Int) := by omega
      clear hpl
      go_enter Try.func22, Try.ntmps22
      go_wp2_with fail
      refine HM.out.mono ?_
      rintro e w1 ⟨u, p', rfl, ho, hc, hpp⟩
      have hpp' : p' = p := hpp _ rfl
      subst hpp'
      simp only [Option.isSome, Option.elim] at ho ⊢
      clear HM hpp
      go_wp2_with fail
      refine (left_any w _ _ _ bs _ hc).mono ?_
      rintro e w2 ⟨rfl, q2, rfl⟩
      go_wp2
      go_ret2
      exact textsPost_yes HF.out (ho.drewN q2) (by simp) (below_drewN hc.bel q2)
    · have HF : Hid (F = ([], false)) := by show _ = _; rw [hF]; simp [fin, hpl]
      clear hF hpos
      have hpe : 0 < (bs.length : Int) - (p : Int) := by omega
      clear hpl
      go_enter Try.func22, Try.ntmps22
      go_wp2_with fail
      refine HM.out.mono ?_
      rintro e w1 ⟨u, p', rfl, ho, hc, hpp⟩
      have hpp' : p' = p := hpp _ rfl
      subst hpp'
      simp only [Option.isSome, Option.elim] at ho ⊢
      clear HM hpp
      go_wp2_with fail
      refine (left_any w _ _ _ bs _ hc).mono ?_
      rintro e w2 ⟨rfl, q2, rfl⟩
      have hb := below_drewN hc.bel q2
      have hs := hc.bel.size
      go_wp2
      go_ret2
      exact textsPost_no HF.out (ownS_none _) (by simpa using hs) (hb.alloc (by simpa using hs) _)
end Go.Proofs.Ythkckgjcecommaa
