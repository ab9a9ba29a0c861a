/- Plain facts: money moves and its total stays, a right bank stays right, and many moves are done as their parts one behind the other. -/
import Derived.Test.YtdleolgkbkoekaaDoorMovAll
import Derived.Test.YtdleolgkbkoekaaDoorBnkNew
namespace Go.Proofs.YtdleolgkbkoekaaDoor
open Go.RowKit
theorem sumTo_set (ns : List Int) (i : Nat) (x : Int) (hi : i < ns.length) : ∀ k, sumTo (ns.set i x) k = if i < k then sumTo ns k - nthI ns i + x else sumTo ns k
  | 0 => by simp [sumTo]
  | k + 1 => by
    unfold sumTo
    rw [sumTo_set ns i x hi k, nthI_set hi]
    by_cases h1 : i < k
    · rw [if_pos h1, if_neg (by omega), if_pos (by omega)]; omega
    · by_cases h2 : k = i
      · subst h2
        rw [if_neg h1, if_pos rfl, if_pos (by omega)]; omega
      · rw [if_neg h1, if_neg h2, if_neg (by omega)]
theorem nthI_le_sum {ns : List Int} (h : ∀ i, i < 8 → 0 ≤ nthI ns i) : ∀ k, k ≤ 8 → ∀ i, i < k → 0 ≤ sumTo ns k ∧ nthI ns i ≤ sumTo ns k
  | 0, _, i, hi => by omega
  | k + 1, hk, i, hi => by
    have h0 := h k (by omega)
    unfold sumTo
    by_cases e : i = k
    · subst e
      by_cases hz : i = 0
      · subst hz; simp [sumTo]; omega
      · have := nthI_le_sum h i (by omega) 0 (by omega)
        omega
    · have := nthI_le_sum h k (by omega) i (by omega)
      omega
theorem pay_ok {ms cs : List Int} {f t : Nat} {s : Int} (h : BankP ms cs) (hf : f < 8) (ht : t < 8) (hs : 1 ≤ s) (hsm : s ≤ nthI ms f) (hc : nthI cs f ≤ 999999) : BankP (payM ms f t s) (payC cs f) ∧ sumTo (payM ms f t s) 8 = sumTo ms 8 := by
  obtain ⟨⟨lm, hm⟩, ⟨lc, hcs⟩, hsum⟩ := h
  have lf : f < ms.length := by omega
  have l1 : (ms.set f (nthI ms f - s)).length = 8 := by rw [List.length_set]; exact lm
  have e1 : sumTo (payM ms f t s) 8 = sumTo ms 8 := by
    unfold payM
    rw [sumTo_set _ t _ (by omega) 8, if_pos ht, sumTo_set _ f _ lf 8, if_pos hf]
    omega
  have hnn : ∀ i, i < 8 → 0 ≤ nthI (payM ms f t s) i := by
    intro i hi
    unfold payM
    rw [nthI_set (by omega)]
    split
    · rename_i e
      rw [nthI_set lf]
      split
      · omega
      · have := (hm t ht).1; omega
    · rw [nthI_set lf]
      split
      · omega
      · exact (hm i hi).1
  refine ⟨⟨⟨by rw [payM_len]; exact lm, fun i hi => ⟨hnn i hi, ?_⟩⟩, ⟨by unfold payC; rw [List.length_set]; exact lc, fun i hi => ?_⟩, by rw [e1]; exact hsum⟩, e1⟩
  · have := (nthI_le_sum hnn 8 (Nat.le_refl _) i hi).2
    omega
  · unfold payC
    rw [nthI_set (by omega)]
    split
    · have := (hcs f hf).1; omega
    · exact hcs i hi
theorem mov_ok {ms cs : List Int} {m : Mov} (hb : BankP ms cs) (hm : MovP m) : BankP (movM ms cs m) (movC ms cs m) ∧ sumTo (movM ms cs m) 8 = sumTo ms 8 := by
  obtain ⟨f, t, hf, ht, he⟩ := mov_nat hm
  have hs1 := hm.2.2.1.1
  have hc1 := hm.2.2.2.2
  generalize m.sum = s at he hs1
  generalize m.cou = c at he hc1
  subst he
  by_cases h3 : c = nthI cs f
  · by_cases h4 : nthI ms f < s
    · obtain ⟨_, b, d⟩ := codR_three hb hm h3 h4
      rw [b, d]
      exact ⟨hb, rfl⟩
    · obtain ⟨_, b, d⟩ := codR_done hb hm h3 h4
      rw [b, d]
      exact pay_ok hb hf ht hs1 (by omega) (by omega)
  · obtain ⟨_, b, d⟩ := codR_two hb hm h3
    rw [b, d]
    exact ⟨hb, rfl⟩
theorem stp_ok {st : AS} {r : Mov × Bool} (hb : BankP st.mon st.cnt) (hr : r.2 = true → MovP r.1) : BankP (stp st r).mon (stp st r).cnt ∧ sumTo (stp st r).mon 8 = sumTo st.mon 8 := by
  unfold stp
  split
  · rename_i h
    exact mov_ok hb (hr h)
  · exact ⟨hb, rfl⟩
theorem runA_ok : ∀ {rs : List (Mov × Bool)} {st : AS}, BankP st.mon st.cnt → (∀ r ∈ rs, r.2 = true → MovP r.1) → BankP (runA st rs).mon (runA st rs).cnt ∧ sumTo (runA st rs).mon 8 = sumTo st.mon 8
  | [], _, hb, _ => ⟨hb, rfl⟩
  | r :: rs, st, hb, hr => by
    have h1 := stp_ok hb (hr r (List.mem_cons_self ..))
    have h2 := runA_ok (rs := rs) (st := stp st r) h1.1 (fun q hq => hr q (List.mem_cons_of_mem _ hq))
    exact ⟨h2.1, h2.2.trans h1.2⟩
theorem rmAll_ok {ss : List ByteArray} {rs : List (Mov × Bool)} (h : RmAll ss rs) : ∀ r ∈ rs, r.2 = true → MovP r.1 := by
  intro r hr ho
  obtain ⟨k, hk, e⟩ := List.mem_iff_getElem.1 hr
  have h1 := h.2 k (by rw [← h.1]; exact hk) hk
  rw [e, ho] at h1
  rcases h1 with ⟨_, h2, _⟩ | ⟨h2, _⟩
  · exact h2
  · cases h2
theorem allR_ok {ms cs : List Int} {ss : List ByteArray} {rs : List (Mov × Bool)} (hb : BankP ms cs) (h : RmAll ss rs) : BankP (allR ms cs rs).mon (allR ms cs rs).cnt ∧ sumTo (allR ms cs rs).mon 8 = sumTo ms 8 := by
  unfold allR
  rw [if_pos (bankOk_iff.2 hb)]
  exact runA_ok hb (rmAll_ok h)
theorem runA_cod : ∀ (rs : List (Mov × Bool)) (ms cs ks : List Int), runA ⟨ms, cs, ks⟩ rs = ⟨(runA ⟨ms, cs, []⟩ rs).mon, (runA ⟨ms, cs, []⟩ rs).cnt, ks ++ (runA ⟨ms, cs, []⟩ rs).cod⟩
  | [], _, _, ks => by show AS.mk _ _ ks = ⟨_, _, ks ++ []⟩; rw [List.append_nil]; rfl
  | r :: rs, ms, cs, ks => by
    show runA (stp ⟨ms, cs, ks⟩ r) rs = ⟨(runA (stp ⟨ms, cs, []⟩ r) rs).mon, (runA (stp ⟨ms, cs, []⟩ r) rs).cnt, ks ++ (runA (stp ⟨ms, cs, []⟩ r) rs).cod⟩
    unfold stp
    split
    · simp only
      rw [runA_cod rs _ _ (ks ++ _), runA_cod rs _ _ ([] ++ _)]
      simp
    · simp only
      rw [runA_cod rs _ _ (ks ++ _), runA_cod rs _ _ ([] ++ _)]
      simp
theorem allR_yes {ms cs : List Int} {rs : List (Mov × Bool)} (hb : BankP ms cs) : allR ms cs rs = runA ⟨ms, cs, []⟩ rs := by unfold allR; rw [if_pos (bankOk_iff.2 hb)]
/-- Many moves are done as their parts. -/
theorem allR_parts {ms cs : List Int} {ss : List ByteArray} {r1 r2 : List (Mov × Bool)} (hb : BankP ms cs) (h : RmAll ss r1) : allR ms cs (r1 ++ r2) = ⟨(allR (allR ms cs r1).mon (allR ms cs r1).cnt r2).mon, (allR (allR ms cs r1).mon (allR ms cs r1).cnt r2).cnt, (allR ms cs r1).cod ++ (allR (allR ms cs r1).mon (allR ms cs r1).cnt r2).cod⟩ := by
  have hb1 := (allR_ok hb h).1
  have e4 : runA ⟨ms, cs, []⟩ (r1 ++ r2) = runA (runA ⟨ms, cs, []⟩ r1) r2 := by unfold runA; rw [List.foldl_append]
  rw [allR_yes hb1, allR_yes (rs := r1 ++ r2) hb, e4, ← allR_yes (rs := r1) hb]
  generalize allR ms cs r1 = st
  obtain ⟨a, b, c⟩ := st
  exact runA_cod r2 a b c
theorem rmAll_take {ss : List ByteArray} {rs : List (Mov × Bool)} (h : RmAll ss rs) (n : Nat) : RmAll (ss.take n) (rs.take n) := by
  refine ⟨by rw [List.length_take, List.length_take, h.1], fun k hk hk' => ?_⟩
  rw [List.getElem_take, List.getElem_take]
  exact h.2 k _ _
theorem rmAll_drop {ss : List ByteArray} {rs : List (Mov × Bool)} (h : RmAll ss rs) (n : Nat) : RmAll (ss.drop n) (rs.drop n) := by
  refine ⟨by rw [List.length_drop, List.length_drop, h.1], fun k hk hk' => ?_⟩
  rw [List.getElem_drop, List.getElem_drop]
  exact h.2 _ _ _
theorem newB_ok : BankP newM newC := by decide
end Go.Proofs.YtdleolgkbkoekaaDoor
