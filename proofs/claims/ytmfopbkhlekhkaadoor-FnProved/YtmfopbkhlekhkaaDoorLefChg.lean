/- Plain facts: what is set is there and nothing else is another, what is set back is as it was, and a place holds with what it has. -/
import Derived.Test.YtmfopbkhlekhkaaDoorTriWay
import Derived.Test.YtmfopbkhlekhkaaDoorTriHold
namespace Go.Proofs.YtmfopbkhlekhkaaDoor
open Go.RowKit
/-- Right Leafs: each is right, and their places rise. -/
theorem lefOk_pair {es : List Lef} : LefOk es ↔ (∀ x ∈ es, LefIn x) ∧ es.Pairwise (fun a b => a.pl < b.pl) := by
  constructor
  · intro h
    refine ⟨fun x hx => ?_, ?_⟩
    · obtain ⟨i, hi, rfl⟩ := nthL_mem hx
      exact (h i hi).1
    · rw [List.pairwise_iff_getElem]
      intro i j hi hj hij
      have := lef_lt h hij hj
      rwa [nthL_eq hi, nthL_eq hj] at this
  · rintro ⟨h1, h2⟩ i hi
    refine ⟨h1 _ (nthL_in hi), fun h0 => ?_⟩
    rw [List.pairwise_iff_getElem] at h2
    have := h2 (i - 1) i (by omega) hi (by omega)
    rwa [nthL_eq (by omega), nthL_eq hi]
theorem take_lo {es : List Lef} {p : Int} {x : Lef} (h : x ∈ es.take (atL es p)) : x.pl < p := by
  obtain ⟨i, hi, rfl⟩ := nthL_mem h
  rw [List.length_take] at hi
  rw [nthL_take (by omega)]
  exact atL_lo es p (by omega)
theorem drop_hi {es : List Lef} (ho : LefOk es) {p : Int} {x : Lef} (h : x ∈ es.drop (atL es p + hasN es p)) : p < x.pl := by
  obtain ⟨i, hi, rfl⟩ := nthL_mem h
  rw [List.length_drop] at hi
  rw [nthL_drop]
  exact atL_more ho p (by omega) (by omega)
theorem mid_pl {p v : Int} {x : Lef} (h : x ∈ midL p v) : x.pl = p ∧ x.va = v := by
  unfold midL at h
  split at h
  · cases h
  · rw [List.mem_singleton.1 h]; exact ⟨rfl, rfl⟩
theorem setOk_iff {es : List Lef} {p v : Int} : setOk es p v = true ↔ LefOk es ∧ (0 ≤ p ∧ p ≤ 255) ∧ (v = -1 ∨ (0 ≤ v ∧ v ≤ 1000000000)) := by
  unfold setOk
  simp only [Bool.and_eq_true, decide_eq_true_eq, lefOk_iff, and_assoc]
theorem putC_ok {es : List Lef} {p v : Int} (h : setOk es p v = true) : LefOk (putLf es p v) := by
  obtain ⟨ho, hp, hv⟩ := setOk_iff.1 h
  obtain ⟨h1, h2⟩ := lefOk_pair.1 ho
  have hmid : ∀ x ∈ midL p v, LefIn x := fun x hx => by
    obtain ⟨e1, e2⟩ := mid_pl hx
    unfold midL at hx
    split at hx
    · cases hx
    · unfold LefIn
      omega
  refine lefOk_pair.2 ⟨fun x hx => ?_, ?_⟩
  · unfold putLf at hx
    rcases List.mem_append.1 hx with hx | hx
    · rcases List.mem_append.1 hx with hx | hx
      · exact h1 x (List.mem_of_mem_take hx)
      · exact hmid x hx
    · exact h1 x (List.mem_of_mem_drop hx)
  · unfold putLf
    rw [List.pairwise_append, List.pairwise_append]
    refine ⟨⟨h2.sublist (List.take_sublist _ _), ?_, fun a ha b hb => ?_⟩, h2.sublist (List.drop_sublist _ _), fun a ha b hb => ?_⟩
    · unfold midL; split <;> simp
    · have := take_lo ha; have := (mid_pl hb).1; omega
    · have := drop_hi ho hb
      rcases List.mem_append.1 ha with ha | ha
      · have := take_lo ha; omega
      · have := (mid_pl ha).1; omega
theorem valL_skip (a m b : List Lef) (j : Int) (h : ∀ x ∈ m, x.pl ≠ j) : valL (a ++ m ++ b) j = valL (a ++ b) j := by
  have e : m.find? (fun x => decide (x.pl = j)) = none := List.find?_eq_none.2 (fun x hx => by simpa using h x hx)
  unfold valL
  rw [List.find?_append, List.find?_append, List.find?_append, e, Option.or_none]
/-- The Leafs in three pieces. -/
theorem three_of (es : List Lef) (p : Int) : es = es.take (atL es p) ++ (es.drop (atL es p)).take (hasN es p) ++ es.drop (atL es p + hasN es p) := by
  rw [List.append_assoc, ← List.drop_drop, List.take_append_drop, List.take_append_drop]
theorem mid_old {es : List Lef} {p : Int} {x : Lef} (h : x ∈ (es.drop (atL es p)).take (hasN es p)) : x.pl = p := by
  unfold hasN at h
  split at h
  · rename_i hh
    obtain ⟨h1, h2⟩ := hasL_lt hh
    have h3 : x ∈ [es[atL es p]] := by
      rw [List.drop_eq_getElem_cons h1, List.take_succ_cons, List.take_zero] at h
      exact h
    rw [List.mem_singleton.1 h3, ← nthL_eq h1]
    exact h2
  · simp at h
theorem val_put {es : List Lef} {p v : Int} (h : setOk es p v = true) (j : Int) : valL (putLf es p v) j = if j = p then v else valL es j := by
  obtain ⟨ho, hp, hv⟩ := setOk_iff.1 h
  by_cases hj : j = p
  · subst hj
    rw [if_pos rfl]
    unfold putLf
    rw [List.append_assoc, valL_app _ _ _ (fun x hx => by have := take_lo hx; omega)]
    unfold midL
    split
    · rename_i e
      rw [List.nil_append, valL_none (fun x hx => by have := drop_hi ho hx; omega)]
      exact e.symm
    · unfold valL; simp
  · rw [if_neg hj]
    unfold putLf
    rw [valL_skip _ _ _ _ (fun x hx => by have := (mid_pl hx).1; omega)]
    conv => rhs; rw [three_of es p]
    rw [valL_skip _ _ _ _ (fun x hx => by have := mid_old hx; omega)]
theorem atL_split {p : Int} : ∀ (a c : List Lef), (∀ x ∈ a, x.pl < p) → (∀ x ∈ c, p ≤ x.pl) → atL (a ++ c) p = a.length
  | [], c, _, hc => by
    cases c with
    | nil => rfl
    | cons y r =>
      have := hc y List.mem_cons_self
      show (if y.pl < p then _ else 0) = 0
      rw [if_neg (by omega)]
  | x :: r, c, ha, hc => by
    have := ha x List.mem_cons_self
    show (if x.pl < p then atL (r ++ c) p + 1 else 0) = _
    rw [if_pos this, atL_split r c (fun y hy => ha y (List.mem_cons_of_mem _ hy)) hc, List.length_cons]
theorem putC_at {es : List Lef} {p v : Int} (ho : LefOk es) : atL (putLf es p v) p = atL es p := by
  unfold putLf
  rw [List.append_assoc, atL_split _ _ (fun x hx => take_lo hx) (fun x hx => ?_), List.length_take]
  · have := atL_le es p; omega
  · rcases List.mem_append.1 hx with hx | hx
    · have := (mid_pl hx).1; omega
    · have := drop_hi ho hx; omega
theorem putC_has {es : List Lef} {p v : Int} (ho : LefOk es) : hasN (putLf es p v) p = (midL p v).length := by
  have hl : (es.take (atL es p)).length = atL es p := by rw [List.length_take]; have := atL_le es p; omega
  have e : ∀ i, nthL (putLf es p v) (atL es p + i) = nthL (midL p v ++ es.drop (atL es p + hasN es p)) i := fun i => by
    unfold putLf nthL
    simp only [List.getD]
    rw [List.append_assoc, List.getElem?_append_right (by omega), hl, Nat.add_sub_cancel_left]
  unfold hasN hasL
  rw [putC_at ho]
  have e0 := e 0
  rw [Nat.add_zero] at e0
  rw [e0]
  unfold midL
  by_cases hv : v = -1
  · rw [if_pos hv, List.nil_append]
    cases hd : es.drop (atL es p + hasN es p) with
    | nil =>
      rw [if_neg ?_]
      · rfl
      · rw [Bool.and_eq_true, decide_eq_true_eq, decide_eq_true_eq]
        rintro ⟨h1, -⟩
        unfold putLf midL at h1
        rw [if_pos hv, hd] at h1
        simp at h1
        omega
    | cons y r =>
      have := drop_hi ho (x := y) (p := p) (by rw [hd]; exact List.mem_cons_self)
      rw [if_neg ?_]
      · rfl
      · rw [Bool.and_eq_true, decide_eq_true_eq, decide_eq_true_eq, nthL_zero]
        rintro ⟨-, h2⟩
        omega
  · rw [if_neg hv, if_pos ?_]
    · rfl
    · rw [Bool.and_eq_true, decide_eq_true_eq, decide_eq_true_eq]
      refine ⟨?_, by rw [List.singleton_append, nthL_zero]⟩
      unfold putLf midL
      rw [if_neg hv, List.length_append, List.length_append, hl]
      simp
      omega
/-- What is set back is as it was. -/
theorem putC_back {es : List Lef} {p v : Int} (h : setOk es p v = true) : putLf (putLf es p v) p (valL es p) = es := by
  obtain ⟨ho, hp, hv⟩ := setOk_iff.1 h
  have hl : (es.take (atL es p)).length = atL es p := by rw [List.length_take]; have := atL_le es p; omega
  have e1 : (putLf es p v).take (atL es p) = es.take (atL es p) := by
    unfold putLf
    rw [List.append_assoc, List.take_append_of_le_length (by omega), List.take_take, Nat.min_self]
  have e2 : (putLf es p v).drop (atL es p + (midL p v).length) = es.drop (atL es p + hasN es p) := by
    unfold putLf
    rw [List.drop_append_of_le_length (by rw [List.length_append]; omega)]
    rw [List.drop_eq_nil_of_le (by rw [List.length_append]; omega), List.nil_append]
  have e3 : midL p (valL es p) = (es.drop (atL es p)).take (hasN es p) := by
    unfold hasN
    cases hh : hasL es p with
    | true =>
      obtain ⟨h1, h2⟩ := hasL_lt hh
      rw [if_pos rfl, List.drop_eq_getElem_cons h1]
      have hx : valL es p = (nthL es (atL es p)).va := by
        conv => lhs; rw [three_of es p]
        rw [List.append_assoc, valL_app _ _ _ (fun x hx => by have := take_lo hx; omega)]
        unfold hasN
        rw [if_pos hh, List.drop_eq_getElem_cons h1]
        rw [← nthL_eq h1]
        unfold valL
        simp [h2]
      have h3 := (ho _ h1).1
      unfold LefIn at h3
      unfold midL
      rw [hx, if_neg (by omega), ← nthL_eq h1]
      obtain ⟨y, hy⟩ : ∃ y, y = nthL es (atL es p) := ⟨_, rfl⟩
      rw [← hy] at h2 ⊢
      show [(⟨p, y.va⟩ : Lef)] = [y]
      rw [← h2]
    | false =>
      rw [if_neg (by simp), List.take_zero]
      have hx : valL es p = -1 := by
        conv => lhs; rw [three_of es p]
        unfold hasN
        rw [hh, if_neg (by simp), List.take_zero, List.append_nil, valL_app _ _ _ (fun x hx => by have := take_lo hx; omega)]
        refine valL_none (fun x hx => ?_)
        have := drop_hi ho (x := x) (p := p) (by unfold hasN; rw [hh, if_neg (by simp)]; exact hx)
        omega
      unfold midL
      rw [if_pos hx]
  show (putLf es p v).take (atL (putLf es p v) p) ++ midL p (valL es p) ++ (putLf es p v).drop (atL (putLf es p v) p + hasN (putLf es p v) p) = es
  rw [putC_at ho, putC_has ho, e1, e2, e3]
  exact (three_of es p).symm
theorem val_range {es : List Lef} (h : LefOk es) (p : Int) : valL es p = -1 ∨ (0 ≤ valL es p ∧ valL es p ≤ 1000000000) := by
  unfold valL
  cases hf : es.find? (fun x => decide (x.pl = p)) with
  | none => exact .inl rfl
  | some x =>
    have := (lefOk_pair.1 h).1 x (List.mem_of_find?_eq_some hf)
    unfold LefIn at this
    right
    show 0 ≤ x.va ∧ x.va ≤ 1000000000
    omega
theorem set_back {es : List Lef} {p v : Int} (h : setOk es p v = true) : setR (setR es p v) p (valL es p) = es ∧ setR es p v = putLf es p v := by
  obtain ⟨ho, hp, hv⟩ := setOk_iff.1 h
  have e : setR es p v = putLf es p v := by unfold setR; rw [if_pos h]
  refine ⟨?_, e⟩
  rw [e]
  unfold setR
  rw [if_pos (setOk_iff.2 ⟨putC_ok h, hp, val_range ho p⟩), putC_back h]
theorem mem_put {es : List Lef} {p v : Int} (h : setOk es p v = true) {x : Lef} (hx : x ∈ putLf es p v) (hp : x.pl = p) : x.va = v := by
  obtain ⟨ho, -, -⟩ := setOk_iff.1 h
  unfold putLf at hx
  rcases List.mem_append.1 hx with hx | hx
  · rcases List.mem_append.1 hx with hx | hx
    · have := take_lo hx; omega
    · exact (mid_pl hx).2
  · have := drop_hi ho hx; omega
theorem xor1_mod (B : Nat) : (B ^^^ 1) % 2 = 1 - B % 2 := by
  have h := Nat.xor_mod_two_pow (a := B) (b := 1) (n := 1)
  rw [Nat.pow_one] at h
  rw [h]
  rcases Nat.mod_two_eq_zero_or_one B with e | e <;> rw [e] <;> rfl
theorem xor1_ne (B : Nat) : B ^^^ 1 ≠ B := fun h => by
  have h1 := xor1_mod B
  rw [h] at h1
  omega
theorem bes_same {es fs : List Lef} {A : Nat} (h : ∀ j : Nat, j ≠ A → valL es (j : Int) = valL fs (j : Int)) (s : Nat) : besL es A s = besL fs A s := by
  unfold besL
  refine grp_congr s _ (fun j h1 h2 => ?_)
  have hj : j ≠ A := fun e => by
    subst e
    have h3 : j / 2 ^ s = j / 2 ^ s ^^^ 1 := by
      have hpos : 0 < 2 ^ s := Nat.pow_pos (by omega)
      exact Nat.div_eq_of_lt_le (by rw [Nat.mul_comm] at h1; rwa [Nat.mul_comm]) (by rw [Nat.mul_comm] at h2; rwa [Nat.mul_comm])
    exact xor1_ne _ h3.symm
  unfold fL
  rw [h j hj]
theorem way_same {es fs : List Lef} {A : Nat} (h : ∀ j : Nat, j ≠ A → valL es (j : Int) = valL fs (j : Int)) : wayL es A 8 = wayL fs A 8 := by
  unfold wayL
  exact List.map_congr_left (fun s _ => bes_same h s)
theorem way_get (es : List Lef) (A : Nat) {i : Nat} (hi : i < 8) : (wayL es A 8).getD i 0 = besL es A i := by
  unfold wayL
  simp [List.getD, hi]
/-- The numbers on the way up are those of the groups. -/
theorem rn_grp {es : List Lef} {A : Nat} {v : Int} {ws : List Int} (hv : valL es (A : Int) = v) (hw : ∀ i, i < 8 → ws.getD i 0 = besL es A i) : ∀ k, k ≤ 8 → rnL A v ws k = grp (fL es) k (A / 2 ^ k)
  | 0, _ => by
    show numP (A : Int) v = fL es (A / 2 ^ 0)
    rw [Nat.pow_zero, Nat.div_one]
    unfold fL
    rw [hv]
  | k + 1, hk => by
    have ih := rn_grp hv hw k (by omega)
    have hq : A / 2 ^ (k + 1) = A / 2 ^ k / 2 := by rw [Nat.pow_succ, Nat.div_div_eq_div_mul]
    show (if A / 2 ^ k % 2 = 0 then pr (rnL A v ws k) (ws.getD k 0) else pr (ws.getD k 0) (rnL A v ws k)) = pr (grp (fL es) k (2 * (A / 2 ^ (k + 1)))) (grp (fL es) k (2 * (A / 2 ^ (k + 1)) + 1))
    rw [ih, hw k (by omega), hq]
    unfold besL
    generalize A / 2 ^ k = B
    have hx := xor1_mod B
    have h1 : (B ^^^ 1) / 2 = B / 2 := by
      have := Nat.xor_div_two_pow (a := B) (b := 1) (n := 1)
      simpa using this
    by_cases h : B % 2 = 0
    · have e1 : 2 * (B / 2) = B := by omega
      have e2 : 2 * (B / 2) + 1 = B ^^^ 1 := by omega
      rw [if_pos h, e2, e1]
    · have e1 : 2 * (B / 2) + 1 = B := by omega
      have e2 : 2 * (B / 2) = B ^^^ 1 := by omega
      rw [if_neg h, e1, e2]
theorem hold_yes {es : List Lef} {p v : Int} {ws : List Int} (hp : 0 ≤ p ∧ p ≤ 255) (hr : v = -1 ∨ (0 ≤ v ∧ v ≤ 1000000000)) (hv : valL es p = v) (hl : ws.length = 8) (hw : ∀ i, i < 8 → ws.getD i 0 = besL es p.toNat i) : hldR (peakL es) p v ws = true := by
  obtain ⟨A, rfl⟩ : ∃ A : Nat, p = (A : Int) := ⟨p.toNat, by omega⟩
  rw [Int.toNat_natCast] at hw
  unfold hldR
  rw [tldB_iff.2 ⟨hp, hr, hl⟩, Int.toNat_natCast, rn_grp hv hw 8 (Nat.le_refl _)]
  have e : A / 2 ^ 8 = 0 := Nat.div_eq_of_lt (by omega)
  rw [e]
  unfold peakL
  simp
end Go.Proofs.YtmfopbkhlekhkaaDoor
