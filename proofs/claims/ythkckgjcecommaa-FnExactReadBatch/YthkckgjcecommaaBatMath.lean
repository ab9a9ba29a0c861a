/- What a batch is as a text: plain facts. -/
import Derived.Test.YthkckgjcecommaaTreWro1
import Derived.Test.YthkckgjcecommaaMath
namespace Go.Proofs.Ythkckgjcecommaa
open Go.RowKit
abbrev oneT : ByteArray := ⟨#[49]⟩
abbrev nilT : ByteArray := ⟨#[48]⟩
def flT (b : Bool) : ByteArray := if b = true then oneT else nilT
/-- The three texts of a write. -/
def trio (x : Wri) : List ByteArray := [x.key, x.val, flT x.gone]
def batTx (xs : List Wri) : List ByteArray := xs.flatMap trio
def batT (xs : List Wri) : ByteArray := ⟨(textsOf (batTx xs)).toArray⟩
def batS (xs : List Wri) : ByteArray := if batchOk xs = true ∧ xs ≠ [] then batT xs else ⟨#[]⟩
theorem batTx_nil : batTx [] = [] := rfl
theorem batTx_cons (x : Wri) (xs : List Wri) : batTx (x :: xs) = x.key :: x.val :: flT x.gone :: batTx xs := rfl
theorem batTx_append (a b : List Wri) : batTx (a ++ b) = batTx a ++ batTx b := by simp [batTx]
theorem batTx_len : ∀ xs : List Wri, (batTx xs).length = 3 * xs.length
  | [] => rfl
  | x :: xs => by rw [batTx_cons]; simp only [List.length_cons]; rw [batTx_len xs]; omega
theorem batTx_more {xs : List Wri} {k : Nat} (h : k < xs.length) : batTx (xs.take (k + 1)) = batTx (xs.take k) ++ trio (nthW xs k) := by
  rw [List.take_succ_eq_append_getElem h, batTx_append, nthW_eq h]
  simp [batTx]
theorem batchOk_iff {xs : List Wri} : batchOk xs = true ↔ xs.length ≤ 20 ∧ ∀ x ∈ xs, wriOk x = true := by
  unfold batchOk
  rw [Bool.and_eq_true, decide_eq_true_eq, List.all_eq_true]
theorem wriOk_size {x : Wri} (h : wriOk x = true) : x.key.size ≤ 40 ∧ x.val.size ≤ 200 := by
  unfold wriOk okE at h
  simp only [wriE, Bool.and_eq_true] at h
  obtain ⟨⟨⟨⟨⟨h1, h2⟩, h3⟩, h4⟩, h5⟩, h6⟩ := h
  exact ⟨of_decide_eq_true h2, of_decide_eq_true h3⟩
theorem flT_size (b : Bool) : (flT b).size = 1 := by cases b <;> rfl
theorem batTx_small {xs : List Wri} (h : ∀ x ∈ xs, x.key.size ≤ 3000 ∧ x.val.size ≤ 3000) : ∀ s ∈ batTx xs, s.size ≤ 3000 := by
  intro s hs
  obtain ⟨x, hx, hs⟩ := List.mem_flatMap.1 hs
  have h1 := h x hx
  have h2 := flT_size x.gone
  simp only [trio, List.mem_cons, List.not_mem_nil, or_false] at hs
  rcases hs with rfl | rfl | rfl <;> omega
theorem ok_small {xs : List Wri} (h : batchOk xs = true) : ∀ x ∈ xs, x.key.size ≤ 3000 ∧ x.val.size ≤ 3000 := fun x hx => by
  have := wriOk_size ((batchOk_iff.1 h).2 x hx)
  omega
theorem bat_ne {xs : List Wri} (h : batchOk xs = true) : textsOf (batTx xs) ≠ [] := by
  have h1 := (batchOk_iff.1 h).1
  rw [textsOf_in _ (by rw [batTx_len]; omega) (batTx_small (ok_small h))]
  intro e
  have := enc_ne (batTx xs).length
  simp_all
theorem flT_inj {a b : Bool} (h : flT a = flT b) : a = b := by
  cases a <;> cases b <;> first | rfl | exact absurd (congrArg (fun t : ByteArray => t.data.toList) h) (by decide)
theorem batTx_inj : ∀ {xs ys : List Wri}, batTx xs = batTx ys → xs = ys
  | [], [], _ => rfl
  | [], y :: ys, h => by rw [batTx_cons] at h; cases h
  | x :: xs, [], h => by rw [batTx_cons] at h; cases h
  | x :: xs, y :: ys, h => by
    rw [batTx_cons, batTx_cons] at h
    injection h with h1 h
    injection h with h2 h
    injection h with h3 h
    rw [batTx_inj h]
    obtain ⟨a, b, c⟩ := x
    obtain ⟨a', b', c'⟩ := y
    obtain rfl : a = a' := h1
    obtain rfl : b = b' := h2
    obtain rfl : c = c' := flT_inj h3
    rfl
theorem batT_list (xs : List Wri) : (batT xs).data.toList = textsOf (batTx xs) := by unfold batT; simp
theorem baB_ext {a b : ByteArray} (h : a.data.toList = b.data.toList) : a = b := by
  cases a; cases b; simp_all
theorem batS_yes {xs : List Wri} (h : batchOk xs = true) (hn : xs ≠ []) : batS xs = batT xs := by unfold batS; rw [if_pos ⟨h, hn⟩]
theorem batS_no {xs : List Wri} (h : ¬ (batchOk xs = true ∧ xs ≠ [])) : batS xs = ⟨#[]⟩ := by unfold batS; rw [if_neg h]
/-- What a text is read as: the batch of which it is made and true, or nothing. -/
def RB (s : ByteArray) (F : List Wri × Bool) : Prop := (F.2 = true ∧ batchOk F.1 = true ∧ F.1 ≠ [] ∧ batT F.1 = s) ∨ (F = ([], false) ∧ ∀ xs, batchOk xs = true → xs ≠ [] → batT xs ≠ s)
theorem rb_ex (s : ByteArray) : ∃ F, RB s F := by
  by_cases h : ∃ xs, batchOk xs = true ∧ xs ≠ [] ∧ batT xs = s
  · obtain ⟨xs, h⟩ := h
    exact ⟨(xs, true), .inl ⟨rfl, h⟩⟩
  · exact ⟨([], false), .inr ⟨rfl, fun xs h1 h2 h3 => h ⟨xs, h1, h2, h3⟩⟩⟩
theorem rb_fin {xs : List Wri} (h : batchOk xs = true) : fin (batT xs).data.toList (rdAll (batT xs).data.toList) = (batTx xs, true) := by
  rw [batT_list]
  exact fin_texts _ (bat_ne h)
theorem batT_inj {xs ys : List Wri} (h : batchOk xs = true) (h' : batchOk ys = true) (e : batT xs = batT ys) : xs = ys := by
  have h1 := rb_fin h
  rw [e, rb_fin h'] at h1
  exact (batTx_inj (Prod.mk.inj h1).1).symm
theorem rb_unique {s : ByteArray} {F G : List Wri × Bool} (h : RB s F) (h' : RB s G) : F = G := by
  obtain ⟨f, fb⟩ := F
  obtain ⟨g, gb⟩ := G
  rcases h with ⟨h1, h2, h3, h4⟩ | ⟨h1, h2⟩
  · rcases h' with ⟨k1, k2, k3, k4⟩ | ⟨k1, k2⟩
    · obtain rfl : f = g := batT_inj h2 k2 (h4.trans k4.symm)
      obtain rfl : fb = true := h1
      obtain rfl : gb = true := k1
      rfl
    · exact absurd h4 (k2 _ h2 h3)
  · rcases h' with ⟨k1, k2, k3, k4⟩ | ⟨k1, k2⟩
    · exact absurd k4 (h2 _ k2 k3)
    · rw [h1, k1]
theorem rb_small {s : ByteArray} {F : List Wri × Bool} (h : RB s F) : F.1.length ≤ 20 ∧ ∀ x ∈ F.1, x.key.size ≤ 40 ∧ x.val.size ≤ 200 := by
  rcases h with ⟨_, h2, _, _⟩ | ⟨h1, _⟩
  · have := batchOk_iff.1 h2
    exact ⟨this.1, fun x hx => wriOk_size (this.2 x hx)⟩
  · rw [h1]
    exact ⟨Nat.zero_le _, fun x hx => by cases hx⟩
/-- The model's groups of three. -/
def grp : List ByteArray → List Wri
  | a :: b :: c :: r => ⟨a, b, c.toList == [49]⟩ :: grp r
  | _ => []
theorem flT_t : flT true = oneT := rfl
theorem flT_f : flT false = nilT := rfl
theorem nil_one : nilT ≠ oneT := fun h => absurd (congrArg (fun t : ByteArray => t.data.toList) h) (by decide)
theorem bToList (b : ByteArray) : b.toList = b.data.toList := ByteArray.toList_eq b
theorem fl_one (b : Bool) : ((flT b).toList == [49]) = b := by
  rw [bToList]
  cases b <;> rfl
theorem grp_bat : ∀ xs : List Wri, grp (batTx xs) = xs
  | [] => rfl
  | x :: xs => by
    rw [batTx_cons, grp, grp_bat xs, fl_one]
theorem grp_at {ss : List ByteArray} {p : Nat} (h : p + 3 ≤ ss.length) : grp (ss.drop p) = ⟨ss[p], ss[p + 1], ss[p + 2].toList == [49]⟩ :: grp (ss.drop (p + 3)) := by
  rw [List.drop_eq_getElem_cons (show p < ss.length by omega), List.drop_eq_getElem_cons (show p + 1 < ss.length by omega), List.drop_eq_getElem_cons (show p + 1 + 1 < ss.length by omega), grp]
theorem grp_end {ss : List ByteArray} {p : Nat} (h : ss.length ≤ p) : grp (ss.drop p) = [] := by
  rw [List.drop_eq_nil_of_le h, grp]
  · intros; simp_all
/-- The program's groups of three: none where one does not tell Gone. -/
def wrs : List ByteArray → Option (List Wri)
  | [] => some []
  | a :: b :: c :: r => if c = oneT then (wrs r).map fun l => ⟨a, b, true⟩ :: l else if c = nilT then (wrs r).map fun l => ⟨a, b, false⟩ :: l else none
  | _ => none
theorem wrs_bat : ∀ xs : List Wri, wrs (batTx xs) = some xs
  | [] => rfl
  | x :: xs => by
    rw [batTx_cons, wrs, wrs_bat xs]
    obtain ⟨a, b, c⟩ := x
    cases c
    · rw [flT_f, if_neg nil_one, if_pos rfl]; rfl
    · rw [flT_t, if_pos rfl]; rfl
theorem wrs_back : ∀ (n : Nat) (ss : List ByteArray) (xs : List Wri), ss.length ≤ n → wrs ss = some xs → ss = batTx xs
  | _, [], xs, _, h => by
    rw [wrs] at h
    cases h
    rfl
  | n + 1, a :: b :: c :: r, xs, hl, h => by
    rw [wrs] at h
    simp only [List.length_cons] at hl
    split at h
    · rename_i hc
      cases hr : wrs r with
      | none => rw [hr] at h; cases h
      | some l =>
        rw [hr] at h
        cases h
        rw [batTx_cons, ← wrs_back n r l (by omega) hr, hc]
        rfl
    · split at h
      · rename_i hc
        cases hr : wrs r with
        | none => rw [hr] at h; cases h
        | some l =>
          rw [hr] at h
          cases h
          rw [batTx_cons, ← wrs_back n r l (by omega) hr, hc]
          rfl
      · cases h
  | _, [_], xs, _, h => by cases h
  | _, [_, _], xs, _, h => by cases h
  | 0, a :: b :: c :: r, xs, hl, _ => by simp at hl
/-- What the model's ReadBatch tells at its end. -/
theorem rb_spec {s : ByteArray} {F : List Wri × Bool} (h : RB s F) {ss : List ByteArray} {ok : Bool} (hf : fin s.data.toList (rdAll s.data.toList) = (ss, ok)) :
    (F.2 = true ∧ ok = true ∧ ss.length % 3 = 0 ∧ grp ss = F.1 ∧ batS F.1 = s ∧ 0 < s.size) ∨ (F = ([], false) ∧ (batS (grp ss) ≠ s ∨ s.size = 0)) := by
  rcases h with ⟨h1, h2, h3, h4⟩ | ⟨h1, h2⟩
  · left
    rw [← h4, rb_fin h2] at hf
    obtain ⟨rfl, rfl⟩ := Prod.mk.inj hf
    refine ⟨h1, rfl, by rw [batTx_len]; omega, grp_bat _, by rw [batS_yes h2 h3, h4], ?_⟩
    rw [← h4, ← size_length, batT_list]
    exact List.length_pos_iff.2 (bat_ne h2)
  · right
    refine ⟨h1, ?_⟩
    by_cases hb : batchOk (grp ss) = true ∧ grp ss ≠ []
    · left
      rw [batS_yes hb.1 hb.2]
      exact h2 _ hb.1 hb.2
    · rw [batS_no hb]
      by_cases hs : s.size = 0
      · exact .inr hs
      · left
        intro e
        rw [← e] at hs
        exact hs rfl
/-- What the program's ReadBatch tells at its end. -/
theorem rb_impl {s : ByteArray} {F : List Wri × Bool} (h : RB s F) {ss : List ByteArray} {ok : Bool} (hf : fin s.data.toList (rdAll s.data.toList) = (ss, ok)) :
    (F = ((wrs ss).getD [], true) ∧ 0 < (batS ((wrs ss).getD [])).size) ∨ (F = ([], false) ∧ (batS ((wrs ss).getD [])).size = 0) := by
  rcases h with ⟨h1, h2, h3, h4⟩ | ⟨h1, h2⟩
  · left
    rw [← h4, rb_fin h2] at hf
    obtain ⟨rfl, rfl⟩ := Prod.mk.inj hf
    rw [wrs_bat]
    refine ⟨by obtain ⟨f, fb⟩ := F; obtain rfl : fb = true := h1; rfl, ?_⟩
    show 0 < (batS F.1).size
    rw [batS_yes h2 h3, ← size_length, batT_list]
    exact List.length_pos_iff.2 (bat_ne h2)
  · right
    refine ⟨h1, ?_⟩
    by_cases hb : batchOk ((wrs ss).getD []) = true ∧ (wrs ss).getD [] ≠ []
    · exfalso
      cases hw : wrs ss with
      | none => rw [hw] at hb; exact hb.2 rfl
      | some l =>
        rw [hw] at hb
        have e := wrs_back _ ss l (Nat.le_refl _) hw
        cases ok with
        | false =>
          have := fin_no _ _ hf
          rw [this] at e
          have e2 := congrArg List.length e
          rw [batTx_len] at e2
          exact hb.2 (List.length_eq_zero_iff.1 (by show l.length = 0; simp at e2; omega))
        | true =>
          have e2 := fin_back _ _ hf
          rw [e] at e2
          exact h2 l hb.1 hb.2 (baB_ext (by rw [batT_list]; exact e2))
    · rw [batS_no hb]; rfl
end Go.Proofs.Ythkckgjcecommaa
