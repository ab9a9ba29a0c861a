/- The contracts of both Sets. -/
import Derived.Test.YthmeikbfichkaabDoorLefFind
import Derived.Test.YthmeikbfichkaabDoorLefIns
namespace Go.Proofs.YthmeikbfichkaabDoor
open Go.RowKit
theorem rdL_new (w : World) (x : Lef) : RdL (w.alloc (.cells #[.int .i64 x.pl, .int .i64 x.va] 42)) (.slice (some ⟨w.heap.size, 0, none⟩) 1 1) [x] :=
  ⟨_, 1, rfl, Nat.le_refl _, by unfold maxLen; omega, (fun h => by cases h), .inr ⟨w.heap.size, 0, rfl, fun i hi => by
    have : i = 0 := by simpa using hi
    subst this
    refine ⟨?_, ?_⟩ <;> simp [nthL]⟩⟩
theorem atL_eq {es : List Lef} (ho : LefOk es) {p : Int} {k : Nat} (hk : k < es.length) (h : (nthL es k).pl = p) : k = atL es p ∧ hasL es p = true := by
  have h1 : k = atL es p := by
    rcases Nat.lt_trichotomy k (atL es p) with c | c | c
    · have := atL_lo es p c; omega
    · exact c
    · have h2 := atL_at es p (by omega)
      have h3 := lef_lt ho c hk
      omega
  refine ⟨h1, ?_⟩
  unfold hasL
  rw [← h1, decide_eq_true hk, decide_eq_true h]; rfl
theorem atL_ne {es : List Lef} {p : Int} {k : Nat} (hk : k = atL es p) (h : (nthL es k).pl ≠ p) : hasL es p = false := by
  unfold hasL
  rw [← hk, decide_eq_false h, Bool.and_false]
/-- Is the value put already, ahead of Leaf number k? -/
def putB (es : List Lef) (p v : Int) (k : Nat) : Bool := decide (v = -1) || decide (atL es p < k)
theorem midL_no {p v : Int} (h : v = -1) : midL p v = [] := by unfold midL; rw [if_pos h]
theorem midL_yes {p v : Int} (h : v ≠ -1) : midL p v = [⟨p, v⟩] := by unfold midL; rw [if_neg h]
theorem outS_T {es : List Lef} {p v : Int} {k : Nat} (hk : k < es.length) (hp : putB es p v k = true) (h : (nthL es k).pl ≠ p) : outS es p v (k + 1) = outS es p v k ++ [nthL es k] ∧ putB es p v (k + 1) = true := by
  unfold putB at hp ⊢
  simp only [Bool.or_eq_true, decide_eq_true_eq] at hp ⊢
  refine ⟨?_, by rcases hp with h | h; exact .inl h; exact .inr (by omega)⟩
  rcases Nat.lt_trichotomy k (atL es p) with c | c | c
  · exact outS_lo c
  · have hv : v = -1 := by rcases hp with h | h; exact h; omega
    rw [outS_at0 c hk (atL_ne c h), midL_no hv, List.append_nil]
  · exact outS_hi c hk
theorem outS_Te {es : List Lef} (ho : LefOk es) {p v : Int} {k : Nat} (hk : k < es.length) (hp : putB es p v k = true) (h : (nthL es k).pl = p) : outS es p v (k + 1) = outS es p v k ∧ putB es p v (k + 1) = true := by
  obtain ⟨c, hh⟩ := atL_eq ho hk h
  unfold putB at hp ⊢
  simp only [Bool.or_eq_true, decide_eq_true_eq] at hp ⊢
  have hv : v = -1 := by rcases hp with h | h; exact h; omega
  refine ⟨by rw [outS_at1 c hh, midL_no hv, List.append_nil], .inl hv⟩
theorem outS_F {es : List Lef} (ho : LefOk es) {p v : Int} {k : Nat} (hk : k < es.length) (hp : putB es p v k = false) (h : (nthL es k).pl < p) : outS es p v (k + 1) = outS es p v k ++ [nthL es k] ∧ putB es p v (k + 1) = false := by
  unfold putB at hp ⊢
  simp only [Bool.or_eq_false_iff, decide_eq_false_iff_not] at hp ⊢
  have c : k < atL es p := by
    rcases Nat.lt_or_ge k (atL es p) with c | c
    · exact c
    · have := atL_hi ho p c hk; omega
  exact ⟨outS_lo c, hp.1, by omega⟩
theorem outS_Fn {es : List Lef} {p v : Int} {k : Nat} (hk : k < es.length) (hp : putB es p v k = false) (h : p ≤ (nthL es k).pl) (h2 : (nthL es k).pl ≠ p) : outS es p v (k + 1) = outS es p v k ++ [⟨p, v⟩] ++ [nthL es k] ∧ putB es p v (k + 1) = true := by
  unfold putB at hp ⊢
  simp only [Bool.or_eq_false_iff, decide_eq_false_iff_not] at hp
  simp only [Bool.or_eq_true, decide_eq_true_eq]
  have c : k = atL es p := by
    rcases Nat.lt_or_ge k (atL es p) with c | c
    · have := atL_lo es p c; omega
    · omega
  exact ⟨by rw [outS_at0 c hk (atL_ne c h2), midL_yes hp.1], .inr (by omega)⟩
theorem outS_Fe {es : List Lef} (ho : LefOk es) {p v : Int} {k : Nat} (hk : k < es.length) (hp : putB es p v k = false) (h : (nthL es k).pl = p) : outS es p v (k + 1) = outS es p v k ++ [⟨p, v⟩] ∧ putB es p v (k + 1) = true := by
  obtain ⟨c, hh⟩ := atL_eq ho hk h
  unfold putB at hp ⊢
  simp only [Bool.or_eq_false_iff, decide_eq_false_iff_not] at hp
  simp only [Bool.or_eq_true, decide_eq_true_eq]
  exact ⟨by rw [outS_at1 c hh, midL_yes hp.1], .inr (by omega)⟩
theorem outS_endT {es : List Lef} {p v : Int} (hp : putB es p v es.length = true) : outS es p v es.length = putLf es p v := by
  rw [← outS_end]
  unfold putB at hp
  simp only [Bool.or_eq_true, decide_eq_true_eq] at hp
  split
  · have hv : v = -1 := by rcases hp with h | h; exact h; omega
    rw [midL_no hv, List.append_nil]
  · rfl
theorem outS_endF {es : List Lef} {p v : Int} (hp : putB es p v es.length = false) : outS es p v es.length ++ [⟨p, v⟩] = putLf es p v := by
  rw [← outS_end]
  unfold putB at hp
  simp only [Bool.or_eq_false_iff, decide_eq_false_iff_not] at hp
  rw [if_pos (by omega), midL_yes hp.1]
theorem outS_len {es : List Lef} {p v : Int} {k : Nat} : (outS es p v k).length ≤ es.length + 1 := by
  have h1 := midL_len p v
  unfold outS
  split
  · rw [List.length_take]; omega
  · simp only [List.length_append, List.length_take, List.length_drop]; omega
theorem setR_no {es : List Lef} {p v : Int} (h : setOk es p v = false) : setR es p v = [] := by unfold setR; rw [h]; rfl
theorem setR_yes {es : List Lef} {p v : Int} (h : setOk es p v = true) : setR es p v = putLf es p v := by unfold setR; rw [h]; rfl
theorem pushL_below {w wr w1 : World} {B : Nat} {v : Value} {o : Obj} {ys : List Lef} (hown : OwnL wr B v ys) (hb : Below B w wr) (hg : (wr.alloc o).grownBy w1 v.ownBlock) (hB : B ≤ wr.heap.size := by first | exact Below.size (by assumption) | assumption) : Below B w w1 :=
  (hb.alloc hB o).grown hg (by simp; omega) (fun k hk => (World.ownsRow.lt hown k hk).1)
def SetPost (w : World) (es : List Lef) (p v : Int) (e : Ending) (w' : World) : Prop := ∃ u, e = .returned u ∧ OwnL w' w.heap.size u (setR es p v) ∧ Below w.heap.size w w'
set_option maxHeartbeats 400000 in
theorem trieValueOk_any (x : Int) (w : World) :
    Calls Tryd.prog 44 #[.int .i64 x] w fun e w' => e = .returned (.bool (decide (x = -1 ∨ (0 ≤ x ∧ x ≤ 1000000000)))) ∧ w' = w := by
  by_cases h : x = -1
  · subst h
    go_enter Tryd.func44, Tryd.ntmps44
    go_wp2
    go_ret
    exact ⟨ret_bool (by simp), rfl⟩
  · have h2 : (x == -1) = false := by simp [h]
    go_enter Tryd.func44, Tryd.ntmps44
    go_wp2_with (go_at_call 39; refine (leafValueOk_any _ _).mono ?_; rintro e w1 ⟨rfl, rfl⟩)
    go_ret
    exact ⟨ret_bool (by rw [Bool.eq_iff_iff]; simp [h]), rfl⟩
theorem put_has {es : List Lef} {p v : Int} (h : hasL es p = true) : putLf es p v = (es.eraseIdx (atL es p)).take (atL es p) ++ midL p v ++ (es.eraseIdx (atL es p)).drop (atL es p) := by
  have h1 := (hasL_lt h).1
  have e : hasN es p = 1 := by unfold hasN; rw [h]; simp
  unfold putLf
  rw [e, List.eraseIdx_eq_take_drop_succ, List.take_left' (by rw [List.length_take]; omega), List.drop_left' (by rw [List.length_take]; omega)]
theorem put_new {es : List Lef} {p v : Int} (h : hasL es p = false) : putLf es p v = es.take (atL es p) ++ midL p v ++ es.drop (atL es p) := by
  have e : hasN es p = 0 := by unfold hasN; rw [h]; simp
  unfold putLf
  rw [e, Nat.add_zero]
end Go.Proofs.YthmeikbfichkaabDoor
