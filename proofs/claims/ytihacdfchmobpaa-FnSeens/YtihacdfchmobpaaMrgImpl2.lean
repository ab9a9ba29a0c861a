/- The contracts of the program's endOfKey, withoutGoneEnd, Bottom. -/
import Derived.Test.YtihacdfchmobpaaMrgImpl1
namespace Go.Proofs.Ytihacdfchmobpaa
open Go.RowKit
/-- A key's entries without those that are gone at its end. -/
def stripG : List Ent → List Ent
  | [] => []
  | x :: r => if (stripG r).isEmpty && x.gone then [] else x :: stripG r
theorem stripG_sub : ∀ es : List Ent, (stripG es).Sublist es
  | [] => List.Sublist.slnil
  | x :: r => by
    rw [stripG]
    split
    · exact List.nil_sublist _
    · exact (stripG_sub r).cons_cons x
theorem stripG_gone : ∀ (l : List Ent) (x : Ent), x.gone = true → stripG (l ++ [x]) = stripG l
  | [], x, h => by simp [stripG, h]
  | y :: r, x, h => by rw [List.cons_append, stripG, stripG_gone r x h, stripG]
theorem stripG_stay : ∀ (l : List Ent) (x : Ent), x.gone = false → stripG (l ++ [x]) = l ++ [x]
  | [], x, h => by simp [stripG, h]
  | y :: r, x, h => by
    rw [List.cons_append, stripG, stripG_stay r x h]
    simp
theorem bottom_cons (x : Ent) (r : List Ent) : bottomOf (x :: r) = botS x (bottomOf r) := rfl
theorem bottom_group : ∀ (g rest : List Ent) (K : ByteArray), (∀ x ∈ g, x.key = K) → (∀ x ∈ rest, x.key ≠ K) → bottomOf (g ++ rest) = stripG g ++ bottomOf rest
  | [], rest, K, _, _ => by simp [stripG]
  | x :: r, rest, K, h1, h2 => by
    have ih := bottom_group r rest K (fun y hy => h1 y (List.mem_cons_of_mem _ hy)) h2
    have hx := h1 x List.mem_cons_self
    rw [List.cons_append, bottom_cons, ih, stripG]
    cases hs : stripG r with
    | nil =>
      have hla : (decide ((bottomOf rest).length = 0) || !kEq (nth (bottomOf rest) 0).key x.key) = true := by
        cases hb : bottomOf rest with
        | nil => rfl
        | cons z s =>
          have : z ∈ rest := (bottom_sub rest).subset (by rw [hb]; exact List.mem_cons_self)
          have := h2 z this
          rw [nth_zero, hx]
          simp [kEq, this]
      unfold botS
      rw [List.nil_append, hla, Bool.true_and, List.isEmpty_nil, Bool.true_and]
      cases x.gone <;> simp
    | cons y s =>
      have : y ∈ r := (stripG_sub r).subset (by rw [hs]; exact List.mem_cons_self)
      have hy := h1 y (List.mem_cons_of_mem _ this)
      unfold botS
      rw [List.cons_append, nth_zero, hx, hy]
      simp [kEq]
theorem nth_mem {es : List Ent} {i : Nat} (h : i < es.length) : nth es i ∈ es := by rw [nth_eq h]; exact List.getElem_mem h
/-- The entries of one key and what is left behind them. -/
theorem bottom_step {al : List Ent} (hok : okL al = true) {k t : Nat} (hkt : k < t) (ht : t ≤ al.length) (h1 : ∀ j, k ≤ j → j < t → (nth al j).key = (nth al k).key) (h2 : t < al.length → (nth al t).key ≠ (nth al k).key) :
    bottomOf (al.drop k) = stripG ((al.take t).drop k) ++ bottomOf (al.drop t) := by
  have hd : al.drop k = (al.take t).drop k ++ al.drop t := by
    have := congrArg (List.drop k) (List.take_append_drop t al)
    rw [← this, List.drop_append, List.length_take, Nat.min_eq_left ht, show k - t = 0 by omega, List.drop_zero]
  rw [hd]
  refine bottom_group _ _ (nth al k).key (fun x hx => ?_) (fun x hx => ?_)
  · obtain ⟨i, hi, rfl⟩ := List.getElem_of_mem hx
    rw [List.length_drop, List.length_take, Nat.min_eq_left ht] at hi
    have e := h1 (k + i) (by omega) (by omega)
    rw [← e, ← nth_eq (es := (al.take t).drop k), nth_drop (by rw [List.length_take]; omega), nth_take (by omega) (by omega)]
  · obtain ⟨i, hi, rfl⟩ := List.getElem_of_mem hx
    rw [List.length_drop] at hi
    rw [← nth_eq (es := al.drop t), nth_drop (by omega)]
    intro he
    refine h2 (by omega) ?_
    by_cases hi0 : i = 0
    · subst hi0; exact he
    · exact key_mid (okL_ij hok hkt (by omega)) (okL_ij hok (show t < t + i by omega) (by omega)) he.symm
/-- What endOfKey tells. -/
def EndPost (w : World) (es : List Ent) (k : Nat) (e : Ending) (w' : World) : Prop :=
  ∃ t : Nat, e = .returned (.int .i64 t) ∧ k < t ∧ t ≤ es.length ∧ (∀ j, k ≤ j → j < t → (nth es j).key = (nth es k).key) ∧ (t < es.length → (nth es t).key ≠ (nth es k).key) ∧ ∃ n, w' = w.drewN n
set_option maxHeartbeats 4000000 in
set_option maxRecDepth 100000 in
theorem endOfKey_any (v : Value) (es : List Ent) (k : Nat) (w : World) (hr : RdE w v es) (hk : k < es.length) :
    Calls Try.prog 48 #[v, .int .i64 k] w fun e w' => EndPost w es k e w' := by
  obtain ⟨a, cap, hv, hl, hm, _⟩ := id hr
  obtain ⟨nn, hnn⟩ : ∃ nn, nn = es.length := ⟨_, rfl⟩
  have HNN : Hid (nn = es.length) := hnn
  rw [← hnn] at hv hl hk
  subst hv
  unfold maxLen at hm
  obtain ⟨b, off, rfl, hck⟩ := hr.at hnn k (by rw [← hnn]; exact hk)
  obtain ⟨x, hx⟩ : ∃ x, x = nth es k := ⟨_, rfl⟩
  rw [← hx] at hck
  have HX : Hid (x = nth es k) := hx
  clear hx hnn
  go_enter Try.func48, Try.ntmps48
  go_wp2
  go_loopw [5] (fun i wr => ∃ t : Nat, k ≤ t ∧ t ≤ nn ∧ i = .int .i64 t ∧ Hid (∀ j, k ≤ j → j < t → (nth es j).key = x.key) ∧ ∃ n, wr = w.drewN n) (fun i _ => nn - (intOf i).toNat)
  case atStart => exact ⟨k, Nat.le_refl _, by omega, rfl, (fun j h1 h2 => by omega), 0, rfl⟩
  case round =>
    obtain ⟨t, hkt, htn, rfl, HJ, n, rfl⟩ := hrel
    by_cases hlt : t < nn
    · obtain ⟨b2, off2, ha2, hd⟩ := (hr.drewN n).at HNN.out t (by rw [← HNN.out]; exact hlt)
      cases ha2
      obtain ⟨y, hy⟩ : ∃ y, y = nth es t := ⟨_, rfl⟩
      rw [← hy] at hd
      have hkb := beq_kEq y.key x.key
      have htl : decide (t < nn) = true := decide_eq_true hlt
      have hck2 : EntAt (w.drewN n) b (off + k * 4) x := hck
      have htc : t < cap := by omega
      have hkc : k < cap := by omega
      cases hke : kEq y.key x.key with
      | true =>
        rw [hke] at hkb
        have HJ2 : Hid (∀ j, k ≤ j → j < t + 1 → (nth es j).key = x.key) := fun j h1 h2 => by
          by_cases hjt : j = t
          · rw [hjt, ← hy]; exact of_decide_eq_true hke
          · exact HJ.out j h1 (by omega)
        clear hy
        go_wp2_with fail
        refine wp_region_noPanic ?_
        refine wp_region_held_drew (S := fun w' => EntAt w' b (off + t * 4) y ∧ EntAt w' b (off + k * 4) x) (by kernel_rfl) ⟨hd, hck2⟩ (fun hH => ?_)
        refine takeH (i := 0) (d := 7) (v := ?_) rfl rfl (by kernel_rfl) (by kernel_rfl) (by kernel_rfl) (fun _ _ _ h => h) (Or.inl ⟨by kernel_rfl, ?_⟩) hH ?_
        rotate_left 1
        · intro w hS; (try dsimp only [EntAt, Nat.zero_add] at hS); go_simp; (try with_reducible rfl)
        try simp only [Act.put, List.setIfInBounds_toArray, List.set_cons_zero, List.set_cons_succ]
        refine takeH (i := 1) (d := 8) (v := ?_) rfl rfl (by kernel_rfl) (by kernel_rfl) (by kernel_rfl) (fun _ _ _ h => h) (Or.inl ⟨by kernel_rfl, ?_⟩) hH ?_
        rotate_left 1
        · intro w hS; (try dsimp only [EntAt, Nat.zero_add] at hS); go_simp; (try with_reducible rfl)
        try simp only [Act.put, List.setIfInBounds_toArray, List.set_cons_zero, List.set_cons_succ]
        refine takeH (i := 2) (d := 9) (v := ?_) rfl rfl (by kernel_rfl) (by kernel_rfl) (by kernel_rfl) (fun _ _ _ h => h) (Or.inl ⟨by kernel_rfl, ?_⟩) hH ?_
        rotate_left 1
        · intro w hS; (try dsimp only [EntAt, Nat.zero_add] at hS); go_simp; (try with_reducible rfl)
        try simp only [Act.put, List.setIfInBounds_toArray, List.set_cons_zero, List.set_cons_succ]
        refine takeH (i := 3) (d := 10) (v := ?_) rfl rfl (by kernel_rfl) (by kernel_rfl) (by kernel_rfl) (fun _ _ _ h => h) (Or.inl ⟨by kernel_rfl, ?_⟩) hH ?_
        rotate_left 1
        · intro w hS; (try dsimp only [EntAt, Nat.zero_add] at hS); go_simp; (try with_reducible rfl)
        try simp only [Act.put, List.setIfInBounds_toArray, List.set_cons_zero, List.set_cons_succ]
        refine takeH (i := 4) (d := 11) (v := ?_) rfl rfl (by kernel_rfl) (by kernel_rfl) (by kernel_rfl) (fun _ _ _ h => h) (Or.inl ⟨by kernel_rfl, ?_⟩) hH ?_
        rotate_left 1
        · intro w hS; (try dsimp only [EntAt, Nat.zero_add] at hS); go_simp; (try with_reducible rfl)
        try simp only [Act.put, List.setIfInBounds_toArray, List.set_cons_zero, List.set_cons_succ]
        refine takeH (i := 5) (d := 12) (v := ?_) rfl rfl (by kernel_rfl) (by kernel_rfl) (by kernel_rfl) (fun _ _ _ h => h) (Or.inl ⟨by kernel_rfl, ?_⟩) hH ?_
        rotate_left 1
        · intro w hS; (try dsimp only [EntAt, Nat.zero_add] at hS); go_simp; (try with_reducible rfl)
        try simp only [Act.put, List.setIfInBounds_toArray, List.set_cons_zero, List.set_cons_succ]
        refine takeH (i := 6) (d := 13) (v := ?_) rfl rfl (by kernel_rfl) (by kernel_rfl) (by kernel_rfl) (fun _ _ _ h => h) (Or.inl ⟨by kernel_rfl, ?_⟩) hH ?_
        rotate_left 1
        · intro w hS; (try dsimp only [EntAt, Nat.zero_add] at hS); go_simp; (try with_reducible rfl)
        try simp only [Act.put, List.setIfInBounds_toArray, List.set_cons_zero, List.set_cons_succ]
        refine takeH (i := 7) (d := 14) (v := ?_) rfl rfl (by kernel_rfl) (by kernel_rfl) (by kernel_rfl) (fun _ _ _ h => h) (Or.inl ⟨by kernel_rfl, ?_⟩) hH ?_
        rotate_left 1
        · intro w hS; (try dsimp only [EntAt, Nat.zero_add] at hS); go_simp; (try with_reducible rfl)
        try simp only [Act.put, List.setIfInBounds_toArray, List.set_cons_zero, List.set_cons_succ]
        refine takeH (i := 8) (d := 15) (v := ?_) rfl rfl (by kernel_rfl) (by kernel_rfl) (by kernel_rfl) (fun _ _ _ h => h) (Or.inl ⟨by kernel_rfl, ?_⟩) hH ?_
        rotate_left 1
        · intro w hS; (try dsimp only [EntAt, Nat.zero_add] at hS); go_simp; (try with_reducible rfl)
        try simp only [Act.put, List.setIfInBounds_toArray, List.set_cons_zero, List.set_cons_succ]
        refine takeH (i := 9) (d := 16) (v := ?_) rfl rfl (by kernel_rfl) (by kernel_rfl) (by kernel_rfl) (fun _ _ _ h => h) (Or.inl ⟨by kernel_rfl, ?_⟩) hH ?_
        rotate_left 1
        · intro w hS; (try dsimp only [EntAt, Nat.zero_add] at hS); go_simp; (try with_reducible rfl)
        try simp only [Act.put, List.setIfInBounds_toArray, List.set_cons_zero, List.set_cons_succ]
        refine takeH (i := 10) (d := 17) (v := ?_) rfl rfl (by kernel_rfl) (by kernel_rfl) (by kernel_rfl) (fun _ _ _ h => h) (Or.inl ⟨by kernel_rfl, ?_⟩) hH ?_
        rotate_left 1
        · intro w hS; (try dsimp only [EntAt, Nat.zero_add] at hS); go_simp; (try with_reducible rfl)
        try simp only [Act.put, List.setIfInBounds_toArray, List.set_cons_zero, List.set_cons_succ]
        refine takeH (i := 11) (d := 18) (v := ?_) rfl rfl (by kernel_rfl) (by kernel_rfl) (by kernel_rfl) (fun _ _ _ h => h) (Or.inl ⟨by kernel_rfl, ?_⟩) hH ?_
        rotate_left 1
        · intro w hS; (try dsimp only [EntAt, Nat.zero_add] at hS); go_simp; (try with_reducible rfl)
        try simp only [Act.put, List.setIfInBounds_toArray, List.set_cons_zero, List.set_cons_succ]
        refine takeH (i := 12) (d := 19) (v := ?_) rfl rfl (by kernel_rfl) (by kernel_rfl) (by kernel_rfl) (fun _ _ _ h => h) (Or.inl ⟨by kernel_rfl, ?_⟩) hH ?_
        rotate_left 1
        · intro w hS; (try dsimp only [EntAt, Nat.zero_add] at hS); go_simp; (try with_reducible rfl)
        try simp only [Act.put, List.setIfInBounds_toArray, List.set_cons_zero, List.set_cons_succ]
        refine takeH (i := 13) (d := 20) (v := ?_) rfl rfl (by kernel_rfl) (by kernel_rfl) (by kernel_rfl) (fun _ _ _ h => h) (Or.inl ⟨by kernel_rfl, ?_⟩) hH ?_
        rotate_left 1
        · intro w hS; (try dsimp only [EntAt, Nat.zero_add] at hS); go_simp; (try with_reducible rfl)
        try simp only [Act.put, List.setIfInBounds_toArray, List.set_cons_zero, List.set_cons_succ]
        refine takeH (i := 14) (d := 21) (v := ?_) rfl rfl (by kernel_rfl) (by kernel_rfl) (by kernel_rfl) (fun _ _ _ h => h) (Or.inl ⟨by kernel_rfl, ?_⟩) hH ?_
        rotate_left 1
        · intro w hS; (try dsimp only [EntAt, Nat.zero_add] at hS); go_simp; (try with_reducible rfl)
        try simp only [Act.put, List.setIfInBounds_toArray, List.set_cons_zero, List.set_cons_succ]
        refine takeH (i := 15) (d := 22) (v := ?_) rfl rfl (by kernel_rfl) (by kernel_rfl) (by kernel_rfl) (fun _ _ _ h => h) (Or.inl ⟨by kernel_rfl, ?_⟩) hH ?_
        rotate_left 1
        · intro w hS; (try dsimp only [EntAt, Nat.zero_add] at hS); go_simp; (try with_reducible rfl)
        try simp only [Act.put, List.setIfInBounds_toArray, List.set_cons_zero, List.set_cons_succ]
        refine takeH (i := 16) (d := 23) (v := ?_) rfl rfl (by kernel_rfl) (by kernel_rfl) (by kernel_rfl) (fun _ _ _ h => h) (Or.inl ⟨by kernel_rfl, ?_⟩) hH ?_
        rotate_left 1
        · intro w hS; (try dsimp only [EntAt, Nat.zero_add] at hS); go_simp; (try with_reducible rfl)
        try simp only [Act.put, List.setIfInBounds_toArray, List.set_cons_zero, List.set_cons_succ]
        refine wpAnyH_done (by kernel_rfl) ?_ _
        refine NoPanic.normal ?_
        go_wp2
        go_roundw
        case rel => exact ⟨t + 1, by omega, by omega, by go_num, HJ2, n + 1, rfl⟩
        case measure => simp [intOf]; omega
      | false =>
        rw [hke] at hkb
        have hne : y.key ≠ x.key := of_decide_eq_false hke
        have HE : Hid (EndPost w es k (.returned (.int .i64 t)) (w.drewN (n + 1))) := by
          refine ⟨t, rfl, ?_, by rw [← HNN.out]; omega, fun j h1 h2 => by rw [← HX.out]; exact HJ.out j h1 h2, fun _ => by rw [← HX.out, ← hy]; exact hne, n + 1, rfl⟩
          rcases Nat.lt_or_ge k t with h | h
          · exact h
          · have : t = k := by omega
            subst this
            rw [hy, ← HX.out] at hne; exact absurd rfl hne
        clear hne hy
        go_wp2_with fail
        refine wp_region_noPanic ?_
        refine wp_region_held_drew (S := fun w' => EntAt w' b (off + t * 4) y ∧ EntAt w' b (off + k * 4) x) (by kernel_rfl) ⟨hd, hck2⟩ (fun hH => ?_)
        refine takeH (i := 0) (d := 7) (v := ?_) rfl rfl (by kernel_rfl) (by kernel_rfl) (by kernel_rfl) (fun _ _ _ h => h) (Or.inl ⟨by kernel_rfl, ?_⟩) hH ?_
        rotate_left 1
        · intro w hS; (try dsimp only [EntAt, Nat.zero_add] at hS); go_simp; (try with_reducible rfl)
        try simp only [Act.put, List.setIfInBounds_toArray, List.set_cons_zero, List.set_cons_succ]
        refine takeH (i := 1) (d := 8) (v := ?_) rfl rfl (by kernel_rfl) (by kernel_rfl) (by kernel_rfl) (fun _ _ _ h => h) (Or.inl ⟨by kernel_rfl, ?_⟩) hH ?_
        rotate_left 1
        · intro w hS; (try dsimp only [EntAt, Nat.zero_add] at hS); go_simp; (try with_reducible rfl)
        try simp only [Act.put, List.setIfInBounds_toArray, List.set_cons_zero, List.set_cons_succ]
        refine takeH (i := 2) (d := 9) (v := ?_) rfl rfl (by kernel_rfl) (by kernel_rfl) (by kernel_rfl) (fun _ _ _ h => h) (Or.inl ⟨by kernel_rfl, ?_⟩) hH ?_
        rotate_left 1
        · intro w hS; (try dsimp only [EntAt, Nat.zero_add] at hS); go_simp; (try with_reducible rfl)
        try simp only [Act.put, List.setIfInBounds_toArray, List.set_cons_zero, List.set_cons_succ]
        refine takeH (i := 3) (d := 10) (v := ?_) rfl rfl (by kernel_rfl) (by kernel_rfl) (by kernel_rfl) (fun _ _ _ h => h) (Or.inl ⟨by kernel_rfl, ?_⟩) hH ?_
        rotate_left 1
        · intro w hS; (try dsimp only [EntAt, Nat.zero_add] at hS); go_simp; (try with_reducible rfl)
        try simp only [Act.put, List.setIfInBounds_toArray, List.set_cons_zero, List.set_cons_succ]
        refine takeH (i := 4) (d := 11) (v := ?_) rfl rfl (by kernel_rfl) (by kernel_rfl) (by kernel_rfl) (fun _ _ _ h => h) (Or.inl ⟨by kernel_rfl, ?_⟩) hH ?_
        rotate_left 1
        · intro w hS; (try dsimp only [EntAt, Nat.zero_add] at hS); go_simp; (try with_reducible rfl)
        try simp only [Act.put, List.setIfInBounds_toArray, List.set_cons_zero, List.set_cons_succ]
        refine takeH (i := 5) (d := 12) (v := ?_) rfl rfl (by kernel_rfl) (by kernel_rfl) (by kernel_rfl) (fun _ _ _ h => h) (Or.inl ⟨by kernel_rfl, ?_⟩) hH ?_
        rotate_left 1
        · intro w hS; (try dsimp only [EntAt, Nat.zero_add] at hS); go_simp; (try with_reducible rfl)
        try simp only [Act.put, List.setIfInBounds_toArray, List.set_cons_zero, List.set_cons_succ]
        refine takeH (i := 6) (d := 13) (v := ?_) rfl rfl (by kernel_rfl) (by kernel_rfl) (by kernel_rfl) (fun _ _ _ h => h) (Or.inl ⟨by kernel_rfl, ?_⟩) hH ?_
        rotate_left 1
        · intro w hS; (try dsimp only [EntAt, Nat.zero_add] at hS); go_simp; (try with_reducible rfl)
        try simp only [Act.put, List.setIfInBounds_toArray, List.set_cons_zero, List.set_cons_succ]
        refine takeH (i := 7) (d := 14) (v := ?_) rfl rfl (by kernel_rfl) (by kernel_rfl) (by kernel_rfl) (fun _ _ _ h => h) (Or.inl ⟨by kernel_rfl, ?_⟩) hH ?_
        rotate_left 1
        · intro w hS; (try dsimp only [EntAt, Nat.zero_add] at hS); go_simp; (try with_reducible rfl)
        try simp only [Act.put, List.setIfInBounds_toArray, List.set_cons_zero, List.set_cons_succ]
        refine takeH (i := 8) (d := 15) (v := ?_) rfl rfl (by kernel_rfl) (by kernel_rfl) (by kernel_rfl) (fun _ _ _ h => h) (Or.inl ⟨by kernel_rfl, ?_⟩) hH ?_
        rotate_left 1
        · intro w hS; (try dsimp only [EntAt, Nat.zero_add] at hS); go_simp; (try with_reducible rfl)
        try simp only [Act.put, List.setIfInBounds_toArray, List.set_cons_zero, List.set_cons_succ]
        refine takeH (i := 9) (d := 16) (v := ?_) rfl rfl (by kernel_rfl) (by kernel_rfl) (by kernel_rfl) (fun _ _ _ h => h) (Or.inl ⟨by kernel_rfl, ?_⟩) hH ?_
        rotate_left 1
        · intro w hS; (try dsimp only [EntAt, Nat.zero_add] at hS); go_simp; (try with_reducible rfl)
        try simp only [Act.put, List.setIfInBounds_toArray, List.set_cons_zero, List.set_cons_succ]
        refine takeH (i := 10) (d := 17) (v := ?_) rfl rfl (by kernel_rfl) (by kernel_rfl) (by kernel_rfl) (fun _ _ _ h => h) (Or.inl ⟨by kernel_rfl, ?_⟩) hH ?_
        rotate_left 1
        · intro w hS; (try dsimp only [EntAt, Nat.zero_add] at hS); go_simp; (try with_reducible rfl)
        try simp only [Act.put, List.setIfInBounds_toArray, List.set_cons_zero, List.set_cons_succ]
        refine takeH (i := 11) (d := 18) (v := ?_) rfl rfl (by kernel_rfl) (by kernel_rfl) (by kernel_rfl) (fun _ _ _ h => h) (Or.inl ⟨by kernel_rfl, ?_⟩) hH ?_
        rotate_left 1
        · intro w hS; (try dsimp only [EntAt, Nat.zero_add] at hS); go_simp; (try with_reducible rfl)
        try simp only [Act.put, List.setIfInBounds_toArray, List.set_cons_zero, List.set_cons_succ]
        refine takeH (i := 12) (d := 19) (v := ?_) rfl rfl (by kernel_rfl) (by kernel_rfl) (by kernel_rfl) (fun _ _ _ h => h) (Or.inl ⟨by kernel_rfl, ?_⟩) hH ?_
        rotate_left 1
        · intro w hS; (try dsimp only [EntAt, Nat.zero_add] at hS); go_simp; (try with_reducible rfl)
        try simp only [Act.put, List.setIfInBounds_toArray, List.set_cons_zero, List.set_cons_succ]
        refine takeH (i := 13) (d := 20) (v := ?_) rfl rfl (by kernel_rfl) (by kernel_rfl) (by kernel_rfl) (fun _ _ _ h => h) (Or.inl ⟨by kernel_rfl, ?_⟩) hH ?_
        rotate_left 1
        · intro w hS; (try dsimp only [EntAt, Nat.zero_add] at hS); go_simp; (try with_reducible rfl)
        try simp only [Act.put, List.setIfInBounds_toArray, List.set_cons_zero, List.set_cons_succ]
        refine takeH (i := 14) (d := 21) (v := ?_) rfl rfl (by kernel_rfl) (by kernel_rfl) (by kernel_rfl) (fun _ _ _ h => h) (Or.inl ⟨by kernel_rfl, ?_⟩) hH ?_
        rotate_left 1
        · intro w hS; (try dsimp only [EntAt, Nat.zero_add] at hS); go_simp; (try with_reducible rfl)
        try simp only [Act.put, List.setIfInBounds_toArray, List.set_cons_zero, List.set_cons_succ]
        refine takeH (i := 15) (d := 22) (v := ?_) rfl rfl (by kernel_rfl) (by kernel_rfl) (by kernel_rfl) (fun _ _ _ h => h) (Or.inl ⟨by kernel_rfl, ?_⟩) hH ?_
        rotate_left 1
        · intro w hS; (try dsimp only [EntAt, Nat.zero_add] at hS); go_simp; (try with_reducible rfl)
        try simp only [Act.put, List.setIfInBounds_toArray, List.set_cons_zero, List.set_cons_succ]
        refine takeH (i := 16) (d := 23) (v := ?_) rfl rfl (by kernel_rfl) (by kernel_rfl) (by kernel_rfl) (fun _ _ _ h => h) (Or.inl ⟨by kernel_rfl, ?_⟩) hH ?_
        rotate_left 1
        · intro w hS; (try dsimp only [EntAt, Nat.zero_add] at hS); go_simp; (try with_reducible rfl)
        try simp only [Act.put, List.setIfInBounds_toArray, List.set_cons_zero, List.set_cons_succ]
        refine wpAnyH_done (by kernel_rfl) ?_ _
        refine NoPanic.normal ?_
        go_wp2
        go_ret
        exact HE.out
    · skip
      have hte : t = nn := by omega
      have htl : decide (t < nn) = false := decide_eq_false hlt
      have HE : Hid (EndPost w es k (.returned (.int .i64 t)) (w.drewN (n + 1))) := ⟨t, rfl, by omega, by rw [← HNN.out]; omega, fun j h1 h2 => by rw [← HX.out]; exact HJ.out j h1 h2, fun h => absurd h (by rw [← HNN.out]; omega), n + 1, rfl⟩
      clear hte
      go_wp2_with fail
      refine wp_region_noPanic ?_
      refine wp_region_held_drew (S := fun _ => True) (by kernel_rfl) trivial (fun hH => ?_)
      refine takeH (i := 0) (d := 7) (v := ?_) rfl rfl (by kernel_rfl) (by kernel_rfl) (by kernel_rfl) (fun _ _ _ h => h) (Or.inl ⟨by kernel_rfl, ?_⟩) hH ?_
      rotate_left 1
      · intro w hS; (try dsimp only [EntAt, Nat.zero_add] at hS); go_simp; (try with_reducible rfl)
      try simp only [Act.put, List.setIfInBounds_toArray, List.set_cons_zero, List.set_cons_succ]
      refine takeH (i := 1) (d := 8) (v := ?_) rfl rfl (by kernel_rfl) (by kernel_rfl) (by kernel_rfl) (fun _ _ _ h => h) (Or.inl ⟨by kernel_rfl, ?_⟩) hH ?_
      rotate_left 1
      · intro w hS; (try dsimp only [EntAt, Nat.zero_add] at hS); go_simp; (try with_reducible rfl)
      try simp only [Act.put, List.setIfInBounds_toArray, List.set_cons_zero, List.set_cons_succ]
      refine takeH (i := 2) (d := 9) (v := ?_) rfl rfl (by kernel_rfl) (by kernel_rfl) (by kernel_rfl) (fun _ _ _ h => h) (Or.inl ⟨by kernel_rfl, ?_⟩) hH ?_
      rotate_left 1
      · intro w hS; (try dsimp only [EntAt, Nat.zero_add] at hS); go_simp; (try with_reducible rfl)
      try simp only [Act.put, List.setIfInBounds_toArray, List.set_cons_zero, List.set_cons_succ]
      refine takeH (i := 3) (d := 10) (v := ?_) rfl rfl (by kernel_rfl) (by kernel_rfl) (by kernel_rfl) (fun _ _ _ h => h) (Or.inl ⟨by kernel_rfl, ?_⟩) hH ?_
      rotate_left 1
      · intro w hS; (try dsimp only [EntAt, Nat.zero_add] at hS); go_simp; (try with_reducible rfl)
      try simp only [Act.put, List.setIfInBounds_toArray, List.set_cons_zero, List.set_cons_succ]
      refine takeH (i := 4) (d := 11) (v := ?_) rfl rfl (by kernel_rfl) (by kernel_rfl) (by kernel_rfl) (fun _ _ _ h => h) (Or.inl ⟨by kernel_rfl, ?_⟩) hH ?_
      rotate_left 1
      · intro w hS; (try dsimp only [EntAt, Nat.zero_add] at hS); go_simp; (try with_reducible rfl)
      try simp only [Act.put, List.setIfInBounds_toArray, List.set_cons_zero, List.set_cons_succ]
      refine takeH (i := 5) (d := 12) (v := undef) rfl rfl (by kernel_rfl) (by kernel_rfl) (by kernel_rfl) (fun _ _ _ h => h) (Or.inr ⟨by kernel_rfl, rfl⟩) hH ?_
      try simp only [Act.put, List.setIfInBounds_toArray, List.set_cons_zero, List.set_cons_succ]
      refine takeH (i := 6) (d := 13) (v := undef) rfl rfl (by kernel_rfl) (by kernel_rfl) (by kernel_rfl) (fun _ _ _ h => h) (Or.inr ⟨by kernel_rfl, rfl⟩) hH ?_
      try simp only [Act.put, List.setIfInBounds_toArray, List.set_cons_zero, List.set_cons_succ]
      refine takeH (i := 7) (d := 14) (v := undef) rfl rfl (by kernel_rfl) (by kernel_rfl) (by kernel_rfl) (fun _ _ _ h => h) (Or.inr ⟨by kernel_rfl, rfl⟩) hH ?_
      try simp only [Act.put, List.setIfInBounds_toArray, List.set_cons_zero, List.set_cons_succ]
      refine takeH (i := 8) (d := 15) (v := undef) rfl rfl (by kernel_rfl) (by kernel_rfl) (by kernel_rfl) (fun _ _ _ h => h) (Or.inr ⟨by kernel_rfl, rfl⟩) hH ?_
      try simp only [Act.put, List.setIfInBounds_toArray, List.set_cons_zero, List.set_cons_succ]
      refine takeH (i := 9) (d := 16) (v := undef) rfl rfl (by kernel_rfl) (by kernel_rfl) (by kernel_rfl) (fun _ _ _ h => h) (Or.inr ⟨by kernel_rfl, rfl⟩) hH ?_
      try simp only [Act.put, List.setIfInBounds_toArray, List.set_cons_zero, List.set_cons_succ]
      refine takeH (i := 10) (d := 17) (v := undef) rfl rfl (by kernel_rfl) (by kernel_rfl) (by kernel_rfl) (fun _ _ _ h => h) (Or.inr ⟨by kernel_rfl, rfl⟩) hH ?_
      try simp only [Act.put, List.setIfInBounds_toArray, List.set_cons_zero, List.set_cons_succ]
      refine takeH (i := 11) (d := 18) (v := undef) rfl rfl (by kernel_rfl) (by kernel_rfl) (by kernel_rfl) (fun _ _ _ h => h) (Or.inr ⟨by kernel_rfl, rfl⟩) hH ?_
      try simp only [Act.put, List.setIfInBounds_toArray, List.set_cons_zero, List.set_cons_succ]
      refine takeH (i := 12) (d := 19) (v := undef) rfl rfl (by kernel_rfl) (by kernel_rfl) (by kernel_rfl) (fun _ _ _ h => h) (Or.inr ⟨by kernel_rfl, rfl⟩) hH ?_
      try simp only [Act.put, List.setIfInBounds_toArray, List.set_cons_zero, List.set_cons_succ]
      refine takeH (i := 13) (d := 20) (v := undef) rfl rfl (by kernel_rfl) (by kernel_rfl) (by kernel_rfl) (fun _ _ _ h => h) (Or.inr ⟨by kernel_rfl, rfl⟩) hH ?_
      try simp only [Act.put, List.setIfInBounds_toArray, List.set_cons_zero, List.set_cons_succ]
      refine takeH (i := 14) (d := 21) (v := undef) rfl rfl (by kernel_rfl) (by kernel_rfl) (by kernel_rfl) (fun _ _ _ h => h) (Or.inr ⟨by kernel_rfl, rfl⟩) hH ?_
      try simp only [Act.put, List.setIfInBounds_toArray, List.set_cons_zero, List.set_cons_succ]
      refine takeH (i := 15) (d := 22) (v := undef) rfl rfl (by kernel_rfl) (by kernel_rfl) (by kernel_rfl) (fun _ _ _ h => h) (Or.inr ⟨by kernel_rfl, rfl⟩) hH ?_
      try simp only [Act.put, List.setIfInBounds_toArray, List.set_cons_zero, List.set_cons_succ]
      refine takeH (i := 16) (d := 23) (v := ?_) rfl rfl (by kernel_rfl) (by kernel_rfl) (by kernel_rfl) (fun _ _ _ h => h) (Or.inl ⟨by kernel_rfl, ?_⟩) hH ?_
      rotate_left 1
      · intro w hS; (try dsimp only [EntAt, Nat.zero_add] at hS); go_simp; (try with_reducible rfl)
      try simp only [Act.put, List.setIfInBounds_toArray, List.set_cons_zero, List.set_cons_succ]
      refine wpAnyH_done (by kernel_rfl) ?_ _
      refine NoPanic.normal ?_
      go_wp2
      go_ret
      exact HE.out
theorem strip_down {g : List Ent} {n : Nat} (hn : n < g.length) (h : (nth g n).gone = true) : stripG (g.take (n + 1)) = stripG (g.take n) := by
  rw [List.take_succ_eq_append_getElem hn, ← nth_eq hn]; exact stripG_gone _ _ h
theorem strip_stop {g : List Ent} {n : Nat} (hn : n < g.length) (h : (nth g n).gone = false) : stripG (g.take (n + 1)) = g.take (n + 1) := by
  rw [List.take_succ_eq_append_getElem hn, ← nth_eq hn]; exact stripG_stay _ _ h
set_option maxHeartbeats 4000000 in
set_option maxRecDepth 100000 in
theorem withoutGone_any (v : Value) (g : List Ent) (w : World) (hr : RdE w v g) :
    Calls Try.prog 49 #[v] w fun e w' => ∃ u, e = .returned u ∧ (∀ W, RdE W v g → RdE W u (stripG g)) ∧ w' = w := by
  obtain ⟨a, cap, hv, hl, hm, _⟩ := id hr
  obtain ⟨nn, hnn⟩ : ∃ nn, nn = g.length := ⟨_, rfl⟩
  have HNN : Hid (nn = g.length) := hnn
  rw [← hnn] at hv hl
  subst hv
  unfold maxLen at hm
  have HS0 : Hid (stripG g = stripG (g.take nn)) := by unfold Hid; rw [hnn, List.take_length]
  clear hnn
  go_enter Try.func49, Try.ntmps49
  go_wp2
  go_loop [3] (fun i => ∃ n : Nat, n ≤ nn ∧ i = .int .i64 n ∧ Hid (stripG g = stripG (g.take n))) (fun i => (intOf i).toNat)
  case atStart => exact ⟨nn, Nat.le_refl _, rfl, HS0⟩
  case round =>
    obtain ⟨n, hnn, rfl, HS⟩ := hrel
    clear HS0
    cases n with
    | zero =>
      have HE : Hid ((g.take 0).drop 0 = stripG g) := by unfold Hid; rw [HS.out]; rfl
      go_wp2_with fail
      refine (cut_at _ g 0 0 _ _ _ rfl rfl hr (Nat.le_refl _) (Nat.zero_le _)).mono ?_
      rintro e w3 ⟨u, rfl, hu, rfl⟩
      rw [HE.out] at hu
      have HU : Hid (∀ W, RdE W (.slice a nn cap) g → RdE W u (stripG g)) := hu
      clear hu
      go_wp2
      go_ret
      exact ⟨u, rfl, HU.out, rfl⟩
    | succ m =>
      have hml : m < g.length := by rw [← HNN.out]; omega
      obtain ⟨b, off, rfl, hc⟩ := hr.at HNN.out m hml
      obtain ⟨x, hx⟩ : ∃ x, x = nth g m := ⟨_, rfl⟩
      rw [← hx] at hc
      obtain ⟨c0, c1, c2, c3⟩ := id hc
      have hmc : m < cap := by omega
      have hmi : ((m + 1 : Nat) : Int) - 1 = (m : Int) := by omega
      cases hg : x.gone with
      | true =>
        rw [hg] at c3
        have HS2 : Hid (stripG g = stripG (g.take m)) := by unfold Hid; rw [HS.out, strip_down hml (by rw [← hx]; exact hg)]
        clear hx HS
        go_wp2
        go_round
        case rel => exact ⟨m, by omega, by go_num, HS2⟩
        case measure => simp [intOf]
      | false =>
        rw [hg] at c3
        have HE : Hid ((g.take (m + 1)).drop 0 = stripG g) := by unfold Hid; rw [HS.out, strip_stop hml (by rw [← hx]; exact hg), List.drop_zero]
        clear hx HS
        go_wp2_with fail
        refine (cut_at _ g 0 (m + 1) _ _ _ rfl (by omega) hr (Nat.zero_le _) (by omega)).mono ?_
        rintro e w3 ⟨u, rfl, hu, rfl⟩
        rw [HE.out] at hu
        have HU : Hid (∀ W, RdE W (.slice (some ⟨b, off, none⟩) nn cap) g → RdE W u (stripG g)) := hu
        clear hu
        go_wp2
        go_ret
        exact ⟨u, rfl, HU.out, rfl⟩
end Go.Proofs.Ytihacdfchmobpaa
