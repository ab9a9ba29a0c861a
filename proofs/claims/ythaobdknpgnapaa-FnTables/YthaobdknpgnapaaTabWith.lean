/- The contracts of the program's marks: one number more, whether a number is there, a key's two marks more. -/
import Derived.Test.YthaobdknpgnapaaTabBits
import Derived.Test.YthaobdknpgnapaaG04
import Derived.Lib.SliceRun
import Derived.ChangeKeysEq
import Derived.Deep.RegionHeld3
import Derived.Test.YthaobdknpgnapaaEntImplOk
import Derived.Test.YthaobdknpgnapaaEntSpecSeen
namespace Go.Proofs.Ythaobdknpgnapaa
open Go.RowKit
/-- Marks as the program holds them: four words. -/
def MV (M : Nat) : Value := .agg #[.int .u64 (mw M 0 : Int), .int .u64 (mw M 1 : Int), .int .u64 (mw M 2 : Int), .int .u64 (mw M 3 : Int)]
/-- The four words of marks lie in block b. -/
def MAt (w : World) (b : Nat) (M : Nat) : Prop :=
  w.cell? ⟨b, 0, none⟩ = some (.int .u64 (mw M 0 : Int)) ∧ w.cell? ⟨b, 1, none⟩ = some (.int .u64 (mw M 1 : Int)) ∧ w.cell? ⟨b, 2, none⟩ = some (.int .u64 (mw M 2 : Int)) ∧ w.cell? ⟨b, 3, none⟩ = some (.int .u64 (mw M 3 : Int))
theorem wrap_u64 (n : Nat) (h : n < 18446744073709551616) : IntKind.u64.wrap (n : Int) = (n : Int) := by
  show ((n : Int) % 18446744073709551616) = n
  omega
theorem bits_or (a r : Nat) (ha : a < 18446744073709551616) (hr : r < 64) : bits .or .u64 (a : Int) (IntKind.u64.wrap (2 ^ r)) = ((a ||| 2 ^ r : Nat) : Int) := by
  have h1 : (2 : Nat) ^ r < 2 ^ 64 := Nat.pow_lt_pow_right (by omega) hr
  have h2 : a ||| 2 ^ r < 2 ^ 64 := Nat.or_lt_two_pow ha h1
  have e1 : IntKind.u64.wrap (2 ^ r) = ((2 ^ r : Nat) : Int) := by
    have : ((2 : Int) ^ r) = ((2 ^ r : Nat) : Int) := by simp
    rw [this]
    exact wrap_u64 _ h1
  rw [e1]
  show IntKind.u64.wrap (((BitVec.ofInt 64 (a : Int) ||| BitVec.ofInt 64 ((2 ^ r : Nat) : Int)).toNat : Nat) : Int) = _
  rw [BitVec.ofInt_natCast, BitVec.ofInt_natCast, BitVec.toNat_or, BitVec.toNat_ofNat, BitVec.toNat_ofNat, Nat.mod_eq_of_lt ha, Nat.mod_eq_of_lt h1]
  exact wrap_u64 _ h2
set_option maxHeartbeats 1000000 in
set_option maxRecDepth 100000 in
theorem with_any (M n : Nat) (w : World) (hn : n < 256) :
    Calls Try.prog 95 #[MV M, .int .i64 n] w fun e w' => e = .returned (MV (mset M n)) ∧ Below w.heap.size w w' := by
  have hq : ((n : Int)).tdiv 64 = ((n / 64 : Nat) : Int) := by rw [Int.tdiv_eq_ediv_of_nonneg (by omega)]; omega
  have hr : ((n : Int)).tmod 64 = ((n % 64 : Nat) : Int) := by rw [Int.tmod_eq_emod_of_nonneg (by omega)]; omega
  have h64 : n % 64 < 64 := by omega
  obtain ⟨j, hj⟩ : ∃ j, j = n / 64 := ⟨_, rfl⟩
  have hat : mw (mset M n) j = mw M j ||| 2 ^ (n % 64) := by rw [hj]; exact mw_set_at
  have hne : ∀ i, i ≠ j → mw (mset M n) i = mw M i := fun i hi => mw_set_ne (by omega)
  have hj4 : j < 4 := by omega
  rw [← hj] at hq
  unfold MV
  have l0 := mw_lt M 0
  have l1 := mw_lt M 1
  have l2 := mw_lt M 2
  have l3 := mw_lt M 3
  obtain ⟨r, hrr⟩ : ∃ r, r = n % 64 := ⟨_, rfl⟩
  rw [← hrr] at hr h64 hat
  clear hrr hj
  generalize (n : Int) = N at hq hr ⊢
  have hjc : j = 0 ∨ j = 1 ∨ j = 2 ∨ j = 3 := by omega
  rcases hjc with rfl | rfl | rfl | rfl
  · rw [hat, hne 1 (by omega), hne 2 (by omega), hne 3 (by omega)]
    clear hat hne
    generalize mw M 0 = a at *
    generalize mw M 1 = b at *
    generalize mw M 2 = c at *
    generalize mw M 3 = d at *
    have hB := bits_or a r l0 h64
    generalize a ||| 2 ^ r = x at hB ⊢
    go_enter Try.func95, Try.ntmps95
    go_wp2
    go_region
    go_wp2
    exact bodyPost_ret (v := .agg #[.int .u64 (x : Int), .int .u64 (b : Int), .int .u64 (c : Int), .int .u64 (d : Int)]) (by simp [results, Try.results95, go_sem]) rfl ⟨rfl, (below2 _ _ _).drew⟩
  · rw [hat, hne 0 (by omega), hne 2 (by omega), hne 3 (by omega)]
    clear hat hne
    generalize mw M 0 = a at *
    generalize mw M 1 = b at *
    generalize mw M 2 = c at *
    generalize mw M 3 = d at *
    have hB := bits_or b r l1 h64
    generalize b ||| 2 ^ r = x at hB ⊢
    go_enter Try.func95, Try.ntmps95
    go_wp2
    go_region
    go_wp2
    exact bodyPost_ret (v := .agg #[.int .u64 (a : Int), .int .u64 (x : Int), .int .u64 (c : Int), .int .u64 (d : Int)]) (by simp [results, Try.results95, go_sem]) rfl ⟨rfl, (below2 _ _ _).drew⟩
  · rw [hat, hne 0 (by omega), hne 1 (by omega), hne 3 (by omega)]
    clear hat hne
    generalize mw M 0 = a at *
    generalize mw M 1 = b at *
    generalize mw M 2 = c at *
    generalize mw M 3 = d at *
    have hB := bits_or c r l2 h64
    generalize c ||| 2 ^ r = x at hB ⊢
    go_enter Try.func95, Try.ntmps95
    go_wp2
    go_region
    go_wp2
    exact bodyPost_ret (v := .agg #[.int .u64 (a : Int), .int .u64 (b : Int), .int .u64 (x : Int), .int .u64 (d : Int)]) (by simp [results, Try.results95, go_sem]) rfl ⟨rfl, (below2 _ _ _).drew⟩
  · rw [hat, hne 0 (by omega), hne 1 (by omega), hne 2 (by omega)]
    clear hat hne
    generalize mw M 0 = a at *
    generalize mw M 1 = b at *
    generalize mw M 2 = c at *
    generalize mw M 3 = d at *
    have hB := bits_or d r l3 h64
    generalize d ||| 2 ^ r = x at hB ⊢
    go_enter Try.func95, Try.ntmps95
    go_wp2
    go_region
    go_wp2
    exact bodyPost_ret (v := .agg #[.int .u64 (a : Int), .int .u64 (b : Int), .int .u64 (c : Int), .int .u64 (x : Int)]) (by simp [results, Try.results95, go_sem]) rfl ⟨rfl, (below2 _ _ _).drew⟩
theorem Try.info80 : (Try.prog.info? 80).map (fun i => (i.zero, i.size, i.bytes)) = some (some (.int .u64 0), 1, 8) := by kernel_rfl
theorem run_equalIn_u64 (d : Nat) (a b : Int) (w : World) : (Op.equalIn (d + 1) 80 (.int .u64 a) (.int .u64 b)).run Try.prog w = .ok (a == b) w := by
  simp [Op.equalIn, run_underlying Try.underlying80]
theorem run_eq_words (a0 a1 a2 a3 b0 b1 b2 b3 : Int) (w : World) :
    (Op.equalIn 10000 82 (.agg #[.int .u64 a0, .int .u64 a1, .int .u64 a2, .int .u64 a3]) (.agg #[.int .u64 b0, .int .u64 b1, .int .u64 b2, .int .u64 b3])).run Try.prog w = .ok (decide (a0 = b0 ∧ a1 = b1 ∧ a2 = b2 ∧ a3 = b3)) w := by
  obtain ⟨i0, hi, hz0, hz1, hz2⟩ := info_parts Try.info80
  rw [run_equalIn_array w 9999 _ _ Try.underlying82 hi]
  have hc : Try.prog.cellsOf 80 = 1 := by kernel_rfl
  rw [hc]
  have hp : ∀ (cs : Array Value) (k : Nat) (v : Value) (W : World), cs[k]? = some v → (part 80 cs k).run Try.prog W = .ok v W := by
    intro cs k v W h
    simp [part, go_sem, h, isAgg, run_underlying Try.underlying80]
  have hstep : ∀ (xs ys : Array Value) (k : Nat) (a b : Int) (is : List Nat), xs[k * 1]? = some (.int .u64 a) → ys[k * 1]? = some (.int .u64 b) → (Op.eqItems 9999 80 1 xs ys (k :: is)).run Try.prog w = if a = b then (Op.eqItems 9999 80 1 xs ys is).run Try.prog w else .ok false w := by
    intro xs ys k a b is hx hy
    simp only [Op.eqItems, Sem.run_bind, hp _ _ _ _ hx, hp _ _ _ _ hy, Result.andThen_ok, run_equalIn_u64 9998]
    by_cases h : a = b <;> simp [h]
  show (Op.eqItems 9999 80 1 _ _ [0, 1, 2, 3]).run Try.prog w = _
  rw [hstep _ _ 0 a0 b0 _ rfl rfl, hstep _ _ 1 a1 b1 _ rfl rfl, hstep _ _ 2 a2 b2 _ rfl rfl, hstep _ _ 3 a3 b3 _ rfl rfl]
  by_cases h0 : a0 = b0
  · by_cases h1 : a1 = b1
    · by_cases h2 : a2 = b2
      · by_cases h3 : a3 = b3
        · simp [h0, h1, h2, h3, Op.eqItems]
        · simp [h0, h1, h2, h3]
      · simp [h0, h1, h2]
    · simp [h0, h1]
  · simp [h0]
theorem run_eq_marks (M N : Nat) (hM : M < 2 ^ 256) (hN : N < 2 ^ 256) (w : World) :
    (Op.equalIn 10000 82 (.agg #[.int .u64 (mw M 0 : Int), .int .u64 (mw M 1 : Int), .int .u64 (mw M 2 : Int), .int .u64 (mw M 3 : Int)]) (.agg #[.int .u64 (mw N 0 : Int), .int .u64 (mw N 1 : Int), .int .u64 (mw N 2 : Int), .int .u64 (mw N 3 : Int)])).run Try.prog w = .ok (decide (M = N)) w := by
  rw [run_eq_words]
  congr 1
  apply decide_eq_decide.2
  constructor
  · rintro ⟨h0, h1, h2, h3⟩
    exact mw_ext hM hN (by omega) (by omega) (by omega) (by omega)
  · rintro rfl
    exact ⟨rfl, rfl, rfl, rfl⟩
theorem mAt_new (w : World) (M : Nat) (t : TypeId) : MAt (w.alloc (.cells #[.int .u64 (mw M 0 : Int), .int .u64 (mw M 1 : Int), .int .u64 (mw M 2 : Int), .int .u64 (mw M 3 : Int)] t)) w.heap.size M :=
  ⟨by simp, by simp, by simp, by simp⟩
theorem MAt.lt {w : World} {b M : Nat} (h : MAt w b M) : b < w.heap.size := World.block_lt_of_cell? w _ h.1
theorem MAt.below {w w' : World} {b M : Nat} (h : MAt w b M) (hb : Below w.heap.size w w') : MAt w' b M := by
  have hl := h.lt
  obtain ⟨h0, h1, h2, h3⟩ := h
  exact ⟨by rw [hb.cell hl]; exact h0, by rw [hb.cell hl]; exact h1, by rw [hb.cell hl]; exact h2, by rw [hb.cell hl]; exact h3⟩
set_option maxHeartbeats 1000000 in
set_option maxRecDepth 100000 in
theorem has_any (M n : Nat) (w : World) (hM : M < 2 ^ 256) (hn : n < 256) :
    Calls Try.prog 89 #[MV M, .int .i64 n] w fun e w' => e = .returned (.bool (M.testBit n)) ∧ Below w.heap.size w w' := by
  have HW : Hid (∀ W, Calls Try.prog 95 #[.agg #[.int .u64 (mw M 0 : Int), .int .u64 (mw M 1 : Int), .int .u64 (mw M 2 : Int), .int .u64 (mw M 3 : Int)], .int .i64 n] W fun e w' => e = .returned (MV (mset M n)) ∧ Below W.heap.size W w') := fun W => with_any M n W hn
  have hE := run_eq_marks M (mset M n) hM (mset_lt hM hn)
  have HR : Hid (M.testBit n = decide (M = mset M n)) := by unfold Hid; rw [Bool.eq_iff_iff, decide_eq_true_eq, mset_same]
  generalize decide (M = mset M n) = r at hE HR
  unfold MV
  go_enter Try.func89, Try.ntmps89
  go_wp2
  refine wp_region_noPanic ?_
  refine wp_region_held_drew (S := fun W => MAt W w.heap.size M) (by kernel_rfl) (mAt_new _ _ _) (fun hH => ?_)
  refine takeH (i := 0) (d := 5) (v := ?_) rfl rfl (by kernel_rfl) (by kernel_rfl) (by kernel_rfl) (fun _ _ _ h => h) (Or.inl ⟨by kernel_rfl, ?_⟩) hH ?_
  rotate_left 1
  · intro w hS; (try dsimp only [EntAt, MAt, Nat.zero_add] at hS); go_simp; (try with_reducible rfl)
  try simp only [Act.put, List.setIfInBounds_toArray, List.set_cons_zero, List.set_cons_succ]
  refine takeH (i := 1) (d := 6) (v := ?_) rfl rfl (by kernel_rfl) (by kernel_rfl) (by kernel_rfl) (fun _ _ _ h => h) (Or.inl ⟨by kernel_rfl, ?_⟩) hH ?_
  rotate_left 1
  · intro w hS; (try dsimp only [EntAt, MAt, Nat.zero_add] at hS); go_simp; (try with_reducible rfl)
  try simp only [Act.put, List.setIfInBounds_toArray, List.set_cons_zero, List.set_cons_succ]
  refine takeH (i := 2) (d := 7) (v := ?_) rfl rfl (by kernel_rfl) (by kernel_rfl) (by kernel_rfl) (fun _ _ _ h => h) (Or.inl ⟨by kernel_rfl, ?_⟩) hH ?_
  rotate_left 1
  · intro w hS; (try dsimp only [EntAt, MAt, Nat.zero_add] at hS); go_simp; (try with_reducible rfl)
  try simp only [Act.put, List.setIfInBounds_toArray, List.set_cons_zero, List.set_cons_succ]
  refine wpAnyH_ready (rs := [3]) (by kernel_rfl) (by simp) ?_
  refine AllReadyH.cons rfl (fun K hK => ?_) AllReadyH.nil
  go_simp
  refine (HW.out _).mono ?_
  rintro e w' ⟨rfl, hb'⟩
  unfold MV
  refine hK.out _ _ (hH.below hb') (fun hA => ?_)
  clear hK K
  try simp only [Act.put, List.setIfInBounds_toArray, List.set_cons_zero, List.set_cons_succ]
  refine takeH (i := 4) (d := 9) (v := ?_) rfl rfl (by kernel_rfl) (by kernel_rfl) (by kernel_rfl) (fun _ _ _ h => h) (Or.inl ⟨by kernel_rfl, ?_⟩) hA ?_
  rotate_left 1
  · intro w hS; (try dsimp only [EntAt, MAt, Nat.zero_add] at hS); go_simp; (try with_reducible rfl)
  try simp only [Act.put, List.setIfInBounds_toArray, List.set_cons_zero, List.set_cons_succ]
  refine takeH (i := 5) (d := 4) (v := ?_) rfl rfl (by kernel_rfl) (by kernel_rfl) (by kernel_rfl) (fun _ _ _ h => h) (Or.inl ⟨by kernel_rfl, ?_⟩) hA ?_
  rotate_left 1
  · intro w hS; (try dsimp only [EntAt, MAt, Nat.zero_add] at hS); go_simp; (try with_reducible rfl)
  try simp only [Act.put, List.setIfInBounds_toArray, List.set_cons_zero, List.set_cons_succ]
  refine wpAnyH_done (by kernel_rfl) ?_ _
  refine NoPanic.normal ?_
  have bb := (below1 w (.cells #[.int .u64 (mw M 0 : Int), .int .u64 (mw M 1 : Int), .int .u64 (mw M 2 : Int), .int .u64 (mw M 3 : Int)] 82)).drew.trans (hb'.mono (by simp))
  go_wp2
  go_ret
  exact ⟨ret_bool HR.out.symm, bb⟩
/-- Marks in a block of the call's own. -/
def MBox (w : World) (b : Nat) (M : Nat) : Prop := MAt w b M ∧ ∀ o, w.frozen? ⟨b, o, none⟩ = false
theorem MBox.below {w w' : World} {b M : Nat} (h : MBox w b M) (hb : Below w.heap.size w w') : MBox w' b M :=
  ⟨h.1.below hb, fun o => ((bcell hb).2 b o h.1.lt).trans (h.2 o)⟩
theorem mBox_new (w : World) (M : Nat) (t : TypeId) : MBox (w.alloc (.cells #[.int .u64 (mw M 0 : Int), .int .u64 (mw M 1 : Int), .int .u64 (mw M 2 : Int), .int .u64 (mw M 3 : Int)] t)) w.heap.size M :=
  ⟨mAt_new w M t, fun o => by simp⟩
theorem mBox_zero (w : World) (t : TypeId) : MBox (w.alloc (.cells #[.int .u64 0, .int .u64 0, .int .u64 0, .int .u64 0] t)) w.heap.size 0 :=
  ⟨⟨by simp [mw], by simp [mw], by simp [mw], by simp [mw]⟩, fun o => by simp⟩
theorem MBox.facts {w : World} {b M : Nat} (h : MBox w b M) : w.cell? ⟨b, 0, none⟩ = some (.int .u64 (mw M 0 : Int)) ∧ w.cell? ⟨b, 1, none⟩ = some (.int .u64 (mw M 1 : Int)) ∧ w.cell? ⟨b, 2, none⟩ = some (.int .u64 (mw M 2 : Int)) ∧ w.cell? ⟨b, 3, none⟩ = some (.int .u64 (mw M 3 : Int)) ∧
    w.frozen? ⟨b, 0, none⟩ = false ∧ w.frozen? ⟨b, 1, none⟩ = false ∧ w.frozen? ⟨b, 2, none⟩ = false ∧ w.frozen? ⟨b, 3, none⟩ = false := by
  obtain ⟨⟨h0, h1, h2, h3⟩, hf⟩ := h
  exact ⟨h0, h1, h2, h3, hf 0, hf 1, hf 2, hf 3⟩
theorem mrem (d : Nat) (h : d < 2147483647) : ((d : Int)).tmod 256 = ((d % 256 : Nat) : Int) := by rw [Int.tmod_eq_emod_of_nonneg (by omega)]; omega
set_option maxHeartbeats 1000000 in
set_option maxRecDepth 100000 in
theorem withKey_any (M : Nat) (key : ByteArray) (w : World) (hk : key.size ≤ 1099511627776) :
    Calls Try.prog 67 #[MV M, .string key] w fun e w' => e = .returned (MV (mkey M key)) ∧ Below w.heap.size w w' := by
  have HD1 : Hid (∀ W, Calls Try.prog 96 #[.int .i64 1, .string key] W fun e w' => e = .returned (.int .i64 (dig 1 key.data.toList : Int)) ∧ Below W.heap.size W w') := fun W => withText_any 1 key W (by omega) hk
  have HD2 : Hid (∀ W, Calls Try.prog 96 #[.int .i64 (dig 1 key.data.toList : Int), .string ⟨#[42]⟩] W fun e w' => e = .returned (.int .i64 (dig 1 (key.data.toList ++ [42]) : Int)) ∧ Below W.heap.size W w') := fun W => by
    have := withText_any (dig 1 key.data.toList) ⟨#[42]⟩ W (dig_lt _ _ (by omega)) (by decide)
    rw [dig_append]
    exact this
  have l1 := mrem _ (dig_lt key.data.toList 1 (by omega))
  have l2 := mrem _ (dig_lt (key.data.toList ++ [42]) 1 (by omega))
  have HK : Hid (mkey M key = mset (mset M (dig 1 key.data.toList % 256)) (dig 1 (key.data.toList ++ [42]) % 256)) := rfl
  have m1 : dig 1 key.data.toList % 256 < 256 := Nat.mod_lt _ (by omega)
  have m2 : dig 1 (key.data.toList ++ [42]) % 256 < 256 := Nat.mod_lt _ (by omega)
  generalize dig 1 key.data.toList = d1 at *
  generalize dig 1 (key.data.toList ++ [42]) = d2 at *
  obtain ⟨n1, hn1⟩ : ∃ n, n = d1 % 256 := ⟨_, rfl⟩
  obtain ⟨n2, hn2⟩ : ∃ n, n = d2 % 256 := ⟨_, rfl⟩
  rw [← hn1] at l1 m1 HK
  rw [← hn2] at l2 m2 HK
  clear hn1 hn2
  rw [HK.out]
  clear HK
  have HW1 : Hid (∀ W, Calls Try.prog 95 #[.agg #[.int .u64 (mw M 0 : Int), .int .u64 (mw M 1 : Int), .int .u64 (mw M 2 : Int), .int .u64 (mw M 3 : Int)], .int .i64 n1] W fun e w' => e = .returned (MV (mset M n1)) ∧ Below W.heap.size W w') := fun W => with_any M n1 W m1
  have HW2 : Hid (∀ W, Calls Try.prog 95 #[.agg #[.int .u64 (mw (mset M n1) 0 : Int), .int .u64 (mw (mset M n1) 1 : Int), .int .u64 (mw (mset M n1) 2 : Int), .int .u64 (mw (mset M n1) 3 : Int)], .int .i64 n2] W fun e w' => e = .returned (MV (mset (mset M n1) n2)) ∧ Below W.heap.size W w') := fun W => with_any (mset M n1) n2 W m2
  generalize mset M n1 = M1 at *
  generalize mset M1 n2 = M2 at *
  have hz0 := mBox_new w M 82
  obtain ⟨W0, hW0⟩ : ∃ W, W = w.alloc (.cells #[.int .u64 (mw M 0 : Int), .int .u64 (mw M 1 : Int), .int .u64 (mw M 2 : Int), .int .u64 (mw M 3 : Int)] 82) := ⟨_, rfl⟩
  have hs0 : W0.heap.size = w.heap.size + 1 := by rw [hW0]; simp
  have hz := hz0.below (below1 _ (.cells #[.int .u64 0, .int .u64 0, .int .u64 0, .int .u64 0] 82))
  have hy := mBox_zero W0 82
  have hbb := below2 w (.cells #[.int .u64 (mw M 0 : Int), .int .u64 (mw M 1 : Int), .int .u64 (mw M 2 : Int), .int .u64 (mw M 3 : Int)] 82) (.cells #[.int .u64 0, .int .u64 0, .int .u64 0, .int .u64 0] 82)
  rw [hs0, hW0] at hy
  clear hz0 hs0 hW0 W0
  unfold MV at *
  go_enter Try.func67, Try.ntmps67
  go_wp2_with fail
  refine (HD1.out _).mono ?_
  rintro e w1 ⟨rfl, hb1⟩
  have b1 := hbb.trans (hb1.mono (by simp; omega))
  replace hz := hz.below hb1
  replace hy := hy.below hb1
  clear hb1 hbb
  obtain ⟨c0, c1, c2, c3, _, _, _, _⟩ := hz.facts
  clear hz
  go_wp2_with fail
  refine (HW1.out _).mono ?_
  rintro e w2 ⟨rfl, hb2⟩
  have b2 := b1.trans (hb2.mono b1.size)
  replace hy := hy.below hb2
  clear hb2 b1 c0 c1 c2 c3
  go_wp2_with fail
  refine (HD2.out _).mono ?_
  rintro e w3 ⟨rfl, hb3⟩
  have b3 := b2.trans (hb3.mono b2.size)
  replace hy := hy.below hb3
  clear hb3 b2
  go_wp2_with fail
  refine (HW2.out _).mono ?_
  rintro e w4 ⟨rfl, hb4⟩
  have b4 := b3.trans (hb4.mono b3.size)
  replace hy := hy.below hb4
  clear hb4 b3
  obtain ⟨z0, z1, z2, z3, f0, f1, f2, f3⟩ := hy.facts
  clear hy
  go_wp2
  exact bodyPost_ret (v := .agg #[.int .u64 (mw M2 0 : Int), .int .u64 (mw M2 1 : Int), .int .u64 (mw M2 2 : Int), .int .u64 (mw M2 3 : Int)]) (by simp [results, Try.results67, go_sem, z0, z1, z2, z3]) rfl ⟨rfl, below4 b4 (Nat.le_succ _) _ _ _ _ _ _ _ _⟩
end Go.Proofs.Ythaobdknpgnapaa
