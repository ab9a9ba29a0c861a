/- The contracts of both ShowMoves: four numbers in decimal digits with blanks between. -/
-- UNF Gen
import Derived.Test.YtdleolgkbkoekaaDoorBnkOk
import Derived.Test.YtdleolgkbkoekaaDoorBnkLaw
import Derived.Test.YtdleolgkbkoekaaDoorFmt
import Derived.Laws.Concat
import Derived.Lib.Join
namespace Go.Proofs.YtdleolgkbkoekaaDoor
open Go.RowKit
/-- The text of a right move. -/
def shwL (m : Mov) : List UInt8 := Lib.itoa m.fr ++ (32 :: (Lib.itoa m.to' ++ (32 :: (Lib.itoa m.sum ++ (32 :: Lib.itoa m.cou)))))
def shwS (m : Mov) : ByteArray := if MovP m then ⟨(shwL m).toArray⟩ else ⟨#[]⟩
theorem addS (x y : List UInt8) (hx : x.length ≤ 1000) (hy : y.length ≤ 1000) (w : World) : (Op.stringOp .add ⟨x.toArray⟩ ⟨y.toArray⟩).run Tryd.prog w = .ok (.string ⟨(x ++ y).toArray⟩) w := run_string_add_lists w x y (by omega) (by omega)
theorem ret_str {a b : ByteArray} (h : a = b) : Ending.returned (.string a) = .returned (.string b) := by rw [h]
set_option maxHeartbeats 4000000 in
set_option maxRecDepth 100000 in
theorem specShowMove_any (m : Mov) (w : World) :
    Calls Tryd.prog 30 #[.agg #[.int .i64 m.fr, .int .i64 m.to', .int .i64 m.sum, .int .i64 m.cou]] w fun e w' => e = .returned (.string (shwS m)) ∧ Below w.heap.size w w' := by
  have HM : Hid (∀ W, Calls Tryd.prog 14 #[.agg #[.int .i64 m.fr, .int .i64 m.to', .int .i64 m.sum, .int .i64 m.cou]] W fun e w' => e = .returned (.bool (movOk m)) ∧ Below W.heap.size W w') := fun W => specMoveOk_any m W
  have b0 := below1 w (.cells #[.int .i64 m.fr, .int .i64 m.to', .int .i64 m.sum, .int .i64 m.cou] 28)
  have t0 : Box4 (w.alloc (.cells #[.int .i64 m.fr, .int .i64 m.to', .int .i64 m.sum, .int .i64 m.cou] 28)) w.heap.size 28 m := heap_alloc_new w _
  cases hk : movOk m with
  | false =>
    rw [hk] at HM
    have RES : Hid (shwS m = ⟨#[]⟩) := by
      unfold Hid shwS
      rw [if_neg (fun h => by rw [movOk_iff.2 h] at hk; cases hk)]
    clear hk
    obtain ⟨d0, d1, d2, d3⟩ := t0.facts
    go_enter Tryd.func30, Tryd.ntmps30
    go_wp2_with fail
    refine (HM.out _).mono ?_
    rintro e w1 ⟨rfl, hb1⟩
    have b1 := b0.trans (hb1.mono b0.size)
    clear d0 d1 d2 d3 t0 hb1 b0
    go_wp2
    go_ret
    exact ⟨ret_str RES.out.symm, b1⟩
  | true =>
    rw [hk] at HM
    have hp := movOk_iff.1 hk
    have RES : Hid (shwS m = ⟨(shwL m).toArray⟩) := by unfold Hid shwS; rw [if_pos hp]
    obtain ⟨a, b, s, c⟩ := m
    obtain ⟨⟨pa0, pa1⟩, ⟨pb0, pb1⟩, ⟨ps0, ps1⟩, ⟨pc0, pc1⟩⟩ := hp
    simp only at pa0 pa1 pb0 pb1 ps0 ps1 pc0 pc1 HM RES b0 t0 ⊢
    clear hk
    have FM : ∀ n : Int, 0 ≤ n → n ≤ 1000000000 → (Lib.itoa n).length ≤ 21 ∧ ∀ W, Calls Tryd.prog 41 #[.int .i64 n] W fun e w' => e = .returned (.string (itoaS n)) ∧ Below W.heap.size W w' := fun n h0 h1 => ⟨Lib.itoa_length_le n (by omega) (by omega), fun W => l2Int_any n W (by omega) (by omega)⟩
    obtain ⟨na, Fa⟩ := FM a (by omega) (by omega)
    obtain ⟨nb, Fb⟩ := FM b (by omega) (by omega)
    obtain ⟨ns, Fs⟩ := FM s (by omega) (by omega)
    obtain ⟨nc, Fc⟩ := FM c (by omega) (by omega)
    have HA : Hid (∀ W, Calls Tryd.prog 41 #[.int .i64 a] W fun e w' => e = .returned (.string (itoaS a)) ∧ Below W.heap.size W w') := Fa
    have HB : Hid (∀ W, Calls Tryd.prog 41 #[.int .i64 b] W fun e w' => e = .returned (.string (itoaS b)) ∧ Below W.heap.size W w') := Fb
    have HS : Hid (∀ W, Calls Tryd.prog 41 #[.int .i64 s] W fun e w' => e = .returned (.string (itoaS s)) ∧ Below W.heap.size W w') := Fs
    have HC : Hid (∀ W, Calls Tryd.prog 41 #[.int .i64 c] W fun e w' => e = .returned (.string (itoaS c)) ∧ Below W.heap.size W w') := Fc
    clear FM Fa Fb Fs Fc
    have HR : Hid (shwL ⟨a, b, s, c⟩ = Lib.itoa a ++ [32] ++ Lib.itoa b ++ [32] ++ Lib.itoa s ++ [32] ++ Lib.itoa c) := by unfold Hid shwL; simp
    have A1 : ∀ W, (Op.stringOp .add (itoaS a) ⟨#[32]⟩).run Tryd.prog W = .ok (.string ⟨(Lib.itoa a ++ [32]).toArray⟩) W := fun W => addS (Lib.itoa a) [32] (by omega) (by simp) W
    have A2 : ∀ W, (Op.stringOp .add ⟨(Lib.itoa a ++ [32]).toArray⟩ (itoaS b)).run Tryd.prog W = .ok (.string ⟨(Lib.itoa a ++ [32] ++ Lib.itoa b).toArray⟩) W := fun W => addS _ (Lib.itoa b) (by simp; omega) (by omega) W
    have A3 : ∀ W, (Op.stringOp .add ⟨(Lib.itoa a ++ [32] ++ Lib.itoa b).toArray⟩ ⟨#[32]⟩).run Tryd.prog W = .ok (.string ⟨(Lib.itoa a ++ [32] ++ Lib.itoa b ++ [32]).toArray⟩) W := fun W => addS _ [32] (by simp; omega) (by simp) W
    have A4 : ∀ W, (Op.stringOp .add ⟨(Lib.itoa a ++ [32] ++ Lib.itoa b ++ [32]).toArray⟩ (itoaS s)).run Tryd.prog W = .ok (.string ⟨(Lib.itoa a ++ [32] ++ Lib.itoa b ++ [32] ++ Lib.itoa s).toArray⟩) W := fun W => addS _ (Lib.itoa s) (by simp; omega) (by omega) W
    have A5 : ∀ W, (Op.stringOp .add ⟨(Lib.itoa a ++ [32] ++ Lib.itoa b ++ [32] ++ Lib.itoa s).toArray⟩ ⟨#[32]⟩).run Tryd.prog W = .ok (.string ⟨(Lib.itoa a ++ [32] ++ Lib.itoa b ++ [32] ++ Lib.itoa s ++ [32]).toArray⟩) W := fun W => addS _ [32] (by simp; omega) (by simp) W
    have A6 : ∀ W, (Op.stringOp .add ⟨(Lib.itoa a ++ [32] ++ Lib.itoa b ++ [32] ++ Lib.itoa s ++ [32]).toArray⟩ (itoaS c)).run Tryd.prog W = .ok (.string ⟨(Lib.itoa a ++ [32] ++ Lib.itoa b ++ [32] ++ Lib.itoa s ++ [32] ++ Lib.itoa c).toArray⟩) W := fun W => addS _ (Lib.itoa c) (by simp; omega) (by omega) W
    have HF : Hid (shwS ⟨a, b, s, c⟩ = ⟨(Lib.itoa a ++ [32] ++ Lib.itoa b ++ [32] ++ Lib.itoa s ++ [32] ++ Lib.itoa c).toArray⟩) := by unfold Hid; rw [RES.out, HR.out]
    generalize (⟨(Lib.itoa a ++ [32] ++ Lib.itoa b ++ [32] ++ Lib.itoa s ++ [32] ++ Lib.itoa c).toArray⟩ : ByteArray) = T6 at A6 HF
    generalize (⟨(Lib.itoa a ++ [32] ++ Lib.itoa b ++ [32] ++ Lib.itoa s ++ [32]).toArray⟩ : ByteArray) = T5 at A5 A6
    generalize (⟨(Lib.itoa a ++ [32] ++ Lib.itoa b ++ [32] ++ Lib.itoa s).toArray⟩ : ByteArray) = T4 at A4 A5
    generalize (⟨(Lib.itoa a ++ [32] ++ Lib.itoa b ++ [32]).toArray⟩ : ByteArray) = T3 at A3 A4
    generalize (⟨(Lib.itoa a ++ [32] ++ Lib.itoa b).toArray⟩ : ByteArray) = T2 at A2 A3
    generalize (⟨(Lib.itoa a ++ [32]).toArray⟩ : ByteArray) = T1 at A1 A2
    clear na nb ns nc RES HR
    generalize itoaS a = da at HA A1
    generalize itoaS b = db at HB A2
    generalize itoaS s = ds at HS A4
    generalize itoaS c = dc at HC A6
    obtain ⟨d0, d1, d2, d3⟩ := t0.facts
    simp only at d0 d1 d2 d3
    go_enter Tryd.func30, Tryd.ntmps30
    go_wp2_with fail
    refine (HM.out _).mono ?_
    rintro e w1 ⟨rfl, hb1⟩
    have b1 := b0.trans (hb1.mono b0.size)
    have t1 : Box4 w1 w.heap.size 28 ⟨a, b, s, c⟩ := (hb1.block _ t0.lt).trans t0
    clear d0 d1 d2 d3 t0 hb1 b0
    go_wp2_with fail
    refine wp_region_noPanic ?_
    refine wp_region_held_drew (S := fun W => W.cell? ⟨w.heap.size, 0, none⟩ = some (.int .i64 a) ∧ W.cell? ⟨w.heap.size, 1, none⟩ = some (.int .i64 b) ∧ W.cell? ⟨w.heap.size, 2, none⟩ = some (.int .i64 s) ∧ W.cell? ⟨w.heap.size, 3, none⟩ = some (.int .i64 c)) (by kernel_rfl) t1.facts (fun hS => ?_)
    replace b1 := b1.drew
    have tD : Box4 w1.drew w.heap.size 28 ⟨a, b, s, c⟩ := t1
    clear t1
    refine tkG 0 6 hS ?_
    try simp only [Act.put, List.setIfInBounds_toArray, List.set_cons_zero, List.set_cons_succ]
    refine tkG 1 7 hS ?_
    try simp only [Act.put, List.setIfInBounds_toArray, List.set_cons_zero, List.set_cons_succ]
    refine tkG 4 10 hS ?_
    try simp only [Act.put, List.setIfInBounds_toArray, List.set_cons_zero, List.set_cons_succ]
    refine tkG 5 11 hS ?_
    try simp only [Act.put, List.setIfInBounds_toArray, List.set_cons_zero, List.set_cons_succ]
    refine tkG 9 15 hS ?_
    try simp only [Act.put, List.setIfInBounds_toArray, List.set_cons_zero, List.set_cons_succ]
    refine tkG 10 16 hS ?_
    try simp only [Act.put, List.setIfInBounds_toArray, List.set_cons_zero, List.set_cons_succ]
    refine tkG 14 20 hS ?_
    try simp only [Act.put, List.setIfInBounds_toArray, List.set_cons_zero, List.set_cons_succ]
    refine tkG 15 21 hS ?_
    try simp only [Act.put, List.setIfInBounds_toArray, List.set_cons_zero, List.set_cons_succ]
    revert hS b1 tD
    generalize w1.drew = V
    intro hS b1 tD
    clear w1
    refine wpAnyH_ready (rs := [2]) (by kernel_rfl) (by simp) ?_
    refine AllReadyH.cons rfl (fun K hK => ?_) AllReadyH.nil
    go_simp
    refine (HA.out _).mono ?_
    rintro e V1 ⟨rfl, hb⟩
    have tE : Box4 V1 w.heap.size 28 ⟨a, b, s, c⟩ := (hb.block _ tD.lt).trans tD
    replace b1 := b1.trans (hb.mono b1.size)
    refine hK.out _ _ tE.facts (fun hS1 => ?_)
    clear hK K hS hb tD
    try simp only [Act.put, List.setIfInBounds_toArray, List.set_cons_zero, List.set_cons_succ]
    refine tkG 3 9 hS1 ?_
    try simp only [Act.put, List.setIfInBounds_toArray, List.set_cons_zero, List.set_cons_succ]
    refine wpAnyH_ready (rs := [6]) (by kernel_rfl) (by simp) ?_
    refine AllReadyH.cons rfl (fun K hK => ?_) AllReadyH.nil
    go_simp
    refine (HB.out _).mono ?_
    rintro e V2 ⟨rfl, hb⟩
    have tD : Box4 V2 w.heap.size 28 ⟨a, b, s, c⟩ := (hb.block _ tE.lt).trans tE
    replace b1 := b1.trans (hb.mono b1.size)
    refine hK.out _ _ tD.facts (fun hS2 => ?_)
    clear hK K hS1 hb tE
    try simp only [Act.put, List.setIfInBounds_toArray, List.set_cons_zero, List.set_cons_succ]
    refine tkG 7 13 hS2 ?_
    try simp only [Act.put, List.setIfInBounds_toArray, List.set_cons_zero, List.set_cons_succ]
    refine tkG 8 14 hS2 ?_
    try simp only [Act.put, List.setIfInBounds_toArray, List.set_cons_zero, List.set_cons_succ]
    refine wpAnyH_ready (rs := [11]) (by kernel_rfl) (by simp) ?_
    refine AllReadyH.cons rfl (fun K hK => ?_) AllReadyH.nil
    go_simp
    refine (HS.out _).mono ?_
    rintro e V3 ⟨rfl, hb⟩
    have tE : Box4 V3 w.heap.size 28 ⟨a, b, s, c⟩ := (hb.block _ tD.lt).trans tD
    replace b1 := b1.trans (hb.mono b1.size)
    refine hK.out _ _ tE.facts (fun hS3 => ?_)
    clear hK K hS2 hb tD
    try simp only [Act.put, List.setIfInBounds_toArray, List.set_cons_zero, List.set_cons_succ]
    refine tkG 12 18 hS3 ?_
    try simp only [Act.put, List.setIfInBounds_toArray, List.set_cons_zero, List.set_cons_succ]
    refine tkG 13 19 hS3 ?_
    try simp only [Act.put, List.setIfInBounds_toArray, List.set_cons_zero, List.set_cons_succ]
    refine wpAnyH_ready (rs := [16]) (by kernel_rfl) (by simp) ?_
    refine AllReadyH.cons rfl (fun K hK => ?_) AllReadyH.nil
    go_simp
    refine (HC.out _).mono ?_
    rintro e V4 ⟨rfl, hb⟩
    have tD : Box4 V4 w.heap.size 28 ⟨a, b, s, c⟩ := (hb.block _ tE.lt).trans tE
    replace b1 := b1.trans (hb.mono b1.size)
    refine hK.out _ _ tD.facts (fun hS4 => ?_)
    clear hK K hS3 hb tE
    try simp only [Act.put, List.setIfInBounds_toArray, List.set_cons_zero, List.set_cons_succ]
    refine tkG 17 23 hS4 ?_
    try simp only [Act.put, List.setIfInBounds_toArray, List.set_cons_zero, List.set_cons_succ]
    refine tkG 18 2 hS4 ?_
    try simp only [Act.put, List.setIfInBounds_toArray, List.set_cons_zero, List.set_cons_succ]
    refine wpAnyH_done (by kernel_rfl) ?_ _
    refine NoPanic.normal ?_
    clear hS4 tD
    go_wp2
    go_ret
    exact ⟨ret_str HF.out.symm, b1⟩
theorem shw_join (a b s c : Int) : Lib.join ([itoaS a, itoaS b, itoaS s, itoaS c].map (·.data.toList)) (⟨#[32]⟩ : ByteArray).data.toList = shwL ⟨a, b, s, c⟩ := by
  unfold shwL itoaS
  simp [Lib.join, List.intercalate]
theorem shwL_len {m : Mov} (h : MovP m) : (shwL m).length ≤ 87 := by
  obtain ⟨⟨pa0, pa1⟩, ⟨pb0, pb1⟩, ⟨ps0, ps1⟩, ⟨pc0, pc1⟩⟩ := h
  have h1 := Lib.itoa_length_le m.fr (by omega) (by omega)
  have h2 := Lib.itoa_length_le m.to' (by omega) (by omega)
  have h3 := Lib.itoa_length_le m.sum (by omega) (by omega)
  have h4 := Lib.itoa_length_le m.cou (by omega) (by omega)
  unfold shwL
  simp only [List.length_append, List.length_cons]
  omega
theorem rdS_one (w : World) (s : ByteArray) : RdS (w.alloc (.cells #[.string s] 9)) (.slice (some ⟨w.heap.size, 0, none⟩) 1 1) [s] :=
  ⟨_, 1, rfl, Nat.le_refl _, by unfold maxLen; omega, .inr ⟨w.heap.size, 0, rfl, fun i hi => by
    have : i = 0 := by simpa using hi
    subst this
    simp⟩⟩
/-- One word more. -/
theorem word_more {w W W1 W2 : World} {v : Value} {ss : List ByteArray} {s : ByteArray} (ho : OwnS W w.heap.size v ss) (hb : Below w.heap.size w W) (hb1 : Below W.heap.size W W1) (hg : (W1.alloc (.cells #[.string s] 9)).grownBy W2 v.ownBlock) : Below w.heap.size w W2 :=
  ((hb.trans (hb1.mono hb.size)).alloc (hb.trans (hb1.mono hb.size)).size _).grown hg (by have := hb.size; have := hb1.size; simp; omega) (fun k hk => (World.ownsRow.lt ho k hk).1)
set_option maxHeartbeats 8000000 in
set_option maxRecDepth 100000 in
theorem implShowMove_any (m : Mov) (w : World) (ht : Tab w) :
    Calls Tryd.prog 44 #[.agg #[.int .i64 m.fr, .int .i64 m.to', .int .i64 m.sum, .int .i64 m.cou]] w fun e w' => e = .returned (.string (shwS m)) ∧ Below w.heap.size w w' := by
  have HM : Hid (∀ W, Calls Tryd.prog 13 #[.agg #[.int .i64 m.fr, .int .i64 m.to', .int .i64 m.sum, .int .i64 m.cou]] W fun e w' => e = .returned (.bool (movOk m)) ∧ Below W.heap.size W w') := fun W => implMoveOk_any m W
  have b0 := below1 w (.cells #[.int .i64 m.fr, .int .i64 m.to', .int .i64 m.sum, .int .i64 m.cou] 28)
  have t0 : Box4 (w.alloc (.cells #[.int .i64 m.fr, .int .i64 m.to', .int .i64 m.sum, .int .i64 m.cou] 28)) w.heap.size 28 m := heap_alloc_new w _
  cases hk : movOk m with
  | false =>
    rw [hk] at HM
    have RES : Hid (shwS m = ⟨#[]⟩) := by
      unfold Hid shwS
      rw [if_neg (fun h => by rw [movOk_iff.2 h] at hk; cases hk)]
    clear hk
    obtain ⟨d0, d1, d2, d3⟩ := t0.facts
    go_enter Tryd.func44, Tryd.ntmps44
    go_wp2_with fail
    refine (HM.out _).mono ?_
    rintro e w1 ⟨rfl, hb1⟩
    have b1 := b0.trans (hb1.mono b0.size)
    clear d0 d1 d2 d3 t0 hb1 b0
    go_wp2
    go_ret
    exact ⟨ret_str RES.out.symm, b1⟩
  | true =>
    rw [hk] at HM
    have hp := movOk_iff.1 hk
    have RES : Hid (shwS m = ⟨(shwL m).toArray⟩) := by unfold Hid shwS; rw [if_pos hp]
    have HL := shwL_len hp
    obtain ⟨a, b, s, c⟩ := m
    obtain ⟨⟨pa0, pa1⟩, ⟨pb0, pb1⟩, ⟨ps0, ps1⟩, ⟨pc0, pc1⟩⟩ := hp
    simp only at pa0 pa1 pb0 pb1 ps0 ps1 pc0 pc1 HM RES b0 t0 HL ⊢
    clear hk
    have HA : Hid (∀ W, Tab W → Calls Tryd.prog 50 #[.int .i64 a, .int .i64 10] W fun e w' => e = .returned (.string (itoaS a)) ∧ Below W.heap.size W w') := fun W h => fmt_any a W (by omega) (by omega) h
    have HB : Hid (∀ W, Tab W → Calls Tryd.prog 50 #[.int .i64 b, .int .i64 10] W fun e w' => e = .returned (.string (itoaS b)) ∧ Below W.heap.size W w') := fun W h => fmt_any b W (by omega) (by omega) h
    have HS : Hid (∀ W, Tab W → Calls Tryd.prog 50 #[.int .i64 s, .int .i64 10] W fun e w' => e = .returned (.string (itoaS s)) ∧ Below W.heap.size W w') := fun W h => fmt_any s W (by omega) (by omega) h
    have HC : Hid (∀ W, Tab W → Calls Tryd.prog 50 #[.int .i64 c, .int .i64 10] W fun e w' => e = .returned (.string (itoaS c)) ∧ Below W.heap.size W w') := fun W h => fmt_any c W (by omega) (by omega) h
    have HJ : Hid (∀ bk cp W, (∀ (j : Nat) x, [itoaS a, itoaS b, itoaS s, itoaS c][j]? = some x → W.cell? ⟨bk, 0 + j, none⟩ = some (.string x)) → bk < W.heap.size → 4 ≤ cp → Calls Tryd.prog 51 #[.slice (some ⟨bk, 0, none⟩) 4 cp, .string ⟨#[32]⟩] W fun e w' => e = .returned (.string (shwS ⟨a, b, s, c⟩)) ∧ Below W.heap.size W w') := fun bk cp W h1 h2 h3 => by
      have h := Tryd.strings_Join bk 0 cp [itoaS a, itoaS b, itoaS s, itoaS c] ⟨#[32]⟩ W h1 h2 (by simp) (by simpa using h3) (by rw [shw_join]; omega)
      rw [shw_join] at h
      rw [RES.out]
      exact h
    clear pa0 pa1 pb0 pb1 ps0 ps1 pc0 pc1 HL RES
    generalize shwS ⟨a, b, s, c⟩ = R at HJ
    generalize itoaS a = da at HA HJ
    generalize itoaS b = db at HB HJ
    generalize itoaS s = ds at HS HJ
    generalize itoaS c = dc at HC HJ
    obtain ⟨d0, d1, d2, d3⟩ := t0.facts
    simp only at d0 d1 d2 d3
    have i0 : ∀ W, (Instr.index 67 (.agg #[.int .i64 a, .int .i64 b, .int .i64 s, .int .i64 c]) (.int .i64 0)).run Tryd.prog W = .ok (.int .i64 a) W := fun _ => by kernel_rfl
    have i1 : ∀ W, (Instr.index 67 (.agg #[.int .i64 a, .int .i64 b, .int .i64 s, .int .i64 c]) (.int .i64 1)).run Tryd.prog W = .ok (.int .i64 b) W := fun _ => by kernel_rfl
    have i2 : ∀ W, (Instr.index 67 (.agg #[.int .i64 a, .int .i64 b, .int .i64 s, .int .i64 c]) (.int .i64 2)).run Tryd.prog W = .ok (.int .i64 s) W := fun _ => by kernel_rfl
    have i3 : ∀ W, (Instr.index 67 (.agg #[.int .i64 a, .int .i64 b, .int .i64 s, .int .i64 c]) (.int .i64 3)).run Tryd.prog W = .ok (.int .i64 c) W := fun _ => by kernel_rfl
    go_enter Tryd.func44, Tryd.ntmps44
    go_wp2_with fail
    refine (HM.out _).mono ?_
    rintro e w1 ⟨rfl, hb1⟩
    have b1 := b0.trans (hb1.mono b0.size)
    have t1 : Box4 w1 w.heap.size 28 ⟨a, b, s, c⟩ := (hb1.block _ t0.lt).trans t0
    clear d0 d1 d2 d3 t0 hb1 b0
    have t2 : Box4 (w1.alloc (.cells #[] 9)) w.heap.size 28 ⟨a, b, s, c⟩ := ((below1 w1 _).block _ t1.lt).trans t1
    have b2 := b1.alloc b1.size (.cells #[] 9)
    have o0 : OwnS (w1.alloc (.cells #[] 9)) w.heap.size (.slice (some ⟨w1.heap.size, 0, none⟩) 0 0) [] := OwnS.mono (ownS_none w1) b1.size
    obtain ⟨d0, d1, d2, d3⟩ := t2.facts
    simp only at d0 d1 d2 d3
    clear t1 b1
    go_wp2
    generalize w1.alloc (.cells #[] 9) = W0 at t2 b2 o0 d0 d1 d2 d3 ⊢
    clear d0 d1 d2 d3 t2
    refine wp_loop_rounds 5 ?_
    rw [rounds_succ]
    go_wp2_with fail
    refine (HA.out _ (ht.on b2)).mono ?_
    rintro e X1 ⟨rfl, hb1⟩
    have p1 := (o0.below hb1).below (below1 X1 (.cells #[.string da] 9))
    have q1 := rdS_one X1 da
    have z1 : w.heap.size ≤ (X1.alloc (.cells #[.string da] 9)).heap.size := by have := b2.size; have := hb1.size; simp; omega
    go_wp2_with (at_builtin; (refine wpList_append_txts rfl _ _ rfl w.heap.size _ _ [] [da] rfl rfl p1 q1 (fun _ _ e => by cases e) (by simp) z1 ?_))
    intro v1 W1 o1 hg1
    have b1 := word_more o0 b2 hb1 hg1
    clear p1 q1 z1 hb1 hg1 o0 b2
    obtain ⟨va1, vc1, hv1⟩ := ownSl o1
    simp only [List.length_cons, List.length_nil] at hv1 o1
    subst hv1
    go_wp2
    rw [rounds_succ]
    go_wp2_with fail
    refine (HB.out _ (ht.on b1)).mono ?_
    rintro e X2 ⟨rfl, hb2⟩
    have p2 := (o1.below hb2).below (below1 X2 (.cells #[.string db] 9))
    have q2 := rdS_one X2 db
    have z2 : w.heap.size ≤ (X2.alloc (.cells #[.string db] 9)).heap.size := by have := b1.size; have := hb2.size; simp; omega
    go_wp2_with (at_builtin; (refine wpList_append_txts rfl _ _ rfl w.heap.size _ _ [da] [db] rfl rfl p2 q2 (fun _ _ e => by cases e) (by simp) z2 ?_))
    intro v2 W2 o2 hg2
    have b2 := word_more o1 b1 hb2 hg2
    clear p2 q2 z2 hb2 hg2 o1 b1
    obtain ⟨va2, vc2, hv2⟩ := ownSl o2
    simp only [List.length_cons, List.length_nil] at hv2 o2
    subst hv2
    go_wp2
    rw [rounds_succ]
    go_wp2_with fail
    refine (HS.out _ (ht.on b2)).mono ?_
    rintro e X3 ⟨rfl, hb3⟩
    have p3 := (o2.below hb3).below (below1 X3 (.cells #[.string ds] 9))
    have q3 := rdS_one X3 ds
    have z3 : w.heap.size ≤ (X3.alloc (.cells #[.string ds] 9)).heap.size := by have := b2.size; have := hb3.size; simp; omega
    go_wp2_with (at_builtin; (refine wpList_append_txts rfl _ _ rfl w.heap.size _ _ [da, db] [ds] rfl rfl p3 q3 (fun _ _ e => by cases e) (by simp) z3 ?_))
    intro v3 W3 o3 hg3
    have b3 := word_more o2 b2 hb3 hg3
    clear p3 q3 z3 hb3 hg3 o2 b2
    obtain ⟨va3, vc3, hv3⟩ := ownSl o3
    simp only [List.length_cons, List.length_nil] at hv3 o3
    subst hv3
    go_wp2
    rw [rounds_succ]
    go_wp2_with fail
    refine (HC.out _ (ht.on b3)).mono ?_
    rintro e X4 ⟨rfl, hb4⟩
    have p4 := (o3.below hb4).below (below1 X4 (.cells #[.string dc] 9))
    have q4 := rdS_one X4 dc
    have z4 : w.heap.size ≤ (X4.alloc (.cells #[.string dc] 9)).heap.size := by have := b3.size; have := hb4.size; simp; omega
    go_wp2_with (at_builtin; (refine wpList_append_txts rfl _ _ rfl w.heap.size _ _ [da, db, ds] [dc] rfl rfl p4 q4 (fun _ _ e => by cases e) (by simp) z4 ?_))
    intro v4 W4 o4 hg4
    have b4 := word_more o3 b3 hb4 hg4
    clear p4 q4 z4 hb4 hg4 o3 b3
    obtain ⟨va4, vc4, hv4⟩ := ownSl o4
    simp only [List.length_cons, List.length_nil] at hv4 o4
    subst hv4
    go_wp2
    rw [rounds_succ]
    obtain ⟨ga, gc, hv⟩ : ∃ g cap, Value.slice va4 4 vc4 = .slice (some ⟨g, 0, none⟩) 4 cap := by
      rcases o4.2 with ⟨_, h0⟩ | ⟨g, cap, cur, hv, _⟩
      · simp at h0
      · exact ⟨g, cap, by simpa using hv⟩
    simp only [Value.slice.injEq, true_and] at hv
    obtain ⟨hv1, hv2⟩ := hv
    obtain rfl := hv2.symm
    subst hv1
    obtain ⟨a', c', he, hc4, -, hx⟩ := o4.rd
    simp only [Value.slice.injEq] at he
    obtain ⟨rfl, -, rfl⟩ := he
    have HCE : Hid (∀ (j : Nat) x, [da, db, ds, dc][j]? = some x → W4.cell? ⟨ga, 0 + j, none⟩ = some (.string x)) := fun j x hj => by
      have hjl := (List.getElem?_eq_some_iff.1 hj).1
      rcases hx with hx | ⟨bb, oo, hbo, hcc⟩
      · simp at hx
      · simp only [Option.some.injEq, Addr.mk.injEq] at hbo
        obtain ⟨rfl, rfl, -⟩ := hbo
        rw [hcc j hjl, ← (List.getElem?_eq_some_iff.1 hj).2]
    have hgl := (World.ownsRow.lt o4 ga rfl).2
    have hc5 : 4 ≤ gc := by simpa using hc4
    clear o4 hx hc4
    go_wp2_with fail
    refine (HJ.out ga gc _ HCE.out hgl hc5).mono ?_
    rintro e w5 ⟨rfl, hb5⟩
    have b5 := b4.trans (hb5.mono b4.size)
    clear b4 hb5
    go_wp2
    go_ret
    exact ⟨rfl, b5⟩
end Go.Proofs.YtdleolgkbkoekaaDoor
