/- The contracts of the program's root and Root. -/
import Derived.Test.YtpidmmfjmbinkaaGreatDoorSltAt
import Derived.BigQuiet
namespace Go.Proofs.YtpidmmfjmbinkaaGreatDoor
open Go.RowKit
theorem lies_off {ss : List ByteArray} {ps : List Pat} (h : devOk ss ps = false) (p : Int) : liesL ss ps p = ⟨#[]⟩ := by
  unfold liesL
  rw [h]; rfl
theorem root_two {ss : List ByteArray} {ps : List Pat} {r0 r1 : Option (Int × ByteArray)} (h0 : RS (liesL ss ps 0) r0) (h1 : RS (liesL ss ps 1) r1) (hn : 2 ≤ ss.length) : rootD ss ps r0 r1 = rootR r0 r1 := by
  unfold rootD twoOk
  cases hd : devOk ss ps with
  | true => rw [if_pos (by simp; omega)]
  | false =>
    rw [lies_off hd] at h0 h1
    rw [rs_empty h0, rs_empty h1]
    rfl
theorem root_one {ss : List ByteArray} {ps : List Pat} {r0 r1 : Option (Int × ByteArray)} (hn : ¬ 2 ≤ ss.length) : rootD ss ps r0 r1 = (-1, 0, ⟨#[]⟩) := by
  unfold rootD twoOk
  rw [if_neg (by simp; omega)]
/-- What root leaves: the slot that counts, and the error that tells where there is none. -/
def rootS (R : Int × Int × ByteArray) : Value := .agg #[.int .i64 R.2.1, .string R.2.2, .int .i64 (if R.1 = -1 then 0 else R.1)]
def rootE (n : Nat) (R : Int × Int × ByteArray) (a b : Addr) : Value := if n < 2 then secE 1 b else if R.1 = -1 then secE 0 a else .nilIface
def RootP (w : World) (n : Nat) (R : Int × Int × ByteArray) (a b : Addr) (e : Ending) (w' : World) : Prop := e = .returned (.tuple #[rootS R, rootE n R a b]) ∧ Below w.heap.size w w'

theorem isB_nil (a : Addr) (w : World) : Calls Tryz.prog 36 #[.nilIface, .iface 174 (.pointer (some a))] w fun e w' => e = .returned (.bool false) ∧ Below w.heap.size w w' :=
  (is_nil a w).mono fun _ _ h => ⟨h.1, by rw [h.2]; exact Below.refl _ _⟩
set_option maxHeartbeats 8000000 in
set_option maxRecDepth 100000 in
theorem root_A (g : Int) (t : ByteArray) (E : Value) (sa la : Option Addr) (cs cl : Nat) (ss : List ByteArray) (ps : List Pat) (a b : Addr) (w : World) (hx : RdDv w (dvOf sa la cs cl ss ps)) (he : SEnv2 w a b)
    (H0 : Hid (∀ W, RdDv W (dvOf sa la cs cl ss ps) → SEnv2 W a b → Calls Tryz.prog 60 #[.agg #[.slice sa ss.length cs, .slice la ps.length cl], .int .i64 0] W fun e w' => e = .returned (.tuple #[.agg #[.int .i64 g, .string t, .int .i64 0], E]) ∧ Below W.heap.size W w'))
    (H1 : Hid (∀ W, RdDv W (dvOf sa la cs cl ss ps) → SEnv2 W a b → Calls Tryz.prog 60 #[.agg #[.slice sa ss.length cs, .slice la ps.length cl], .int .i64 1] W fun e w' => e = .returned (.tuple #[.agg #[.int .i64 0, .string ⟨#[]⟩, .int .i64 0], secE 1 b]) ∧ Below W.heap.size W w')) :
    Calls Tryz.prog 31 #[.agg #[.slice sa ss.length cs, .slice la ps.length cl]] w fun e w' => e = .returned (.tuple #[.agg #[.int .i64 0, .string ⟨#[]⟩, .int .i64 0], secE 1 b]) ∧ Below w.heap.size w w' := by
  have B0 : Bx (w.alloc (.cells #[.slice sa ss.length cs, .slice la ps.length cl] 27)) _ := (bx_nil w).new hx 27
  have b0 := below1 w (.cells #[.slice sa ss.length cs, .slice la ps.length cl] 27)
  have s0 : (w.alloc (.cells #[.slice sa ss.length cs, .slice la ps.length cl] 27)).heap.size = w.heap.size + 1 := by simp
  have b1 := below1 (w.alloc (.cells #[.slice sa ss.length cs, .slice la ps.length cl] 27)) (.cells #[.int .i64 0, .string ⟨#[]⟩, .int .i64 0] 57)
  have B1 := B0.below b1
  have x1 := boxS_new (w.alloc (.cells #[.slice sa ss.length cs, .slice la ps.length cl] 27)) (.int .i64 0) (.string ⟨#[]⟩) (.int .i64 0)
  rw [s0] at x1
  replace b1 := b0.trans (b1.mono b0.size)
  have e1 := he.on b1
  clear B0 b0 s0 he
  obtain ⟨c0, c1⟩ := B1.at _ sa la cs cl ss ps (.head _)
  go_enter Tryz.func31, Tryz.ntmps31
  go_wp2_with fail
  clear c0 c1
  generalize (w.alloc (.cells #[.slice sa ss.length cs, .slice la ps.length cl] 27)).alloc (.cells #[.int .i64 0, .string ⟨#[]⟩, .int .i64 0] 57) = W1 at B1 b1 x1 e1 ⊢
  refine (H0.out _ (B1.rd _ _ _ _ _ _ _ (.head _)) e1).mono ?_
  rintro e w2 ⟨rfl, b2⟩
  have bl := below1 w2 (.cells #[.int .i64 g, .string t, .int .i64 0] 57)
  have y3 := boxS_new w2 (.int .i64 g) (.string t) (.int .i64 0)
  have B3 := (B1.below b2).below bl
  have x3 := (x1.below b2).below bl
  have e3 := (e1.on b2).on bl
  replace b2 := b1.trans (b2.mono b1.size)
  have b3 := b2.trans (bl.mono b2.size)
  clear B1 b1 x1 e1 b2 bl
  obtain ⟨c0, c1⟩ := B3.at _ sa la cs cl ss ps (.head _)
  go_wp2_with fail
  clear c0 c1
  generalize w2.alloc (.cells #[.int .i64 g, .string t, .int .i64 0] 57) = W3 at y3 B3 x3 e3 b3 ⊢
  refine (H1.out _ (B3.rd _ _ _ _ _ _ _ (.head _)) e3).mono ?_
  rintro e w4 ⟨rfl, b4⟩
  have bl := below1 w4 (.cells #[.int .i64 0, .string ⟨#[]⟩, .int .i64 0] 57)
  have z5 := boxS_new w4 (.int .i64 0) (.string ⟨#[]⟩) (.int .i64 0)
  have y5 := (y3.below b4).below bl
  have x5 := (x3.below b4).below bl
  have e5 := (e3.on b4).on bl
  replace b4 := b3.trans (b4.mono b3.size)
  have b5 := b4.trans (bl.mono b4.size)
  clear B3 b3 x3 e3 y3 b4 bl
  have hg := e5.sec
  go_wp2_with fail
  clear hg
  generalize w4.alloc (.cells #[.int .i64 0, .string ⟨#[]⟩, .int .i64 0] 57) = W5 at z5 y5 x5 e5 b5 ⊢
  refine (is_sec_same 1 b _).mono ?_
  rintro e w6 ⟨rfl, b6⟩
  have z6 := z5.below b6
  have y6 := y5.below b6
  have x6 := x5.below b6
  replace b6 := b5.trans (b6.mono b5.size)
  clear z5 y5 x5 e5 b5
  obtain ⟨m0, m1, m2, -, -, -⟩ := z6.facts
  obtain ⟨i0, i1, i2, -, -, -⟩ := y6.facts
  obtain ⟨f0, f1, f2, f3, f4, f5⟩ := x6.facts
  have z := x6.put (.int .i64 0) (.string ⟨#[]⟩) (.int .i64 0)
  obtain ⟨k0, k1, k2, -, -, -⟩ := z.facts
  have HF : Hid (Below w.heap.size w (((w6.setCell ⟨w.heap.size + 1, 0, none⟩ (.int .i64 0)).setCell ⟨w.heap.size + 1, 1, none⟩ (.string ⟨#[]⟩)).setCell ⟨w.heap.size + 1, 2, none⟩ (.int .i64 0))) := put_below b6 (by omega) _ _ _
  clear z6 y6 x6 b6 z
  go_wp2
  exact bodyPost_ret (v := .tuple #[.agg #[.int .i64 0, .string ⟨#[]⟩, .int .i64 0], secE 1 b]) (by simp [results, Tryz.results31, go_sem, k0, k1, k2]) rfl ⟨rfl, HF.out⟩
set_option maxHeartbeats 8000000 in
set_option maxRecDepth 100000 in
theorem root_F (g : Int) (t : ByteArray) (E : Value) (sa la : Option Addr) (cs cl : Nat) (ss : List ByteArray) (ps : List Pat) (a b : Addr) (w : World) (hx : RdDv w (dvOf sa la cs cl ss ps)) (he : SEnv2 w a b) (hc : ¬ g < 0)
    (H0 : Hid (∀ W, RdDv W (dvOf sa la cs cl ss ps) → SEnv2 W a b → Calls Tryz.prog 60 #[.agg #[.slice sa ss.length cs, .slice la ps.length cl], .int .i64 0] W fun e w' => e = .returned (.tuple #[.agg #[.int .i64 g, .string t, .int .i64 0], E]) ∧ Below W.heap.size W w'))
    (H1 : Hid (∀ W, RdDv W (dvOf sa la cs cl ss ps) → SEnv2 W a b → Calls Tryz.prog 60 #[.agg #[.slice sa ss.length cs, .slice la ps.length cl], .int .i64 1] W fun e w' => e = .returned (.tuple #[.agg #[.int .i64 0, .string ⟨#[]⟩, .int .i64 0], secE 1 a]) ∧ Below W.heap.size W w')) :
    Calls Tryz.prog 31 #[.agg #[.slice sa ss.length cs, .slice la ps.length cl]] w fun e w' => e = .returned (.tuple #[.agg #[.int .i64 g, .string t, .int .i64 0], E]) ∧ Below w.heap.size w w' := by
  have B0 : Bx (w.alloc (.cells #[.slice sa ss.length cs, .slice la ps.length cl] 27)) _ := (bx_nil w).new hx 27
  have b0 := below1 w (.cells #[.slice sa ss.length cs, .slice la ps.length cl] 27)
  have s0 : (w.alloc (.cells #[.slice sa ss.length cs, .slice la ps.length cl] 27)).heap.size = w.heap.size + 1 := by simp
  have b1 := below1 (w.alloc (.cells #[.slice sa ss.length cs, .slice la ps.length cl] 27)) (.cells #[.int .i64 0, .string ⟨#[]⟩, .int .i64 0] 57)
  have B1 := B0.below b1
  have x1 := boxS_new (w.alloc (.cells #[.slice sa ss.length cs, .slice la ps.length cl] 27)) (.int .i64 0) (.string ⟨#[]⟩) (.int .i64 0)
  rw [s0] at x1
  replace b1 := b0.trans (b1.mono b0.size)
  have e1 := he.on b1
  clear B0 b0 s0 he
  obtain ⟨c0, c1⟩ := B1.at _ sa la cs cl ss ps (.head _)
  go_enter Tryz.func31, Tryz.ntmps31
  go_wp2_with fail
  clear c0 c1
  generalize (w.alloc (.cells #[.slice sa ss.length cs, .slice la ps.length cl] 27)).alloc (.cells #[.int .i64 0, .string ⟨#[]⟩, .int .i64 0] 57) = W1 at B1 b1 x1 e1 ⊢
  refine (H0.out _ (B1.rd _ _ _ _ _ _ _ (.head _)) e1).mono ?_
  rintro e w2 ⟨rfl, b2⟩
  have bl := below1 w2 (.cells #[.int .i64 g, .string t, .int .i64 0] 57)
  have y3 := boxS_new w2 (.int .i64 g) (.string t) (.int .i64 0)
  have B3 := (B1.below b2).below bl
  have x3 := (x1.below b2).below bl
  have e3 := (e1.on b2).on bl
  replace b2 := b1.trans (b2.mono b1.size)
  have b3 := b2.trans (bl.mono b2.size)
  clear B1 b1 x1 e1 b2 bl
  obtain ⟨c0, c1⟩ := B3.at _ sa la cs cl ss ps (.head _)
  go_wp2_with fail
  clear c0 c1
  generalize w2.alloc (.cells #[.int .i64 g, .string t, .int .i64 0] 57) = W3 at y3 B3 x3 e3 b3 ⊢
  refine (H1.out _ (B3.rd _ _ _ _ _ _ _ (.head _)) e3).mono ?_
  rintro e w4 ⟨rfl, b4⟩
  have bl := below1 w4 (.cells #[.int .i64 0, .string ⟨#[]⟩, .int .i64 0] 57)
  have z5 := boxS_new w4 (.int .i64 0) (.string ⟨#[]⟩) (.int .i64 0)
  have y5 := (y3.below b4).below bl
  have x5 := (x3.below b4).below bl
  have e5 := (e3.on b4).on bl
  replace b4 := b3.trans (b4.mono b3.size)
  have b5 := b4.trans (bl.mono b4.size)
  clear B3 b3 x3 e3 y3 b4 bl
  have hg := e5.sec
  go_wp2_with fail
  clear hg
  generalize w4.alloc (.cells #[.int .i64 0, .string ⟨#[]⟩, .int .i64 0] 57) = W5 at z5 y5 x5 e5 b5 ⊢
  obtain ⟨ca, ta, qa⟩ := e5.ba
  obtain ⟨cb, tb, qb⟩ := e5.bb
  refine (is_sec_other 1 a b ca cb ta tb _ e5.ne qa qb).mono ?_
  rintro e w6 ⟨rfl, b6⟩
  have z6 := z5.below b6
  have y6 := y5.below b6
  have x6 := x5.below b6
  replace b6 := b5.trans (b6.mono b5.size)
  clear z5 y5 x5 e5 b5
  obtain ⟨m0, m1, m2, -, -, -⟩ := z6.facts
  obtain ⟨i0, i1, i2, -, -, -⟩ := y6.facts
  obtain ⟨f0, f1, f2, f3, f4, f5⟩ := x6.facts
  have z := x6.put (.int .i64 g) (.string t) (.int .i64 0)
  obtain ⟨k0, k1, k2, -, -, -⟩ := z.facts
  have HF : Hid (Below w.heap.size w (((w6.setCell ⟨w.heap.size + 1, 0, none⟩ (.int .i64 g)).setCell ⟨w.heap.size + 1, 1, none⟩ (.string t)).setCell ⟨w.heap.size + 1, 2, none⟩ (.int .i64 0))) := put_below b6 (by omega) _ _ _
  clear z6 y6 x6 b6 z
  go_wp2
  exact bodyPost_ret (v := .tuple #[.agg #[.int .i64 g, .string t, .int .i64 0], E]) (by simp [results, Tryz.results31, go_sem, k0, k1, k2]) rfl ⟨rfl, HF.out⟩
set_option maxHeartbeats 8000000 in
set_option maxRecDepth 100000 in
theorem root_N1 (g : Int) (t : ByteArray) (E : Value) (g2 : Int) (t2 : ByteArray) (sa la : Option Addr) (cs cl : Nat) (ss : List ByteArray) (ps : List Pat) (a b : Addr) (w : World) (hx : RdDv w (dvOf sa la cs cl ss ps)) (he : SEnv2 w a b) (hc : g < g2)
    (H0 : Hid (∀ W, RdDv W (dvOf sa la cs cl ss ps) → SEnv2 W a b → Calls Tryz.prog 60 #[.agg #[.slice sa ss.length cs, .slice la ps.length cl], .int .i64 0] W fun e w' => e = .returned (.tuple #[.agg #[.int .i64 g, .string t, .int .i64 0], E]) ∧ Below W.heap.size W w'))
    (H1 : Hid (∀ W, RdDv W (dvOf sa la cs cl ss ps) → SEnv2 W a b → Calls Tryz.prog 60 #[.agg #[.slice sa ss.length cs, .slice la ps.length cl], .int .i64 1] W fun e w' => e = .returned (.tuple #[.agg #[.int .i64 g2, .string t2, .int .i64 1], .nilIface]) ∧ Below W.heap.size W w')) :
    Calls Tryz.prog 31 #[.agg #[.slice sa ss.length cs, .slice la ps.length cl]] w fun e w' => e = .returned (.tuple #[.agg #[.int .i64 g2, .string t2, .int .i64 1], .nilIface]) ∧ Below w.heap.size w w' := by
  have B0 : Bx (w.alloc (.cells #[.slice sa ss.length cs, .slice la ps.length cl] 27)) _ := (bx_nil w).new hx 27
  have b0 := below1 w (.cells #[.slice sa ss.length cs, .slice la ps.length cl] 27)
  have s0 : (w.alloc (.cells #[.slice sa ss.length cs, .slice la ps.length cl] 27)).heap.size = w.heap.size + 1 := by simp
  have b1 := below1 (w.alloc (.cells #[.slice sa ss.length cs, .slice la ps.length cl] 27)) (.cells #[.int .i64 0, .string ⟨#[]⟩, .int .i64 0] 57)
  have B1 := B0.below b1
  have x1 := boxS_new (w.alloc (.cells #[.slice sa ss.length cs, .slice la ps.length cl] 27)) (.int .i64 0) (.string ⟨#[]⟩) (.int .i64 0)
  rw [s0] at x1
  replace b1 := b0.trans (b1.mono b0.size)
  have e1 := he.on b1
  clear B0 b0 s0 he
  obtain ⟨c0, c1⟩ := B1.at _ sa la cs cl ss ps (.head _)
  go_enter Tryz.func31, Tryz.ntmps31
  go_wp2_with fail
  clear c0 c1
  generalize (w.alloc (.cells #[.slice sa ss.length cs, .slice la ps.length cl] 27)).alloc (.cells #[.int .i64 0, .string ⟨#[]⟩, .int .i64 0] 57) = W1 at B1 b1 x1 e1 ⊢
  refine (H0.out _ (B1.rd _ _ _ _ _ _ _ (.head _)) e1).mono ?_
  rintro e w2 ⟨rfl, b2⟩
  have bl := below1 w2 (.cells #[.int .i64 g, .string t, .int .i64 0] 57)
  have y3 := boxS_new w2 (.int .i64 g) (.string t) (.int .i64 0)
  have B3 := (B1.below b2).below bl
  have x3 := (x1.below b2).below bl
  have e3 := (e1.on b2).on bl
  replace b2 := b1.trans (b2.mono b1.size)
  have b3 := b2.trans (bl.mono b2.size)
  clear B1 b1 x1 e1 b2 bl
  obtain ⟨c0, c1⟩ := B3.at _ sa la cs cl ss ps (.head _)
  go_wp2_with fail
  clear c0 c1
  generalize w2.alloc (.cells #[.int .i64 g, .string t, .int .i64 0] 57) = W3 at y3 B3 x3 e3 b3 ⊢
  refine (H1.out _ (B3.rd _ _ _ _ _ _ _ (.head _)) e3).mono ?_
  rintro e w4 ⟨rfl, b4⟩
  have bl := below1 w4 (.cells #[.int .i64 g2, .string t2, .int .i64 1] 57)
  have z5 := boxS_new w4 (.int .i64 g2) (.string t2) (.int .i64 1)
  have y5 := (y3.below b4).below bl
  have x5 := (x3.below b4).below bl
  have e5 := (e3.on b4).on bl
  replace b4 := b3.trans (b4.mono b3.size)
  have b5 := b4.trans (bl.mono b4.size)
  clear B3 b3 x3 e3 y3 b4 bl
  have hg := e5.sec
  go_wp2_with fail
  clear hg
  generalize w4.alloc (.cells #[.int .i64 g2, .string t2, .int .i64 1] 57) = W5 at z5 y5 x5 e5 b5 ⊢
  refine (isB_nil b _).mono ?_
  rintro e w6 ⟨rfl, b6⟩
  have z6 := z5.below b6
  have y6 := y5.below b6
  have x6 := x5.below b6
  replace b6 := b5.trans (b6.mono b5.size)
  clear z5 y5 x5 e5 b5
  obtain ⟨m0, m1, m2, -, -, -⟩ := z6.facts
  obtain ⟨i0, i1, i2, -, -, -⟩ := y6.facts
  obtain ⟨f0, f1, f2, f3, f4, f5⟩ := x6.facts
  have z := x6.put (.int .i64 g2) (.string t2) (.int .i64 1)
  obtain ⟨k0, k1, k2, -, -, -⟩ := z.facts
  have HF : Hid (Below w.heap.size w (((w6.setCell ⟨w.heap.size + 1, 0, none⟩ (.int .i64 g2)).setCell ⟨w.heap.size + 1, 1, none⟩ (.string t2)).setCell ⟨w.heap.size + 1, 2, none⟩ (.int .i64 1))) := put_below b6 (by omega) _ _ _
  clear z6 y6 x6 b6 z
  go_wp2
  exact bodyPost_ret (v := .tuple #[.agg #[.int .i64 g2, .string t2, .int .i64 1], .nilIface]) (by simp [results, Tryz.results31, go_sem, k0, k1, k2]) rfl ⟨rfl, HF.out⟩
set_option maxHeartbeats 8000000 in
set_option maxRecDepth 100000 in
theorem root_N0 (g : Int) (t : ByteArray) (E : Value) (g2 : Int) (t2 : ByteArray) (sa la : Option Addr) (cs cl : Nat) (ss : List ByteArray) (ps : List Pat) (a b : Addr) (w : World) (hx : RdDv w (dvOf sa la cs cl ss ps)) (he : SEnv2 w a b) (hc : ¬ g < g2)
    (H0 : Hid (∀ W, RdDv W (dvOf sa la cs cl ss ps) → SEnv2 W a b → Calls Tryz.prog 60 #[.agg #[.slice sa ss.length cs, .slice la ps.length cl], .int .i64 0] W fun e w' => e = .returned (.tuple #[.agg #[.int .i64 g, .string t, .int .i64 0], E]) ∧ Below W.heap.size W w'))
    (H1 : Hid (∀ W, RdDv W (dvOf sa la cs cl ss ps) → SEnv2 W a b → Calls Tryz.prog 60 #[.agg #[.slice sa ss.length cs, .slice la ps.length cl], .int .i64 1] W fun e w' => e = .returned (.tuple #[.agg #[.int .i64 g2, .string t2, .int .i64 1], .nilIface]) ∧ Below W.heap.size W w')) :
    Calls Tryz.prog 31 #[.agg #[.slice sa ss.length cs, .slice la ps.length cl]] w fun e w' => e = .returned (.tuple #[.agg #[.int .i64 g, .string t, .int .i64 0], E]) ∧ Below w.heap.size w w' := by
  have B0 : Bx (w.alloc (.cells #[.slice sa ss.length cs, .slice la ps.length cl] 27)) _ := (bx_nil w).new hx 27
  have b0 := below1 w (.cells #[.slice sa ss.length cs, .slice la ps.length cl] 27)
  have s0 : (w.alloc (.cells #[.slice sa ss.length cs, .slice la ps.length cl] 27)).heap.size = w.heap.size + 1 := by simp
  have b1 := below1 (w.alloc (.cells #[.slice sa ss.length cs, .slice la ps.length cl] 27)) (.cells #[.int .i64 0, .string ⟨#[]⟩, .int .i64 0] 57)
  have B1 := B0.below b1
  have x1 := boxS_new (w.alloc (.cells #[.slice sa ss.length cs, .slice la ps.length cl] 27)) (.int .i64 0) (.string ⟨#[]⟩) (.int .i64 0)
  rw [s0] at x1
  replace b1 := b0.trans (b1.mono b0.size)
  have e1 := he.on b1
  clear B0 b0 s0 he
  obtain ⟨c0, c1⟩ := B1.at _ sa la cs cl ss ps (.head _)
  go_enter Tryz.func31, Tryz.ntmps31
  go_wp2_with fail
  clear c0 c1
  generalize (w.alloc (.cells #[.slice sa ss.length cs, .slice la ps.length cl] 27)).alloc (.cells #[.int .i64 0, .string ⟨#[]⟩, .int .i64 0] 57) = W1 at B1 b1 x1 e1 ⊢
  refine (H0.out _ (B1.rd _ _ _ _ _ _ _ (.head _)) e1).mono ?_
  rintro e w2 ⟨rfl, b2⟩
  have bl := below1 w2 (.cells #[.int .i64 g, .string t, .int .i64 0] 57)
  have y3 := boxS_new w2 (.int .i64 g) (.string t) (.int .i64 0)
  have B3 := (B1.below b2).below bl
  have x3 := (x1.below b2).below bl
  have e3 := (e1.on b2).on bl
  replace b2 := b1.trans (b2.mono b1.size)
  have b3 := b2.trans (bl.mono b2.size)
  clear B1 b1 x1 e1 b2 bl
  obtain ⟨c0, c1⟩ := B3.at _ sa la cs cl ss ps (.head _)
  go_wp2_with fail
  clear c0 c1
  generalize w2.alloc (.cells #[.int .i64 g, .string t, .int .i64 0] 57) = W3 at y3 B3 x3 e3 b3 ⊢
  refine (H1.out _ (B3.rd _ _ _ _ _ _ _ (.head _)) e3).mono ?_
  rintro e w4 ⟨rfl, b4⟩
  have bl := below1 w4 (.cells #[.int .i64 g2, .string t2, .int .i64 1] 57)
  have z5 := boxS_new w4 (.int .i64 g2) (.string t2) (.int .i64 1)
  have y5 := (y3.below b4).below bl
  have x5 := (x3.below b4).below bl
  have e5 := (e3.on b4).on bl
  replace b4 := b3.trans (b4.mono b3.size)
  have b5 := b4.trans (bl.mono b4.size)
  clear B3 b3 x3 e3 y3 b4 bl
  have hg := e5.sec
  go_wp2_with fail
  clear hg
  generalize w4.alloc (.cells #[.int .i64 g2, .string t2, .int .i64 1] 57) = W5 at z5 y5 x5 e5 b5 ⊢
  refine (isB_nil b _).mono ?_
  rintro e w6 ⟨rfl, b6⟩
  have z6 := z5.below b6
  have y6 := y5.below b6
  have x6 := x5.below b6
  replace b6 := b5.trans (b6.mono b5.size)
  clear z5 y5 x5 e5 b5
  obtain ⟨m0, m1, m2, -, -, -⟩ := z6.facts
  obtain ⟨i0, i1, i2, -, -, -⟩ := y6.facts
  obtain ⟨f0, f1, f2, f3, f4, f5⟩ := x6.facts
  have z := x6.put (.int .i64 g) (.string t) (.int .i64 0)
  obtain ⟨k0, k1, k2, -, -, -⟩ := z.facts
  have HF : Hid (Below w.heap.size w (((w6.setCell ⟨w.heap.size + 1, 0, none⟩ (.int .i64 g)).setCell ⟨w.heap.size + 1, 1, none⟩ (.string t)).setCell ⟨w.heap.size + 1, 2, none⟩ (.int .i64 0))) := put_below b6 (by omega) _ _ _
  clear z6 y6 x6 b6 z
  go_wp2
  exact bodyPost_ret (v := .tuple #[.agg #[.int .i64 g, .string t, .int .i64 0], E]) (by simp [results, Tryz.results31, go_sem, k0, k1, k2]) rfl ⟨rfl, HF.out⟩
set_option maxRecDepth 100000 in
theorem root_any (sa la : Option Addr) (cs cl : Nat) (ss : List ByteArray) (ps : List Pat) (r0 r1 : Option (Int × ByteArray)) (a b : Addr) (w : World) (hx : RdDv w (dvOf sa la cs cl ss ps)) (h0 : RS (liesL ss ps 0) r0) (h1 : RS (liesL ss ps 1) r1) (he : SEnv2 w a b) :
    Calls Tryz.prog 31 #[.agg #[.slice sa ss.length cs, .slice la ps.length cl]] w fun e w' => RootP w ss.length (rootD ss ps r0 r1) a b e w' := by
  have H0 : Hid (∀ W, RdDv W (dvOf sa la cs cl ss ps) → SEnv2 W a b → Calls Tryz.prog 60 #[.agg #[.slice sa ss.length cs, .slice la ps.length cl], .int .i64 0] W fun e w' => e = .returned (.tuple #[.agg #[.int .i64 (rG r0), .string (rT r0), .int .i64 0], errV (decide (0 < ss.length)) r0 0 a b]) ∧ Below W.heap.size W w') := fun W hd hs => by
    have := slotAt_any 0 sa la cs cl ss ps r0 a b W hd h0 hs
    unfold slotV at this
    rw [show (if r0.isSome = true then ((0 : Nat) : Int) else 0) = 0 by split <;> rfl] at this
    exact this
  have H1 : ∀ W, RdDv W (dvOf sa la cs cl ss ps) → SEnv2 W a b → Calls Tryz.prog 60 #[.agg #[.slice sa ss.length cs, .slice la ps.length cl], .int .i64 1] W fun e w' => e = .returned (.tuple #[slotV r1 1, errV (decide (1 < ss.length)) r1 1 a b]) ∧ Below W.heap.size W w' := fun W hd hs => slotAt_any 1 sa la cs cl ss ps r1 a b W hd h1 hs
  by_cases hn : 2 ≤ ss.length
  · have d0 : decide (0 < ss.length) = true := by simp; omega
    have d1 : decide (1 < ss.length) = true := by simp; omega
    rw [d0] at H0
    rw [d1] at H1
    rw [root_two h0 h1 hn]
    have hE : ∀ R : Int × Int × ByteArray, rootE ss.length R a b = if R.1 = -1 then secE 0 a else .nilIface := fun R => by unfold rootE; rw [if_neg (by omega)]
    have hp : 0 ≤ rG r0 := by
      cases r0 with
      | none => exact Int.le_refl _
      | some q =>
        obtain ⟨g, t⟩ := q
        have := rs_pos h0
        show 0 ≤ g
        omega
    cases r1 with
    | none =>
      refine (root_F (rG r0) (rT r0) _ sa la cs cl ss ps a b w hx he (by omega) H0 H1).mono fun e w' hh => ⟨?_, hh.2⟩
      rw [hh.1, hE]
      cases r0 with
      | none => rfl
      | some q => rfl
    | some q =>
      obtain ⟨g2, t2⟩ := q
      have hq := rs_pos h1
      by_cases hc : rG r0 < g2
      · refine (root_N1 (rG r0) (rT r0) _ g2 t2 sa la cs cl ss ps a b w hx he hc H0 H1).mono fun e w' hh => ⟨?_, hh.2⟩
        have hR : rootR r0 (some (g2, t2)) = (1, g2, t2) := by
          cases r0 with
          | none => rfl
          | some q =>
            obtain ⟨g, t⟩ := q
            have hc : g < g2 := hc
            show (if g2 ≤ g then ((0 : Int), g, t) else (1, g2, t2)) = _
            rw [if_neg (by omega)]
        rw [hh.1, hE, hR]
        rfl
      · refine (root_N0 (rG r0) (rT r0) _ g2 t2 sa la cs cl ss ps a b w hx he hc H0 H1).mono fun e w' hh => ⟨?_, hh.2⟩
        cases r0 with
        | none =>
          have hc : ¬ (0 : Int) < g2 := hc
          omega
        | some q =>
          obtain ⟨g, t⟩ := q
          have hc : ¬ g < g2 := hc
          have hR : rootR (some (g, t)) (some (g2, t2)) = (0, g, t) := by
            show (if g2 ≤ g then ((0 : Int), g, t) else (1, g2, t2)) = _
            rw [if_pos (by omega)]
          rw [hh.1, hE, hR]
          rfl
  · have d1 : decide (1 < ss.length) = false := by simp; omega
    have l1 : liesL ss ps 1 = ⟨#[]⟩ := lies_none2 (k := 1) (by omega)
    rw [l1] at h1
    obtain rfl := rs_empty h1
    rw [d1] at H1
    rw [root_one hn]
    refine (root_A (rG r0) (rT r0) _ sa la cs cl ss ps a b w hx he H0 H1).mono fun e w' hh => ⟨?_, hh.2⟩
    rw [hh.1]
    unfold rootE
    rw [if_pos (by omega)]
    rfl
set_option maxHeartbeats 4000000 in
set_option maxRecDepth 100000 in
theorem implRoot_any (sa la : Option Addr) (cs cl : Nat) (ss : List ByteArray) (ps : List Pat) (r0 r1 : Option (Int × ByteArray)) (a b : Addr) (w : World) (hx : RdDv w (dvOf sa la cs cl ss ps)) (h0 : RS (liesL ss ps 0) r0) (h1 : RS (liesL ss ps 1) r1) (he : SEnv2 w a b) :
    Calls Tryz.prog 10 #[.agg #[.slice sa ss.length cs, .slice la ps.length cl]] w fun e w' => e = .returned (.tuple #[.int .i64 (rootD ss ps r0 r1).2.1, .string (rootD ss ps r0 r1).2.2]) ∧ Below w.heap.size w w' := by
  have B0 : Bx (w.alloc (.cells #[.slice sa ss.length cs, .slice la ps.length cl] 27)) _ := (bx_nil w).new hx 27
  have b0 := below1 w (.cells #[.slice sa ss.length cs, .slice la ps.length cl] 27)
  have e0 := he.on b0
  have HL : Hid (∀ W, RdDv W (dvOf sa la cs cl ss ps) → SEnv2 W a b → Calls Tryz.prog 31 #[.agg #[.slice sa ss.length cs, .slice la ps.length cl]] W fun e w' => RootP W ss.length (rootD ss ps r0 r1) a b e w') := fun W h h2 => root_any sa la cs cl ss ps r0 r1 a b W h h0 h1 h2
  generalize rootD ss ps r0 r1 = R at HL ⊢
  obtain ⟨x, y, z⟩ := R
  simp only
  obtain ⟨c0, c1⟩ := B0.at _ sa la cs cl ss ps (.head _)
  go_enter Tryz.func10, Tryz.ntmps10
  go_wp2_with fail
  clear c0 c1
  generalize w.alloc (.cells #[.slice sa ss.length cs, .slice la ps.length cl] 27) = W0 at B0 b0 e0 ⊢
  refine (HL.out _ (B0.rd _ _ _ _ _ _ _ (.head _)) e0).mono ?_
  rintro e w1 ⟨hee, b1⟩
  generalize rootE ss.length (x, y, z) a b = E at hee
  replace hee : e = .returned (.tuple #[.agg #[.int .i64 y, .string z, .int .i64 (if x = -1 then 0 else x)], E]) := hee
  generalize (if x = -1 then 0 else x) = q at hee
  subst hee
  have bl := below1 w1 (.cells #[.int .i64 y, .string z, .int .i64 q] 57)
  obtain ⟨f0, f1, f2, -, -, -⟩ := (boxS_new w1 (.int .i64 y) (.string z) (.int .i64 q)).facts
  replace b1 := b0.trans (b1.mono b0.size)
  have b2 := b1.trans (bl.mono b1.size)
  clear B0 b0 e0 b1 bl HL
  go_wp2
  go_quiet (fail)
  go_wp2
  go_ret2
  exact ⟨rfl, below_drewN b2 _⟩
end Go.Proofs.YtpidmmfjmbinkaaGreatDoor
