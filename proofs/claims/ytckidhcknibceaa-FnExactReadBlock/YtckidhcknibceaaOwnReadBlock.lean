/- Whatever text it is called with, laws.FnExactReadBlock returns true: both ReadBlock read the same block or none, in memory of their own that no later call writes into. No condition. -/
-- UNF Gen
import Derived.Test.YtckidhcknibceaaRows
import Derived.Test.YtckidhcknibceaaBlxRi
import Derived.Test.YtckidhcknibceaaBlxMk
import Derived.ProofKit
import Derived.OpenShut
import Derived.ShutString
import Derived.ChangeOld
namespace Go.Proofs.Ytckidhcknibceaa
open Go.ChangeShapes Go.WideShapes Go.ChangeAt Go.RowKit
open Go.ChangeMaps (open_string shut_string)
theorem RBl_small {bs : List UInt8} {b : Blk} (h : RBl bs = some b) : b.p.sv.length ≤ 7 ∧ b.p.tg.length ≤ 7 ∧ b.mo.length ≤ 200 := by
  unfold RBl at h
  cases h0 : rdB bs with
  | none => rw [h0] at h; cases h
  | some r =>
    rw [h0] at h
    simp only at h
    split at h
    · have hb := Option.some.inj h
      subst hb
      unfold rdB at h0
      cases h5 : rdK bs 5 with
      | none => rw [h5] at h0; cases h0
      | some r5 =>
        rw [h5] at h0
        simp only at h0
        split at h0
        · cases h0
        · rename_i h7
          cases hk : rdK bs (5 + 2 * (gI r5.1 4).toNat) with
          | none => rw [hk] at h0; cases h0
          | some s =>
            rw [hk] at h0
            simp only at h0
            cases ht : rdAll (bs.drop s.2) with
            | none => rw [ht] at h0; cases h0
            | some u =>
              rw [ht] at h0
              simp only at h0
              split at h0
              · cases h0
              · have hr := Option.some.inj h0
                subst hr
                have ha := rdAll_back _ u.1 u.2 ht
                have hl := (rdK_back _ s.1 s.2 hk).1
                have he := evn_odd (gI r5.1 4).toNat (s.1.drop 5) (by rw [List.length_drop]; omega)
                refine ⟨?_, ?_, ha.2.2.2.2.1⟩
                · show (evn (s.1.drop 5)).length ≤ 7
                  omega
                · show (odd (s.1.drop 5)).length ≤ 7
                  omega
    · cases h
set_option maxHeartbeats 8000000 in
set_option maxRecDepth 100000 in
theorem lawReadBlock (s : ByteArray) (_ : s.size ≤ maxLen) (w : World) :
    Calls Try.prog 4 #[.string s] w fun e w' => e = .returned (.bool true) ∧ Below w.heap.size w w' := by
  by_cases hbig : (1048576 : Int) < (s.size : Int)
  · go_enter Try.func4, Try.ntmps4
    go_wp2
    go_ret
    exact ⟨rfl, Below.refl _ _⟩
  obtain ⟨B, hB⟩ : ∃ B, B = (RBl s.data.toList).getD blkZ := ⟨_, rfl⟩
  obtain ⟨ok, hok⟩ : ∃ ok, ok = (RBl s.data.toList).isSome := ⟨_, rfl⟩
  have HXS : Hid (∀ W, Calls Try.prog 11 #[.string s] W fun e w' => ∃ Y : BlX, e = .returned (.tuple #[.agg #[.int .i64 Y.b.vw, .int .i64 Y.b.pa, .int .i64 Y.b.p.vw, .int .i64 Y.b.p.nm, Y.vs, Y.vt, Y.vm, .int .i64 Y.b.sv], .bool ok]) ∧ Y.b = B ∧ OwnBl w' W.heap.size Y ∧ Below W.heap.size W w') := fun W => by rw [hB, hok]; exact specReadBlock_any s W (by omega)
  have HXI : Hid (∀ W, Calls Try.prog 12 #[.string s] W fun e w' => ∃ Y : BlX, e = .returned (.tuple #[.agg #[.int .i64 Y.b.vw, .int .i64 Y.b.pa, .int .i64 Y.b.p.vw, .int .i64 Y.b.p.nm, Y.vs, Y.vt, Y.vm, .int .i64 Y.b.sv], .bool ok]) ∧ Y.b = B ∧ OwnBl w' W.heap.size Y ∧ Below W.heap.size W w') := fun W => by rw [hB, hok]; exact implReadBlock_any s W (by omega)
  have HBS : Hid (B.p.sv.length ≤ 7 ∧ B.p.tg.length ≤ 7 ∧ B.mo.length ≤ 200) := by
    unfold Hid
    rw [hB]
    cases hr : RBl s.data.toList with
    | none => exact ⟨Nat.zero_le _, Nat.zero_le _, Nat.zero_le _⟩
    | some b => exact RBl_small hr
  obtain ⟨l1, hl1⟩ : ∃ l1, l1 = B.p.sv.length := ⟨_, rfl⟩
  obtain ⟨l2, hl2⟩ : ∃ l2, l2 = B.p.tg.length := ⟨_, rfl⟩
  obtain ⟨l3, hl3⟩ : ∃ l3, l3 = B.mo.length := ⟨_, rfl⟩
  have HL : Hid (l1 = B.p.sv.length ∧ l2 = B.p.tg.length ∧ l3 = B.mo.length) := ⟨hl1, hl2, hl3⟩
  have hno : (ok != ok) = false := by simp
  clear hB hok hl1 hl2 hl3
  go_enter Try.func4, Try.ntmps4
  go_wp2_with fail
  refine (HXS.out _).mono ?_
  rintro e w1 ⟨Y1, rfl, hY1, oY1, hb1⟩
  obtain ⟨yb, ys, yt, ym⟩ := Y1
  simp only at hY1 oY1
  have hYs := hY1.symm
  subst hYs
  clear hY1
  obtain ⟨a1, c1, b1, d1, hs1, hs2⟩ := oY1.pr.slices
  obtain ⟨m1, e1, hs3⟩ := ownSlX oY1.mo
  simp only [BlX.pr] at hs1 hs2 hs3 ⊢
  rw [← HL.out.1] at hs1
  rw [← HL.out.2.1] at hs2
  rw [← HL.out.2.2] at hs3
  subst hs1 hs2 hs3
  have HB1 : Hid (Below w.heap.size w w1) := hb1
  have HO1 : Hid (OwnBl w1 w.heap.size ⟨B, .slice a1 l1 c1, .slice b1 l2 d1, .slice m1 l3 e1⟩) := oY1
  have HX1 : Hid (Bx (w1.alloc (.cells #[.int .i64 B.vw, .int .i64 B.pa, .int .i64 B.p.vw, .int .i64 B.p.nm, .slice a1 l1 c1, .slice b1 l2 d1, .slice m1 l3 e1, .int .i64 B.sv] 32)) w1.heap.size 32 #[.int .i64 B.vw, .int .i64 B.pa, .int .i64 B.p.vw, .int .i64 B.p.nm, .slice a1 l1 c1, .slice b1 l2 d1, .slice m1 l3 e1, .int .i64 B.sv]) := bx_new w1 _ _
  have HB1a : Hid (Below w.heap.size w (w1.alloc (.cells #[.int .i64 B.vw, .int .i64 B.pa, .int .i64 B.p.vw, .int .i64 B.p.nm, .slice a1 l1 c1, .slice b1 l2 d1, .slice m1 l3 e1, .int .i64 B.sv] 32))) := HB1.out.alloc HB1.out.size _
  have HS1 : Hid ((w1.alloc (.cells #[.int .i64 B.vw, .int .i64 B.pa, .int .i64 B.p.vw, .int .i64 B.p.nm, .slice a1 l1 c1, .slice b1 l2 d1, .slice m1 l3 e1, .int .i64 B.sv] 32)).heap.size = w1.heap.size + 1) := by unfold Hid; simp
  have HO1a : Hid (OwnBl (w1.alloc (.cells #[.int .i64 B.vw, .int .i64 B.pa, .int .i64 B.p.vw, .int .i64 B.p.nm, .slice a1 l1 c1, .slice b1 l2 d1, .slice m1 l3 e1, .int .i64 B.sv] 32)) w.heap.size ⟨B, .slice a1 l1 c1, .slice b1 l2 d1, .slice m1 l3 e1⟩) := OwnBl.below HO1.out (below1 _ _)
  clear hb1 oY1
  go_wp2_with fail
  refine (HXI.out _).mono ?_
  rintro e w2 ⟨Y2, rfl, hY2, oY2, hb2⟩
  obtain ⟨yb, ys, yt, ym⟩ := Y2
  simp only at hY2 oY2
  have hYs := hY2.symm
  subst hYs
  clear hY2
  obtain ⟨a2, c2, b2, d2, hs1, hs2⟩ := oY2.pr.slices
  obtain ⟨m2, e2, hs3⟩ := ownSlX oY2.mo
  simp only [BlX.pr] at hs1 hs2 hs3 ⊢
  rw [← HL.out.1] at hs1
  rw [← HL.out.2.1] at hs2
  rw [← HL.out.2.2] at hs3
  subst hs1 hs2 hs3
  have HO1b : Hid (OwnBl w2 w.heap.size ⟨B, .slice a1 l1 c1, .slice b1 l2 d1, .slice m1 l3 e1⟩) := OwnBl.below HO1a.out hb2
  have HX1b : Hid (Bx w2 w1.heap.size 32 #[.int .i64 B.vw, .int .i64 B.pa, .int .i64 B.p.vw, .int .i64 B.p.nm, .slice a1 l1 c1, .slice b1 l2 d1, .slice m1 l3 e1, .int .i64 B.sv]) := HX1.out.below hb2
  have HB2 : Hid (Below w.heap.size w w2) := HB1a.out.trans (hb2.mono HB1a.out.size)
  have HO2 : Hid (OwnBl w2 (w1.heap.size + 1) ⟨B, .slice a2 l1 c2, .slice b2 l2 d2, .slice m2 l3 e2⟩) := by have h := oY2; rw [HS1.out] at h; exact h
  have HS2 : Hid (w1.heap.size + 1 ≤ w2.heap.size) := by have h := hb2.size; rw [HS1.out] at h; exact h
  have HBD : Hid (∀ q ∈ blB ⟨B, .slice a1 l1 c1, .slice b1 l2 d1, .slice m1 l3 e1⟩, q < w1.heap.size + 1) := fun q hq => by have := (HO1.out.bound hq).2; omega
  have X1 : Bx (w2.alloc (.cells #[.int .i64 B.vw, .int .i64 B.pa, .int .i64 B.p.vw, .int .i64 B.p.nm, .slice a2 l1 c2, .slice b2 l2 d2, .slice m2 l3 e2, .int .i64 B.sv] 32)) w1.heap.size 32 #[.int .i64 B.vw, .int .i64 B.pa, .int .i64 B.p.vw, .int .i64 B.p.nm, .slice a1 l1 c1, .slice b1 l2 d1, .slice m1 l3 e1, .int .i64 B.sv] := HX1b.out.below (below1 _ _)
  have X2 : Bx (w2.alloc (.cells #[.int .i64 B.vw, .int .i64 B.pa, .int .i64 B.p.vw, .int .i64 B.p.nm, .slice a2 l1 c2, .slice b2 l2 d2, .slice m2 l3 e2, .int .i64 B.sv] 32)) w2.heap.size 32 #[.int .i64 B.vw, .int .i64 B.pa, .int .i64 B.p.vw, .int .i64 B.p.nm, .slice a2 l1 c2, .slice b2 l2 d2, .slice m2 l3 e2, .int .i64 B.sv] := bx_new w2 _ _
  have O1 : OwnBl (w2.alloc (.cells #[.int .i64 B.vw, .int .i64 B.pa, .int .i64 B.p.vw, .int .i64 B.p.nm, .slice a2 l1 c2, .slice b2 l2 d2, .slice m2 l3 e2, .int .i64 B.sv] 32)) w.heap.size ⟨B, .slice a1 l1 c1, .slice b1 l2 d1, .slice m1 l3 e1⟩ := OwnBl.below HO1b.out (below1 _ _)
  have O2 : OwnBl (w2.alloc (.cells #[.int .i64 B.vw, .int .i64 B.pa, .int .i64 B.p.vw, .int .i64 B.p.nm, .slice a2 l1 c2, .slice b2 l2 d2, .slice m2 l3 e2, .int .i64 B.sv] 32)) (w1.heap.size + 1) ⟨B, .slice a2 l1 c2, .slice b2 l2 d2, .slice m2 l3 e2⟩ := OwnBl.below HO2.out (below1 _ _)
  have B2 : Below w.heap.size w (w2.alloc (.cells #[.int .i64 B.vw, .int .i64 B.pa, .int .i64 B.p.vw, .int .i64 B.p.nm, .slice a2 l1 c2, .slice b2 l2 d2, .slice m2 l3 e2, .int .i64 B.sv] 32)) := HB2.out.alloc HB2.out.size _
  have HS3 : Hid (w2.heap.size < (w2.alloc (.cells #[.int .i64 B.vw, .int .i64 B.pa, .int .i64 B.p.vw, .int .i64 B.p.nm, .slice a2 l1 c2, .slice b2 l2 d2, .slice m2 l3 e2, .int .i64 B.sv] 32)).heap.size) := by unfold Hid; simp
  have HG2 : Hid (∀ q ∈ blB ⟨B, .slice a2 l1 c2, .slice b2 l2 d2, .slice m2 l3 e2⟩, q < w2.heap.size) := fun q hq => (HO2.out.bound hq).2
  clear hb2 oY2 HO1a HX1 HB1a HO1b HX1b HB2 HO2 HO1
  have HRE : Hid (∀ V Z, RdBl V Z → Z.b = B → RdBl V ⟨B, .slice a1 l1 c1, .slice b1 l2 d1, .slice m1 l3 e1⟩ → Calls Try.prog 10 #[.agg #[.int .i64 B.vw, .int .i64 B.pa, .int .i64 B.p.vw, .int .i64 B.p.nm, Z.vs, Z.vt, Z.vm, .int .i64 B.sv], .agg #[.int .i64 B.vw, .int .i64 B.pa, .int .i64 B.p.vw, .int .i64 B.p.nm, .slice a1 l1 c1, .slice b1 l2 d1, .slice m1 l3 e1, .int .i64 B.sv]] V fun e w' => e = .returned (.bool true) ∧ Below V.heap.size V w') := fun V Z hz hzb h1 => by have h := eqBlock_same Z ⟨B, .slice a1 l1 c1, .slice b1 l2 d1, .slice m1 l3 e1⟩ V hz h1 hzb; rw [hzb] at h; exact h
  obtain ⟨q0, q1, q2, q3, q4, q5, q6, q7⟩ := X1.c8
  obtain ⟨r0, r1, r2, r3, r4, r5, r6, r7⟩ := X2.c8
  have HX1 : Hid (Bx (w2.alloc (.cells #[.int .i64 B.vw, .int .i64 B.pa, .int .i64 B.p.vw, .int .i64 B.p.nm, .slice a2 l1 c2, .slice b2 l2 d2, .slice m2 l3 e2, .int .i64 B.sv] 32)) w1.heap.size 32 #[.int .i64 B.vw, .int .i64 B.pa, .int .i64 B.p.vw, .int .i64 B.p.nm, .slice a1 l1 c1, .slice b1 l2 d1, .slice m1 l3 e1, .int .i64 B.sv]) := X1
  have HX2 : Hid (Bx (w2.alloc (.cells #[.int .i64 B.vw, .int .i64 B.pa, .int .i64 B.p.vw, .int .i64 B.p.nm, .slice a2 l1 c2, .slice b2 l2 d2, .slice m2 l3 e2, .int .i64 B.sv] 32)) w2.heap.size 32 #[.int .i64 B.vw, .int .i64 B.pa, .int .i64 B.p.vw, .int .i64 B.p.nm, .slice a2 l1 c2, .slice b2 l2 d2, .slice m2 l3 e2, .int .i64 B.sv]) := X2
  clear X1 X2
  go_wp2_with fail
  refine (HRE.out _ ⟨B, .slice a2 l1 c2, .slice b2 l2 d2, .slice m2 l3 e2⟩ O2.rd rfl O1.rd).mono ?_
  rintro e w3 ⟨rfl, hb3⟩
  have X1 := HX1.out.below hb3
  have X2 := HX2.out.below hb3
  have O1' := OwnBl.below O1 hb3
  have O2' := OwnBl.below O2 hb3
  have B3 := B2.trans (hb3.mono B2.size)
  have HS4 : Hid (w2.heap.size < w3.heap.size) := Nat.lt_of_lt_of_le HS3.out hb3.size
  have HB1s : Hid (w.heap.size ≤ w1.heap.size) := HB1.out.size
  clear q0 q1 q2 q3 q4 q5 q6 q7 r0 r1 r2 r3 r4 r5 r6 r7 hb3 O1 O2 B2 HX1 HX2 HS3 HB1 HS1
  obtain ⟨g2, hg2⟩ : ∃ g2, g2 = w2.heap.size := ⟨_, rfl⟩
  obtain ⟨g1, hg1⟩ : ∃ g1, g1 = w1.heap.size := ⟨_, rfl⟩
  rw [← hg1] at X1 O2' HBD HS2 HB1s
  rw [← hg2] at X2 HS2 HS4 HG2
  rw [← hg1, ← hg2]
  clear hg1 hg2
  have HMK : Hid (∀ V, OwnBl V (g1 + 1) ⟨B, .slice a2 l1 c2, .slice b2 l2 d2, .slice m2 l3 e2⟩ → Calls Try.prog 13 #[.agg #[.int .i64 B.vw, .int .i64 B.pa, .int .i64 B.p.vw, .int .i64 B.p.nm, .slice a2 l1 c2, .slice b2 l2 d2, .slice m2 l3 e2, .int .i64 B.sv], .int .i64 1] V fun e w' => MarkBl V (g1 + 1) 1 ⟨B, .slice a2 l1 c2, .slice b2 l2 d2, .slice m2 l3 e2⟩ e w') := fun V h => markBlock_any ⟨B, .slice a2 l1 c2, .slice b2 l2 d2, .slice m2 l3 e2⟩ (g1 + 1) 1 V h (by omega) (by have := HBS.out; simp only [cntBl, cntPr, BlX.pr]; omega)
  have HHE : Hid (∀ V, RdBl V (mkBl 1 ⟨B, .slice a2 l1 c2, .slice b2 l2 d2, .slice m2 l3 e2⟩) → Calls Try.prog 14 #[.agg #[.int .i64 B.vw, .int .i64 B.pa, .int .i64 B.p.vw, .int .i64 B.p.nm, .slice a2 l1 c2, .slice b2 l2 d2, .slice m2 l3 e2, .int .i64 B.sv], .int .i64 1] V fun e w' => e = .returned (.int .i64 ((1 + cntBl ⟨B, .slice a2 l1 c2, .slice b2 l2 d2, .slice m2 l3 e2⟩ : Nat) : Int)) ∧ Below V.heap.size V w') := fun V h => heldBlock_any ⟨B, .slice a2 l1 c2, .slice b2 l2 d2, .slice m2 l3 e2⟩ 1 V h (by omega) (by have := HBS.out; simp only [cntBl, cntPr, BlX.pr]; omega)
  obtain ⟨N, hN⟩ : ∃ N, N = 1 + cntBl ⟨B, .slice a2 l1 c2, .slice b2 l2 d2, .slice m2 l3 e2⟩ := ⟨_, rfl⟩
  unfold MarkBl at HMK
  rw [← hN] at HMK HHE
  have hN0 : ¬ ((N : Int) < 0) := by omega
  have hNN : ((N : Int) != (N : Int)) = false := by simp
  clear hN
  obtain ⟨r0, r1, r2, r3, r4, r5, r6, r7⟩ := X2.c8
  go_wp2_with fail
  refine (HMK.out _ O2').mono ?_
  rintro e w4 ⟨rfl, hM, hT⟩
  have X1b : Bx w4 g1 32 #[.int .i64 B.vw, .int .i64 B.pa, .int .i64 B.p.vw, .int .i64 B.p.nm, .slice a1 l1 c1, .slice b1 l2 d1, .slice m1 l3 e1, .int .i64 B.sv] := X1.touch hT (fun e => by have := (O2'.bound e).1; omega)
  have X2b : Bx w4 g2 32 #[.int .i64 B.vw, .int .i64 B.pa, .int .i64 B.p.vw, .int .i64 B.p.nm, .slice a2 l1 c2, .slice b2 l2 d2, .slice m2 l3 e2, .int .i64 B.sv] := X2.touch hT (fun e => by have := HG2.out _ e; omega)
  have O1b : OwnBl w4 w.heap.size ⟨B, .slice a1 l1 c1, .slice b1 l2 d1, .slice m1 l3 e1⟩ := O1'.touch hT (fun q hq e => by have h1 := HBD.out q hq; have h2 := (O2'.bound e).1; omega)
  have B4 : Below w.heap.size w w4 := hT.below B3 (fun q hq => by have h1 := (O2'.bound hq).1; have h2 := HB1s.out; omega)
  clear r0 r1 r2 r3 r4 r5 r6 r7 X1 X2 O1' O2' B3 hT HMK
  obtain ⟨r0, r1, r2, r3, r4, r5, r6, r7⟩ := X2b.c8
  go_wp2_with fail
  refine (HHE.out _ hM.rd).mono ?_
  rintro e w5 ⟨rfl, hb5⟩
  have X1c := X1b.below hb5
  have X2c := X2b.below hb5
  have O1c := OwnBl.below O1b hb5
  have hMc := OwnBl.below hM hb5
  have B5 := B4.trans (hb5.mono B4.size)
  clear r0 r1 r2 r3 r4 r5 r6 r7 X1b X2b O1b hM B4 hb5
  go_wp2_with fail
  refine (HXI.out _).mono ?_
  rintro e w6 ⟨Y3, rfl, hY3, oY3, hb3⟩
  obtain ⟨yb, ys, yt, ym⟩ := Y3
  simp only at hY3 oY3
  have hYs := hY3.symm
  subst hYs
  clear hY3
  obtain ⟨a3, c3, b3, d3, hs1, hs2⟩ := oY3.pr.slices
  obtain ⟨m3, e3, hs3⟩ := ownSlX oY3.mo
  simp only [BlX.pr] at hs1 hs2 hs3 ⊢
  rw [← HL.out.1] at hs1
  rw [← HL.out.2.1] at hs2
  rw [← HL.out.2.2] at hs3
  subst hs1 hs2 hs3
  have X1d : Bx (w6.alloc (.cells #[.int .i64 B.vw, .int .i64 B.pa, .int .i64 B.p.vw, .int .i64 B.p.nm, .slice a3 l1 c3, .slice b3 l2 d3, .slice m3 l3 e3, .int .i64 B.sv] 32)) g1 32 #[.int .i64 B.vw, .int .i64 B.pa, .int .i64 B.p.vw, .int .i64 B.p.nm, .slice a1 l1 c1, .slice b1 l2 d1, .slice m1 l3 e1, .int .i64 B.sv] := (X1c.below hb3).below (below1 _ _)
  have X2d : Bx (w6.alloc (.cells #[.int .i64 B.vw, .int .i64 B.pa, .int .i64 B.p.vw, .int .i64 B.p.nm, .slice a3 l1 c3, .slice b3 l2 d3, .slice m3 l3 e3, .int .i64 B.sv] 32)) g2 32 #[.int .i64 B.vw, .int .i64 B.pa, .int .i64 B.p.vw, .int .i64 B.p.nm, .slice a2 l1 c2, .slice b2 l2 d2, .slice m2 l3 e2, .int .i64 B.sv] := (X2c.below hb3).below (below1 _ _)
  have X3d : Bx (w6.alloc (.cells #[.int .i64 B.vw, .int .i64 B.pa, .int .i64 B.p.vw, .int .i64 B.p.nm, .slice a3 l1 c3, .slice b3 l2 d3, .slice m3 l3 e3, .int .i64 B.sv] 32)) w6.heap.size 32 #[.int .i64 B.vw, .int .i64 B.pa, .int .i64 B.p.vw, .int .i64 B.p.nm, .slice a3 l1 c3, .slice b3 l2 d3, .slice m3 l3 e3, .int .i64 B.sv] := bx_new w6 _ _
  have O1d : OwnBl (w6.alloc (.cells #[.int .i64 B.vw, .int .i64 B.pa, .int .i64 B.p.vw, .int .i64 B.p.nm, .slice a3 l1 c3, .slice b3 l2 d3, .slice m3 l3 e3, .int .i64 B.sv] 32)) w.heap.size ⟨B, .slice a1 l1 c1, .slice b1 l2 d1, .slice m1 l3 e1⟩ := OwnBl.below (OwnBl.below O1c hb3) (below1 _ _)
  have O3d : OwnBl (w6.alloc (.cells #[.int .i64 B.vw, .int .i64 B.pa, .int .i64 B.p.vw, .int .i64 B.p.nm, .slice a3 l1 c3, .slice b3 l2 d3, .slice m3 l3 e3, .int .i64 B.sv] 32)) w5.heap.size ⟨B, .slice a3 l1 c3, .slice b3 l2 d3, .slice m3 l3 e3⟩ := OwnBl.below oY3 (below1 _ _)
  have hMd := OwnBl.below (OwnBl.below hMc hb3) (below1 w6 (.cells #[.int .i64 B.vw, .int .i64 B.pa, .int .i64 B.p.vw, .int .i64 B.p.nm, .slice a3 l1 c3, .slice b3 l2 d3, .slice m3 l3 e3, .int .i64 B.sv] 32))
  have B6 : Below w.heap.size w (w6.alloc (.cells #[.int .i64 B.vw, .int .i64 B.pa, .int .i64 B.p.vw, .int .i64 B.p.nm, .slice a3 l1 c3, .slice b3 l2 d3, .slice m3 l3 e3, .int .i64 B.sv] 32)) := (B5.trans (hb3.mono B5.size)).alloc (B5.trans (hb3.mono B5.size)).size _
  clear X1c X2c O1c hMc B5 hb3 oY3 HXS HXI
  obtain ⟨q0, q1, q2, q3, q4, q5, q6, q7⟩ := X1d.c8
  obtain ⟨r0, r1, r2, r3, r4, r5, r6, r7⟩ := X3d.c8
  have HX2d : Hid (Bx (w6.alloc (.cells #[.int .i64 B.vw, .int .i64 B.pa, .int .i64 B.p.vw, .int .i64 B.p.nm, .slice a3 l1 c3, .slice b3 l2 d3, .slice m3 l3 e3, .int .i64 B.sv] 32)) g2 32 #[.int .i64 B.vw, .int .i64 B.pa, .int .i64 B.p.vw, .int .i64 B.p.nm, .slice a2 l1 c2, .slice b2 l2 d2, .slice m2 l3 e2, .int .i64 B.sv]) := X2d
  clear X1d X3d X2d
  go_wp2_with fail
  refine (HRE.out _ ⟨B, .slice a3 l1 c3, .slice b3 l2 d3, .slice m3 l3 e3⟩ O3d.rd rfl O1d.rd).mono ?_
  rintro e w7 ⟨rfl, hb7⟩
  have X2e := HX2d.out.below hb7
  have hMe := OwnBl.below hMd hb7
  have B7 := B6.trans (hb7.mono B6.size)
  clear q0 q1 q2 q3 q4 q5 q6 q7 r0 r1 r2 r3 r4 r5 r6 r7 HX2d O1d O3d hMd B6 hb7 HRE
  obtain ⟨r0, r1, r2, r3, r4, r5, r6, r7⟩ := X2e.c8
  go_wp2_with fail
  refine (HHE.out _ hMe.rd).mono ?_
  rintro e w8 ⟨rfl, hb8⟩
  have B8 := B7.trans (hb8.mono B7.size)
  clear r0 r1 r2 r3 r4 r5 r6 r7 X2e hMe B7 hb8 HHE
  go_wp2
  go_ret
  exact ⟨rfl, B8⟩
theorem own_fnExactReadBlock : ownKnob Try.prog.godebug = none := by kernel_rfl
set_option maxRecDepth 100000 in
theorem lifted_fnExactReadBlock (os : Os) (started : os.Started) (H : Type) (enc : TypeId × Value → H) :
    ReturnsInHanded {} Try.checked os 4 .any (Rows.fnExactReadBlockSpec.pre6 enc Try.prog Try.f4 Rows.fnExactReadBlockRow.domain false) (Rows.fnExactReadBlockSpec.post enc Try.prog Try.f4 false true false false) := by
  refine returnsInHanded_of_change (C := Try.checked) own_fnExactReadBlock started (by kernel_rfl) Try.func4
    (ChangeSpec.witness6 (enc := enc) (C := Try.checked) false ⟨#[], #[.string ByteArray.empty], []⟩ 8 (by kernel_rfl) (by kernel_rfl) (by kernel_rfl) (by kernel_rfl)) ?_
  intro W base args ds gs before hval0 hW hcnd _
  have hval : ∀ (j : Nat) t v, Try.f4.params[j]? = some t → args[j]? = some v → Value.okWide Try.prog W .any base t v := hval0
  have hW' := hW
  obtain ⟨p, q, hA0, hV, rfl, hfz, hnd⟩ := hW
  have hA : DataW.TrodAll enc Try.prog W 0 (fun _ => true) true Try.f4.params.toList args.toList ds p := hA0
  rw [Try.params4] at hA hval
  obtain ⟨v0, vs0, d0, ds0, p0, q0, hargs, rfl, rfl, h0, r0⟩ := trodAll_cons hA
  obtain ⟨rfl, rfl, rfl⟩ := trodAll_nil r0
  obtain rfl : args = #[v0] := by cases args; simp_all
  obtain ⟨rfl, rfl⟩ := trodVars_none hV
  obtain ⟨a0, rfl, rfl, rfl, w0⟩ := open_string Try.underlying9 (hval 0 9 v0 rfl rfl) h0
  clear hA0 hval0
  refine (lawReadBlock a0 w0 W).mono fun e W' ⟨he, bel⟩ => ?_
  subst he
  exact ⟨_, rfl, _, _, _, [], _, [], hW', trodAll_mk1 (shut_bool Try.underlying4 _), (trodAll_cons_mk (shut_string Try.underlying9 w0) trodAll_mk0), rfl, bel.frame _, fun h => by cases h⟩
theorem over_fnExactReadBlock : Rows.fnExactReadBlockRow.holds Try.pinned (OpenSpec.ofChange Rows.fnExactReadBlockSpec) :=
  OpenClaim.holds_of_wide 4 Try.f4 rfl rfl rfl rfl rfl rfl rfl ⟨rfl, rfl, rfl, rfl, rfl⟩ rfl rfl rfl rfl rfl (by kernel_rfl) Try.func4 (by kernel_rfl)
    (of_decide_eq_true (by kernel_rfl)) (by unfold Func.isWrapper; first | (rw [if_pos (by decide +kernel)]; kernel_rfl) | (rw [if_neg (by decide +kernel)]; exact ⟨rfl, rfl⟩))
    (fun os started H enc _ => lifted_fnExactReadBlock os started H enc)
theorem fnExactReadBlock_holds : Rows.FnExactReadBlockSaid := over_fnExactReadBlock
#print axioms fnExactReadBlock_holds

end Go.Proofs.Ytckidhcknibceaa
