/- Whatever votes and number it is called with, laws.FnExactGathered returns true and its arguments read as before: both Gathereds tell the same, in memory of their own, and what they are handed stays. Condition: the three listed tables of the Go library hold what its text lays there (tied by the card). -/
-- UNF Gen
import Derived.Test.YtbnibnbmdbdibabDoorRows
import Derived.Test.YtbnibnbmdbdibabDoorCards
import Derived.Test.YtbnibnbmdbdibabDoorTie
import Derived.Test.YtbnibnbmdbdibabDoorGatImp
import Derived.Test.YtbnibnbmdbdibabDoorGatSpec
import Derived.Test.YtbnibnbmdbdibabDoorPrfMark
import Derived.Test.YtbnibnbmdbdibabDoorVotMark
import Derived.Test.YtbnibnbmdbdibabDoorLaid
import Derived.ProofKit
import Derived.OpenShut
import Derived.ShutString
import Derived.ChangeOld
import Derived.LaidMore
import Derived.SevenTiedAt
import Derived.Stop.Joined
namespace Go.Proofs.YtbnibnbmdbdibabDoor
open Go.ChangeShapes Go.WideShapes Go.ChangeAt Go.RowKit
theorem gat_few (l : List Vot) (n : Int) : ((gatR l n).getD prfZ).sv.length ≤ 7 ∧ ((gatR l n).getD prfZ).tg.length ≤ 7 := by
  unfold gatR
  split
  · rename_i h
    have h1 := gPr_len l (nthVo l 0).vw (nthVo l 0).nm n.toNat
    have h2 := quoR_yes h.1
    simp only [Option.getD_some]
    omega
  · simp [prfZ]
set_option maxHeartbeats 8000000 in
set_option maxRecDepth 100000 in
theorem lawGathered (v : Value) (l : List Vot) (n : Int) (_ : (Lit.int .i64 n).wf = true) (w : World) (hr : RdVo w v l) (hf : ∀ x ∈ l, FitVo x) (ht : Tab w) :
    Calls Tryd.prog 4 #[v, .int .i64 n] w fun e w' => e = .returned (.bool true) ∧ Below w.heap.size w w' := by
  go_enter Tryd.func4, Tryd.ntmps4
  go_wp2_with fail
  refine (szVotes_any _ l _ hr).mono ?_
  rintro e w1 ⟨hw1, z, rfl, hz⟩
  obtain rfl : w = w1 := hw1.symm
  clear hw1
  rcases hz with hz | ⟨hz0, hl⟩
  · subst hz
    go_wp2
    go_ret
    exact ⟨rfl, Below.refl _ _⟩
  have hfew := gat_few l n
  have HS0 : ∀ u W, RdVo W u l → Calls Tryd.prog 12 #[u, .int .i64 n] W fun e w' => GatP W (gatR l n) e w' := fun u W h => specGathered_any u l n W h hf
  have HI0 : ∀ u W, RdVo W u l → Tab W → Calls Tryd.prog 14 #[u, .int .i64 n] W fun e w' => GatP W (gatR l n) e w' := fun u W h t => implGathered_any u l n W h hf t
  obtain ⟨p, hp⟩ : ∃ p, p = (gatR l n).getD prfZ := ⟨_, rfl⟩
  obtain ⟨bo, hbo⟩ : ∃ bo, bo = (gatR l n).isSome := ⟨_, rfl⟩
  rw [← hp] at hfew
  generalize gatR l n = R at HS0 HI0 hp hbo
  have HS : Hid (∀ u W, RdVo W u l → Calls Tryd.prog 12 #[u, .int .i64 n] W fun e w' => GatP W R e w') := HS0
  have HI : Hid (∀ u W, RdVo W u l → Tab W → Calls Tryd.prog 14 #[u, .int .i64 n] W fun e w' => GatP W R e w') := HI0
  have HP : Hid (p = R.getD prfZ) := hp
  have HB : Hid (bo = R.isSome) := hbo
  have HC : Hid (p.sv.length ≤ 7 ∧ p.tg.length ≤ 7) := hfew
  have hbb : (bo != bo) = false := by cases bo <;> rfl
  clear HS0 HI0 hp hbo hfew hf
  have hq3 : ¬ (1 + 4 * (l.length : Int) < 0) := by omega
  have b1 : Below w.heap.size w w := Below.refl _ _
  go_wp2_with fail
  refine (toVotes_any _ l _ (hr.below b1) (by omega)).mono ?_
  rintro e w2 ⟨va, rfl, va_2, hb2⟩
  have b2 := b1.trans (hb2.mono b1.size)
  have z2 := hb2.size
  clear hb2 b1
  go_wp2_with fail
  refine (HS.out _ _ va_2.rd).mono ?_
  rintro e w3 ⟨X6, rfl, hX6, oX6, hb3⟩
  have b3 := b2.trans (hb3.mono b2.size)
  have z3 := hb3.size
  have va_3 := va_2.below hb3
  clear hb3 b2
  obtain ⟨pX6, s6, t6⟩ := X6
  simp only at hX6 oX6
  rw [← HP.out] at hX6
  subst pX6
  obtain ⟨a6, c6, d6, e6, hs6, ht6⟩ := oX6.slices
  simp only at hs6 ht6 ⊢
  generalize hm6 : List.length p.sv = m6 at hs6
  generalize hn6 : List.length p.tg = n6 at ht6
  clear hm6 hn6
  subst hs6 ht6
  rw [← HB.out]
  have hbx4 := below1 w3 (.cells #[.int .i64 p.vw, .int .i64 p.nm, .slice a6 m6 c6, .slice d6 n6 e6] 27)
  have t6_4 := bx_new w3 27 #[.int .i64 p.vw, .int .i64 p.nm, .slice a6 m6 c6, .slice d6 n6 e6]
  have va_4 := va_3.below hbx4
  have o6_4 := OwnPr.below oX6 hbx4
  have b4 : Below w.heap.size w (w3.alloc (.cells #[.int .i64 p.vw, .int .i64 p.nm, .slice a6 m6 c6, .slice d6 n6 e6] 27)) := b3.alloc b3.size _
  have N6 : Hid (∀ q ∈ prB (⟨p, .slice a6 m6 c6, .slice d6 n6 e6⟩ : PrX), w2.heap.size ≤ q ∧ q < w3.heap.size) := fun q hq => oX6.bound hq
  clear hbx4 oX6
  have LX : Hid (w.heap.size ≤ (w3.alloc (.cells #[.int .i64 p.vw, .int .i64 p.nm, .slice a6 m6 c6, .slice d6 n6 e6] 27)).heap.size) := b4.size
  go_wp2_with fail
  refine (toVotes_any _ l _ (hr.below b4) (by omega)).mono ?_
  rintro e w5 ⟨vx, rfl, vx_5, hb5⟩
  have b5 := b4.trans (hb5.mono b4.size)
  have z5 := hb5.size
  have t6_5 := t6_4.below hb5
  have o6_5 := o6_4.below hb5
  clear hb5 b4
  have S6 : Hid (w3.heap.size ≤ w5.heap.size) := by have h := z5; rw [szX] at h; unfold Hid; omega
  go_wp2_with fail
  refine (HI.out _ _ vx_5.rd (ht.on b5)).mono ?_
  rintro e w6 ⟨X9, rfl, hX9, oX9, hb6⟩
  have L9 : Hid (w.heap.size ≤ w5.heap.size) := b5.size
  have L69 : Hid (w3.heap.size ≤ w5.heap.size) := S6.out
  have b6 := b5.trans (hb6.mono b5.size)
  have z6 := hb6.size
  have t6_6 := t6_5.below hb6
  have o6_6 := o6_5.below hb6
  have vx_6 := vx_5.below hb6
  clear hb6 b5
  obtain ⟨pX9, s9, t9⟩ := X9
  simp only at hX9 oX9
  rw [← HP.out] at hX9
  subst pX9
  obtain ⟨a9, c9, d9, e9, hs9, ht9⟩ := oX9.slices
  simp only at hs9 ht9 ⊢
  generalize hm9 : List.length p.sv = m9 at hs9
  generalize hn9 : List.length p.tg = n9 at ht9
  clear hm9 hn9
  subst hs9 ht9
  rw [← HB.out]
  have hbx7 := below1 w6 (.cells #[.int .i64 p.vw, .int .i64 p.nm, .slice a9 m9 c9, .slice d9 n9 e9] 27)
  have t9_7 := bx_new w6 27 #[.int .i64 p.vw, .int .i64 p.nm, .slice a9 m9 c9, .slice d9 n9 e9]
  have t6_7 := t6_6.below hbx7
  have o6_7 := o6_6.below hbx7
  have vx_7 := vx_6.below hbx7
  have o9_7 := OwnPr.below oX9 hbx7
  have b7 : Below w.heap.size w (w6.alloc (.cells #[.int .i64 p.vw, .int .i64 p.nm, .slice a9 m9 c9, .slice d9 n9 e9] 27)) := b6.alloc b6.size _
  have N9 : Hid (∀ q ∈ prB (⟨p, .slice a9 m9 c9, .slice d9 n9 e9⟩ : PrX), w5.heap.size ≤ q ∧ q < w6.heap.size) := fun q hq => oX9.bound hq
  clear hbx7 oX9
  obtain ⟨g90, g91, g92, g93⟩ := t9_7.c4
  obtain ⟨g60, g61, g62, g63⟩ := t6_7.c4
  go_wp2_with fail
  refine (eqProof_same ⟨p, .slice a9 m9 c9, .slice d9 n9 e9⟩ ⟨p, .slice a6 m6 c6, .slice d6 n6 e6⟩ _ o9_7.rd o6_7.rd rfl).mono ?_
  rintro e w8 ⟨rfl, hb8⟩
  clear g90 g91 g92 g93 g60 g61 g62 g63
  have b8 := b7.trans (hb8.mono b7.size)
  have z8 := hb8.size
  have t6_8 := t6_7.below hb8
  have o6_8 := o6_7.below hb8
  have vx_8 := vx_7.below hb8
  have t9_8 := t9_7.below hb8
  have o9_8 := o9_7.below hb8
  clear hb8 b7
  go_wp2_with fail
  refine (toVotes_any _ l _ (hr.below b8) (by omega)).mono ?_
  rintro e w9 ⟨vt, rfl, vt_9, hb9⟩
  have b9 := b8.trans (hb9.mono b8.size)
  have z9 := hb9.size
  have t6_9 := t6_8.below hb9
  have o6_9 := o6_8.below hb9
  have vx_9 := vx_8.below hb9
  have t9_9 := t9_8.below hb9
  have o9_9 := o9_8.below hb9
  clear hb9 b8
  go_wp2_with fail
  refine (eqVotes_same _ _ l _ vx_9.rd vt_9.rd).mono ?_
  rintro e w10 ⟨rfl, hb10⟩
  have b10 := b9.trans (hb10.mono b9.size)
  have z10 := hb10.size
  have t6_10 := t6_9.below hb10
  have o6_10 := o6_9.below hb10
  have vx_10 := vx_9.below hb10
  have t9_10 := t9_9.below hb10
  have o9_10 := o9_9.below hb10
  have vt_10 := vt_9.below hb10
  clear hb10 b9
  go_wp2_with fail
  refine (vomarkZ vx l _ 1 _ _ (by omega) (by omega) vx_10).mono ?_
  rintro e w11 ⟨rfl, -, hg11⟩
  have tc11 : Touch (oneB vx) _ w11 := Touch.of_grown hg11 (fun q hq => mem_oneB.2 hq)
  have b11 : Below w.heap.size w w11 := b10.grown hg11 b10.size (fun q hq => by have h1 := World.ownsRow.lt vx_10 q hq; have h2 := LX.out; omega)
  have t6_11 := t6_10.touch tc11 (fun q => t6_10.row vx_10 (by decide) _ (mem_oneB.1 q) rfl)
  have o6_11 := o6_10.touch tc11 (fun q hq hq2 => by rcases List.mem_append.1 hq with hq | hq; exact rows_apart o6_10.sv vx_10 (by decide) q (mem_oneB.1 hq) (mem_oneB.1 hq2); exact rows_apart o6_10.tg vx_10 (by decide) q (mem_oneB.1 hq) (mem_oneB.1 hq2))
  have t9_11 := t9_10.touch tc11 (fun q => t9_10.row vx_10 (by decide) _ (mem_oneB.1 q) rfl)
  have o9_11 := o9_10.touch tc11 (fun q hq hq2 => by rcases List.mem_append.1 hq with hq | hq; exact rows_apart o9_10.sv vx_10 (by decide) q (mem_oneB.1 hq) (mem_oneB.1 hq2); exact rows_apart o9_10.tg vx_10 (by decide) q (mem_oneB.1 hq) (mem_oneB.1 hq2))
  clear hg11 tc11 b10
  obtain ⟨g90, g91, g92, g93⟩ := t9_11.c4
  obtain ⟨g60, g61, g62, g63⟩ := t6_11.c4
  go_wp2_with fail
  refine (eqProof_same ⟨p, .slice a9 m9 c9, .slice d9 n9 e9⟩ ⟨p, .slice a6 m6 c6, .slice d6 n6 e6⟩ _ o9_11.rd o6_11.rd rfl).mono ?_
  rintro e w12 ⟨rfl, hb12⟩
  clear g90 g91 g92 g93 g60 g61 g62 g63
  have b12 := b11.trans (hb12.mono b11.size)
  have z12 := hb12.size
  have t6_12 := t6_11.below hb12
  have o6_12 := o6_11.below hb12
  have t9_12 := t9_11.below hb12
  have o9_12 := o9_11.below hb12
  clear hb12 b11
  obtain ⟨zz, hzz⟩ : ∃ zz : Nat, zz = 1 + cntPr (⟨p, .slice a9 m9 c9, .slice d9 n9 e9⟩ : PrX) := ⟨_, rfl⟩
  have HZZ : Hid (1 + cntPr (⟨p, .slice a9 m9 c9, .slice d9 n9 e9⟩ : PrX) = zz) := hzz.symm
  have hz2 : ¬ ((zz : Int) < 0) := by omega
  have hz3 : ((zz : Int) != (zz : Int)) = false := by simp
  clear hzz
  obtain ⟨g90, g91, g92, g93⟩ := t9_12.c4
  go_wp2_with fail
  refine (markProof_any ⟨p, .slice a9 m9 c9, .slice d9 n9 e9⟩ _ 1 _ o9_12 (by unfold cntPr; have := HC.out; simp only; omega)).mono ?_
  rintro e w13 ⟨rfl, o9_13, tc13⟩
  rw [HZZ.out]
  clear g90 g91 g92 g93
  have t9_13 := t9_12.touch tc13 (fun q => by rcases List.mem_append.1 q with q | q; exact t9_12.row o9_12.sv (by decide) _ (mem_oneB.1 q) rfl; exact t9_12.row o9_12.tg (by decide) _ (mem_oneB.1 q) rfl)
  have t6_13 := t6_12.touch tc13 (fun q => by rcases List.mem_append.1 q with q | q; exact t6_12.row o9_12.sv (by decide) _ (mem_oneB.1 q) rfl; exact t6_12.row o9_12.tg (by decide) _ (mem_oneB.1 q) rfl)
  have o6_13 := o6_12.touch tc13 (fun q hq hq2 => by have h1 := N6.out q hq; have h2 := N9.out q hq2; have h3 := L69.out; omega)
  have b13 : Below w.heap.size w w13 := tc13.below b12 (fun q hq => by have h2 := N9.out q hq; have h3 := L9.out; omega)
  clear tc13 b12
  obtain ⟨g90, g91, g92, g93⟩ := t9_13.c4
  go_wp2_with fail
  refine (heldProof_any ⟨p, .slice a9 m9 c9, .slice d9 n9 e9⟩ 1 _ o9_13.rd (by unfold cntPr; have := HC.out; simp only; omega)).mono ?_
  rintro e w14 ⟨rfl, hb14⟩
  rw [HZZ.out]
  clear g90 g91 g92 g93
  have b14 := b13.trans (hb14.mono b13.size)
  have z14 := hb14.size
  have t6_14 := t6_13.below hb14
  have o6_14 := o6_13.below hb14
  have t9_14 := t9_13.below hb14
  have o9_14 := o9_13.below hb14
  clear hb14 b13
  go_wp2_with fail
  refine (toVotes_any _ l _ (hr.below b14) (by omega)).mono ?_
  rintro e w15 ⟨vc, rfl, vc_15, hb15⟩
  have b15 := b14.trans (hb15.mono b14.size)
  have z15 := hb15.size
  have t6_15 := t6_14.below hb15
  have o6_15 := o6_14.below hb15
  have t9_15 := t9_14.below hb15
  have o9_15 := o9_14.below hb15
  clear hb15 b14
  go_wp2_with fail
  refine (HI.out _ _ vc_15.rd (ht.on b15)).mono ?_
  rintro e w16 ⟨X14, rfl, hX14, oX14, hb16⟩
  have b16 := b15.trans (hb16.mono b15.size)
  have z16 := hb16.size
  have t6_16 := t6_15.below hb16
  have o6_16 := o6_15.below hb16
  have t9_16 := t9_15.below hb16
  have o9_16 := o9_15.below hb16
  have vc_16 := vc_15.below hb16
  clear hb16 b15
  obtain ⟨pX14, s14, t14⟩ := X14
  simp only at hX14 oX14
  rw [← HP.out] at hX14
  subst pX14
  obtain ⟨a14, c14, d14, e14, hs14, ht14⟩ := oX14.slices
  simp only at hs14 ht14 ⊢
  generalize hm14 : List.length p.sv = m14 at hs14
  generalize hn14 : List.length p.tg = n14 at ht14
  clear hm14 hn14
  subst hs14 ht14
  rw [← HB.out]
  have hbx17 := below1 w16 (.cells #[.int .i64 p.vw, .int .i64 p.nm, .slice a14 m14 c14, .slice d14 n14 e14] 27)
  have t14_17 := bx_new w16 27 #[.int .i64 p.vw, .int .i64 p.nm, .slice a14 m14 c14, .slice d14 n14 e14]
  have t6_17 := t6_16.below hbx17
  have o6_17 := o6_16.below hbx17
  have t9_17 := t9_16.below hbx17
  have o9_17 := o9_16.below hbx17
  have vc_17 := vc_16.below hbx17
  have o14_17 := OwnPr.below oX14 hbx17
  have b17 : Below w.heap.size w (w16.alloc (.cells #[.int .i64 p.vw, .int .i64 p.nm, .slice a14 m14 c14, .slice d14 n14 e14] 27)) := b16.alloc b16.size _
  have N14 : Hid (∀ q ∈ prB (⟨p, .slice a14 m14 c14, .slice d14 n14 e14⟩ : PrX), w15.heap.size ≤ q ∧ q < w16.heap.size) := fun q hq => oX14.bound hq
  clear hbx17 oX14
  obtain ⟨g140, g141, g142, g143⟩ := t14_17.c4
  obtain ⟨g60, g61, g62, g63⟩ := t6_17.c4
  go_wp2_with fail
  refine (eqProof_same ⟨p, .slice a14 m14 c14, .slice d14 n14 e14⟩ ⟨p, .slice a6 m6 c6, .slice d6 n6 e6⟩ _ o14_17.rd o6_17.rd rfl).mono ?_
  rintro e w18 ⟨rfl, hb18⟩
  clear g140 g141 g142 g143 g60 g61 g62 g63
  have b18 := b17.trans (hb18.mono b17.size)
  have z18 := hb18.size
  have t6_18 := t6_17.below hb18
  have o6_18 := o6_17.below hb18
  have t9_18 := t9_17.below hb18
  have o9_18 := o9_17.below hb18
  have t14_18 := t14_17.below hb18
  have o14_18 := o14_17.below hb18
  clear hb18 b17
  obtain ⟨g90, g91, g92, g93⟩ := t9_18.c4
  go_wp2_with fail
  refine (heldProof_any ⟨p, .slice a9 m9 c9, .slice d9 n9 e9⟩ 1 _ o9_18.rd (by unfold cntPr; have := HC.out; simp only; omega)).mono ?_
  rintro e w19 ⟨rfl, hb19⟩
  rw [HZZ.out]
  clear g90 g91 g92 g93
  have b19 := b18.trans (hb19.mono b18.size)
  have z19 := hb19.size
  have t6_19 := t6_18.below hb19
  have o6_19 := o6_18.below hb19
  have t9_19 := t9_18.below hb19
  have o9_19 := o9_18.below hb19
  have t14_19 := t14_18.below hb19
  have o14_19 := o14_18.below hb19
  clear hb19 b18
  go_wp2
  go_ret
  exact ⟨rfl, b19⟩
theorem own_fnExactGathered : ownKnob Tryd.prog.godebug = none := by kernel_rfl
theorem laidOut_fnExactGathered : laidOutB Tryd.prog = true := by kernel_rfl
theorem door_fnExactGathered (os : Os) (args : Array Value) : laidMetH Tryd.prog Rows.fnExactGatheredRow.laid ((World.doorLaid Tryd.prog 400 os).forCall (fun _ _ => 0) ⟨#[], args, []⟩).memory :=
  laidMetH_of_parts3 (fuel := 8) (laidMet_of_run' 8 (by kernel_rfl) (by kernel_rfl)) (by kernel_rfl) (by kernel_rfl)
set_option maxRecDepth 100000 in
theorem lifted_fnExactGathered (os : Os) (started : os.Started) (H : Type) (enc : TypeId × Value → H) :
    ReturnsInHanded {} Tryd.checked os 4 .any (fun w args => (Rows.fnExactGatheredSpec.pre enc Tryd.prog Tryd.f4 [] false w args ∧ laidMetH Tryd.prog Rows.fnExactGatheredRow.laid w) ∧ sizedMet enc Tryd.prog Tryd.f4 (OpenSpec.ofChange Rows.fnExactGatheredSpec) false w args)
      (Rows.fnExactGatheredSpec.post enc Tryd.prog Tryd.f4 false true false false) := by
  refine returnsInHanded_of_change_and (C := Tryd.checked) (X := fun w _ => laidMetH Tryd.prog Rows.fnExactGatheredRow.laid w) (fun _ _ _ hh h => h.of_heap hh) own_fnExactGathered started (by kernel_rfl) Tryd.func4
    (ChangeSpec.witness_shaped (enc := enc) (C := Tryd.checked) (os := os) (X := fun w _ => laidMetH Tryd.prog Rows.fnExactGatheredRow.laid w) false (World.doorLaid Tryd.prog 400 os) #[.slice none 0 0, .int .i64 0] 8 rfl (World.shaped_of_RefB (by kernel_rfl) (by kernel_rfl)) (by kernel_rfl) (by kernel_rfl) (by kernel_rfl) (door_fnExactGathered os _)) ?_
  intro W base args ds gs before hval0 hW _ _ hL _
  have hval : ∀ (j : Nat) t v, Tryd.f4.params[j]? = some t → args[j]? = some v → Value.okWide Tryd.prog W .any base t v := hval0
  have hW' := hW
  obtain ⟨p, q, hA0, hV, rfl, hfz, hnd⟩ := hW
  have hA : DataW.TrodAll enc Tryd.prog W 0 (fun _ => true) true Tryd.f4.params.toList args.toList ds p := hA0
  rw [Tryd.params4] at hA hval
  obtain ⟨v0, vs0, d0, ds0, p0, q0, hargs, rfl, rfl, h0, r0⟩ := trodAll_cons hA
  obtain ⟨v1, vs1, d1, ds1, p1, q1, rfl, rfl, rfl, h1, r1⟩ := trodAll_cons r0
  obtain ⟨rfl, rfl, rfl⟩ := trodAll_nil r1
  obtain rfl : args = #[v0, v1] := by cases args; simp_all
  obtain ⟨rfl, rfl⟩ := trodVars_none hV
  obtain ⟨a0, len0, cap0, rfl⟩ := okWide_slice Tryd.underlying31 (hval 0 31 v0 rfl rfl)
  have k0 := h0
  have lt0 : ∀ x ∈ p0, x.block < W.heap.size := by obtain ⟨m, hm⟩ := k0; exact DataW.trod_lt m _ _ _ hm
  obtain ⟨es0, hr0, hh0⟩ := open_votes k0 ⟨a0, len0, cap0, rfl⟩
  obtain ⟨a1, rfl, rfl, rfl, w1⟩ := open_int Tryd.underlying2 (hval 1 2 v1 rfl rfl) h1
  have htab := tab_of_laid hL
  clear hA0 hval0
  refine (lawGathered _ es0 a1 w1 W hr0 hh0 htab).mono fun e W' ⟨he, bel⟩ => ?_
  subst he
  exact ⟨_, rfl, _, _, _, [], _, [], hW', trodAll_mk1 (shut_bool Tryd.underlying4 _), (trodAll_cons_mk (Below.trod laidOut_fnExactGathered (by kernel_rfl) (of_decide_eq_true (by kernel_rfl)) k0 bel lt0) (trodAll_cons_mk (shut_int Tryd.underlying2 w1) trodAll_mk0)), rfl, bel.frame _, fun h => by cases h⟩
theorem over_fnExactGathered : Rows.fnExactGatheredRow.holds Tryd.pinned (OpenSpec.ofChange Rows.fnExactGatheredSpec) :=
  OpenClaim.holds_of_wide 4 Tryd.f4 rfl rfl rfl rfl rfl rfl rfl ⟨rfl, rfl, rfl, rfl, rfl⟩ rfl rfl rfl rfl rfl (by kernel_rfl) Tryd.func4 (by kernel_rfl)
    (of_decide_eq_true (by kernel_rfl)) (by unfold Func.isWrapper; first | (rw [if_pos (by decide +kernel)]; kernel_rfl) | (rw [if_neg (by decide +kernel)]; exact ⟨rfl, rfl⟩))
    (fun os started H enc _ => lifted_fnExactGathered os started H enc)
theorem fnExactGathered_holds : Rows.FnExactGatheredCardSaid :=
  Claim7.holds_tied_plain_at .later [] [.data, .data, .data] true Rows.fnExactGatheredCard.stood.harness Rows.fnExactGatheredCard.stood.looks
    over_fnExactGathered (fun _ h => by cases h) (by kernel_rfl) (fun _ h => by cases h) fnExactGathered_row_tie rfl ⟨rfl, rfl⟩ (by kernel_rfl) rfl
    (fun f fn hf hfn => by
      obtain rfl : f = 4 := Option.some.inj ((show Tryd.prog.funcNamed "loop.example/g00217/laws.FnExactGathered" = some 4 by kernel_rfl).symm.trans hf) |>.symm
      obtain rfl : fn = Tryd.f4 := (Option.some.inj (Tryd.func4.symm.trans hfn)).symm
      exact ⟨by kernel_rfl, fun j t ht => by
        rw [Tryd.params4] at ht
        have hm : t ∈ [31, 2] := by simpa using Array.mem_of_getElem? ht
        have hall : ([31, 2].all fun u => !Tryd.prog.wantsStandIn u) = true := by kernel_rfl
        exact (show Tryd.prog.wantsStandIn t = false by simpa using List.all_eq_true.1 hall t hm)⟩)
    (by kernel_rfl)
#print axioms fnExactGathered_holds

end Go.Proofs.YtbnibnbmdbdibabDoor
