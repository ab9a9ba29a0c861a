/- Whatever Offers it is called with, laws.FnExactNext returns true and its argument reads as before: both Next tell the same, in memory of their own, and what they are handed stays. No condition. -/
-- UNF Gen
import Derived.Test.YteohiicaiilicaaRows
import Derived.Test.YteohiicaiilicaaOffMk2
import Derived.Test.YteohiicaiilicaaOffSpk
import Derived.ProofKit
import Derived.OpenShut
import Derived.ShutString
import Derived.ChangeOld
namespace Go.Proofs.Yteohiicaiilicaa
open Go.ChangeShapes Go.WideShapes Go.ChangeAt Go.RowKit
theorem nxtR_len (es : List Off) : (nxtR es).length ≤ 50 := by
  unfold nxtR
  split
  · rename_i h
    unfold nxtO at h
    simp only [Bool.and_eq_true] at h
    have h1 := (poolOk_iff.1 h.1).1
    rw [nxtL_len]
    omega
  · simp
set_option maxHeartbeats 8000000 in
set_option maxRecDepth 100000 in
theorem lawNext (v : Value) (es : List Off) (w : World) (hr0 : RdO w v es) (hh : ∀ e ∈ es, e.text.size ≤ maxLen) :
    Calls Try.prog 6 #[v] w fun e w' => e = .returned (.bool true) ∧ Below w.heap.size w w' := by
  have hyl := nxtR_len es
  obtain ⟨ys, hys⟩ : ∃ ys, ys = nxtR es := ⟨_, rfl⟩
  obtain ⟨ok, hok⟩ : ∃ ok, ok = nxtO es := ⟨_, rfl⟩
  obtain ⟨f, hf⟩ : ∃ f, f = nxtF es := ⟨_, rfl⟩
  have hne : (ok != ok) = false := by simp
  have HS : Hid (∀ u w', RdO w' u es → Calls Try.prog 21 #[u] w' fun e w'' => ∃ a n cap c0, e = .returned (.tuple #[.agg #[.int .i64 f.fee, .string f.text], .slice a n cap, .bool ok]) ∧ n ≤ cap ∧ cap ≤ c0 ∧ OwnO w'' w'.heap.size (.slice a n c0) ys ∧ Below w'.heap.size w' w'') := fun u w' h => by rw [hok, hys, hf]; exact specNext_any u es w' h hh
  have HI : Hid (∀ u w', RdO w' u es → Calls Try.prog 12 #[u] w' fun e w'' => ∃ a n cap c0, e = .returned (.tuple #[.agg #[.int .i64 f.fee, .string f.text], .slice a n cap, .bool ok]) ∧ n ≤ cap ∧ cap ≤ c0 ∧ OwnO w'' w'.heap.size (.slice a n c0) ys ∧ Below w'.heap.size w' w'') := fun u w' h => by rw [hok, hys, hf]; exact implNext_any u es w' h hh
  rw [← hys] at hyl
  clear hok hys hf
  have hq1 : ¬ 1 + 2 * (ys.length : Int) < 0 := by omega
  have hq2 : (1 + 2 * (ys.length : Int) != 1 + 2 * (ys.length : Int)) = false := by simp
  have hq3 : ¬ 1 + 2 * (es.length : Int) < 0 := by omega
  go_enter Try.func6, Try.ntmps6
  go_wp2_with fail
  refine (szOffs_at _ es 1048576 _ hr0 hh (by omega) (by omega)).mono ?_
  rintro e w1 ⟨b1, z, rfl, hz⟩
  rcases hz with hz | ⟨hz0, hl⟩
  · subst hz
    go_wp2
    go_ret
    exact ⟨rfl, b1⟩
  have s1 := b1.size
  clear hh
  go_wp2_with fail
  refine (toOffs_any _ es _ (hr0.below b1) (by omega)).mono ?_
  rintro e w2 ⟨a0, rfl, ha02, hb2⟩
  have b2 := b1.trans (hb2.mono b1.size)
  have s2 : w1.heap.size ≤ w2.heap.size := by have h := hb2.size; first | exact h | (simp at h; omega)
  have la0 : ∀ k, (a0 : Value).ownBlock = some k → w1.heap.size ≤ k ∧ k < w2.heap.size := fun k hk => by have h := World.ownsRow.lt ha02 k hk; first | exact h | (simp at h; omega)
  go_wp2_with fail
  refine (HS.out _ _ ha02.rd).mono ?_
  rintro e w3 ⟨vwa, vwn, vwk, vwc, rfl, vw1, vw2, hvw3, hb3⟩
  have b3 := b2.trans (hb3.mono b2.size)
  have s3 : w2.heap.size ≤ w3.heap.size := by have h := hb3.size; first | exact h | (simp at h; omega)
  have ha03 : OwnO w3 _ (a0) es := OwnO.below ha02 hb3
  have lvw : ∀ k, (.slice vwa vwn vwc : Value).ownBlock = some k → w2.heap.size ≤ k ∧ k < w3.heap.size := fun k hk => by have h := World.ownsRow.lt hvw3 k hk; first | exact h | (simp at h; omega)
  have ba3 := below1 w3 (.cells #[.int .i64 f.fee, .string f.text] 26)
  have b3a := b3.trans (ba3.mono b3.size)
  have hvw3a : OwnO (w3.alloc (.cells #[.int .i64 f.fee, .string f.text] 26)) _ (.slice vwa vwn vwc) ys := OwnO.below hvw3 ba3
  have tA3a := offAt_new w3 f 26
  go_wp2_with fail
  refine (toOffs_any _ es _ (hr0.below b3a) (by omega)).mono ?_
  rintro e w4 ⟨x0, rfl, hx04, hb4⟩
  have b4 := b3a.trans (hb4.mono b3a.size)
  have s4 : w3.heap.size + 1 ≤ w4.heap.size := by have h := hb4.size; first | exact h | (simp at h; omega)
  have hvw4 : OwnO w4 _ (.slice vwa vwn vwc) ys := OwnO.below hvw3a hb4
  have tA4 : OffAt w4 w3.heap.size 0 f := OffAt.below tA3a hb4
  have lx0 : ∀ k, (x0 : Value).ownBlock = some k → w3.heap.size + 1 ≤ k ∧ k < w4.heap.size := fun k hk => by have h := World.ownsRow.lt hx04 k hk; first | exact h | (simp at h; omega)
  go_wp2_with fail
  refine (HI.out _ _ hx04.rd).mono ?_
  rintro e w5 ⟨vga, vgn, vgk, vgc, rfl, vg1, vg2, hvg5, hb5⟩
  have b5 := b4.trans (hb5.mono b4.size)
  have s5 : w4.heap.size ≤ w5.heap.size := by have h := hb5.size; first | exact h | (simp at h; omega)
  have hvw5 : OwnO w5 _ (.slice vwa vwn vwc) ys := OwnO.below hvw4 hb5
  have hx05 : OwnO w5 _ (x0) es := OwnO.below hx04 hb5
  have tA5 : OffAt w5 w3.heap.size 0 f := OffAt.below tA4 hb5
  have lvg : ∀ k, (.slice vga vgn vgc : Value).ownBlock = some k → w4.heap.size ≤ k ∧ k < w5.heap.size := fun k hk => by have h := World.ownsRow.lt hvg5 k hk; first | exact h | (simp at h; omega)
  have ba5 := below1 w5 (.cells #[.int .i64 f.fee, .string f.text] 26)
  have b5a := b5.trans (ba5.mono b5.size)
  have hvw5a : OwnO (w5.alloc (.cells #[.int .i64 f.fee, .string f.text] 26)) _ (.slice vwa vwn vwc) ys := OwnO.below hvw5 ba5
  have hx05a : OwnO (w5.alloc (.cells #[.int .i64 f.fee, .string f.text] 26)) _ (x0) es := OwnO.below hx05 ba5
  have hvg5a : OwnO (w5.alloc (.cells #[.int .i64 f.fee, .string f.text] 26)) _ (.slice vga vgn vgc) ys := OwnO.below hvg5 ba5
  have tA5a : OffAt (w5.alloc (.cells #[.int .i64 f.fee, .string f.text] 26)) w3.heap.size 0 f := OffAt.below tA5 ba5
  have tB5a := offAt_new w5 f 26
  obtain ⟨p0, q0⟩ := id tB5a
  have q0' : (w5.alloc (.cells #[.int .i64 f.fee, .string f.text] 26)).cell? ⟨w5.heap.size, 1, none⟩ = some (.string f.text) := q0
  obtain ⟨p1, q1⟩ := id tA5a
  have q1' : (w5.alloc (.cells #[.int .i64 f.fee, .string f.text] 26)).cell? ⟨w3.heap.size, 1, none⟩ = some (.string f.text) := q1
  go_wp2_with fail
  refine (eqOffer_same f _).mono ?_
  rintro e w6 ⟨rfl, hb6⟩
  have b6 := b5a.trans (hb6.mono b5a.size)
  have s6 : w5.heap.size + 1 ≤ w6.heap.size := by have h := hb6.size; first | exact h | (simp at h; omega)
  have hvw6 : OwnO w6 _ (.slice vwa vwn vwc) ys := OwnO.below hvw5a hb6
  have hx06 : OwnO w6 _ (x0) es := OwnO.below hx05a hb6
  have hvg6 : OwnO w6 _ (.slice vga vgn vgc) ys := OwnO.below hvg5a hb6
  have tA6 : OffAt w6 w3.heap.size 0 f := OffAt.below tA5a hb6
  have tB6 : OffAt w6 w5.heap.size 0 f := OffAt.below tB5a hb6
  clear p0 q0 q0' p1 q1 q1'
  go_wp2_with fail
  refine (eqOffs_same _ _ ys _ (RdO.narrow hvg6.rd vg1 vg2) (RdO.narrow hvw6.rd vw1 vw2)).mono ?_
  rintro e w7 ⟨rfl, hb7⟩
  have b7 := b6.trans (hb7.mono b6.size)
  have s7 : w6.heap.size ≤ w7.heap.size := by have h := hb7.size; first | exact h | (simp at h; omega)
  have hvw7 : OwnO w7 _ (.slice vwa vwn vwc) ys := OwnO.below hvw6 hb7
  have hx07 : OwnO w7 _ (x0) es := OwnO.below hx06 hb7
  have hvg7 : OwnO w7 _ (.slice vga vgn vgc) ys := OwnO.below hvg6 hb7
  have tA7 : OffAt w7 w3.heap.size 0 f := OffAt.below tA6 hb7
  have tB7 : OffAt w7 w5.heap.size 0 f := OffAt.below tB6 hb7
  go_wp2_with fail
  refine (toOffs_any _ es _ (hr0.below b7) (by omega)).mono ?_
  rintro e w8 ⟨u0, rfl, hu08, hb8⟩
  have b8 := b7.trans (hb8.mono b7.size)
  have s8 : w7.heap.size ≤ w8.heap.size := by have h := hb8.size; first | exact h | (simp at h; omega)
  have hvw8 : OwnO w8 _ (.slice vwa vwn vwc) ys := OwnO.below hvw7 hb8
  have hx08 : OwnO w8 _ (x0) es := OwnO.below hx07 hb8
  have hvg8 : OwnO w8 _ (.slice vga vgn vgc) ys := OwnO.below hvg7 hb8
  have tA8 : OffAt w8 w3.heap.size 0 f := OffAt.below tA7 hb8
  have tB8 : OffAt w8 w5.heap.size 0 f := OffAt.below tB7 hb8
  have lu0 : ∀ k, (u0 : Value).ownBlock = some k → w7.heap.size ≤ k ∧ k < w8.heap.size := fun k hk => by have h := World.ownsRow.lt hu08 k hk; first | exact h | (simp at h; omega)
  go_wp2_with fail
  refine (eqOffs_same _ _ es _ hx08.rd hu08.rd).mono ?_
  rintro e w9 ⟨rfl, hb9⟩
  have b9 := b8.trans (hb9.mono b8.size)
  have s9 : w8.heap.size ≤ w9.heap.size := by have h := hb9.size; first | exact h | (simp at h; omega)
  have hvw9 : OwnO w9 _ (.slice vwa vwn vwc) ys := OwnO.below hvw8 hb9
  have hx09 : OwnO w9 _ (x0) es := OwnO.below hx08 hb9
  have hvg9 : OwnO w9 _ (.slice vga vgn vgc) ys := OwnO.below hvg8 hb9
  have hu09 : OwnO w9 _ (u0) es := OwnO.below hu08 hb9
  have tA9 : OffAt w9 w3.heap.size 0 f := OffAt.below tA8 hb9
  have tB9 : OffAt w9 w5.heap.size 0 f := OffAt.below tB8 hb9
  go_wp2_with fail
  refine (omarkZ x0 es _ 1 _ _ (by omega) (by omega) hx09).mono ?_
  rintro e w10 ⟨rfl, -, hb10⟩
  have b10 : Below w.heap.size w w10 := b9.grown hb10 b9.size (fun k hk => by have := lx0 k hk; omega)
  have s10 : w9.heap.size ≤ w10.heap.size := by have h := hb10.size; first | exact h | (simp at h; omega)
  have hvw10 : OwnO w10 _ (.slice vwa vwn vwc) ys := row_kept hvw9 hb10 (fun k hk e => by have := lvw k hk; have := lx0 k e; omega)
  have hvg10 : OwnO w10 _ (.slice vga vgn vgc) ys := row_kept hvg9 hb10 (fun k hk e => by have := lvg k hk; have := lx0 k e; omega)
  have tA10 : OffAt w10 w3.heap.size 0 f := tA9.of_block (hb10.block _ tA9.lt (fun e => by have := lx0 _ e.symm; omega))
  have tB10 : OffAt w10 w5.heap.size 0 f := tB9.of_block (hb10.block _ tB9.lt (fun e => by have := lx0 _ e.symm; omega))
  obtain ⟨p0, q0⟩ := id tB10
  have q0' : w10.cell? ⟨w5.heap.size, 1, none⟩ = some (.string f.text) := q0
  obtain ⟨p1, q1⟩ := id tA10
  have q1' : w10.cell? ⟨w3.heap.size, 1, none⟩ = some (.string f.text) := q1
  go_wp2_with fail
  refine (eqOffer_same f _).mono ?_
  rintro e w11 ⟨rfl, hb11⟩
  have b11 := b10.trans (hb11.mono b10.size)
  have s11 : w10.heap.size ≤ w11.heap.size := by have h := hb11.size; first | exact h | (simp at h; omega)
  have hvw11 : OwnO w11 _ (.slice vwa vwn vwc) ys := OwnO.below hvw10 hb11
  have hvg11 : OwnO w11 _ (.slice vga vgn vgc) ys := OwnO.below hvg10 hb11
  have tA11 : OffAt w11 w3.heap.size 0 f := OffAt.below tA10 hb11
  have tB11 : OffAt w11 w5.heap.size 0 f := OffAt.below tB10 hb11
  clear p0 q0 q0' p1 q1 q1'
  go_wp2_with fail
  refine (eqOffs_same _ _ ys _ (RdO.narrow hvg11.rd vg1 vg2) (RdO.narrow hvw11.rd vw1 vw2)).mono ?_
  rintro e w12 ⟨rfl, hb12⟩
  have b12 := b11.trans (hb12.mono b11.size)
  have s12 : w11.heap.size ≤ w12.heap.size := by have h := hb12.size; first | exact h | (simp at h; omega)
  have hvw12 : OwnO w12 _ (.slice vwa vwn vwc) ys := OwnO.below hvw11 hb12
  have hvg12 : OwnO w12 _ (.slice vga vgn vgc) ys := OwnO.below hvg11 hb12
  have tA12 : OffAt w12 w3.heap.size 0 f := OffAt.below tA11 hb12
  have tB12 : OffAt w12 w5.heap.size 0 f := OffAt.below tB11 hb12
  go_wp2_with fail
  refine (omarkC vga vgn vgk vgc ys _ 1 _ _ (by omega) (by omega) hvg12 vg1 vg2).mono ?_
  rintro e w13 ⟨rfl, hvg13, hb13⟩
  have b13 : Below w.heap.size w w13 := b12.grown hb13 b12.size (fun k hk => by have := lvg k hk; omega)
  have s13 : w12.heap.size ≤ w13.heap.size := by have h := hb13.size; first | exact h | (simp at h; omega)
  have hvw13 : OwnO w13 _ (.slice vwa vwn vwc) ys := row_kept hvw12 hb13 (fun k hk e => by have := lvw k hk; have := lvg k e; omega)
  have tA13 : OffAt w13 w3.heap.size 0 f := tA12.of_block (hb13.block _ tA12.lt (fun e => by have := lvg _ e.symm; omega))
  have tB13 : OffAt w13 w5.heap.size 0 f := tB12.of_block (hb13.block _ tB12.lt (fun e => by have := lvg _ e.symm; omega))
  go_wp2_with fail
  refine (oheldZ _ ys.length 1 _ _ (by omega) (by omega) (RdO.narrow hvg13.rd vg1 vg2)).mono ?_
  rintro e w14 ⟨rfl, hb14⟩
  have b14 := b13.trans (hb14.mono b13.size)
  have s14 : w13.heap.size ≤ w14.heap.size := by have h := hb14.size; first | exact h | (simp at h; omega)
  have hvw14 : OwnO w14 _ (.slice vwa vwn vwc) ys := OwnO.below hvw13 hb14
  have hvg14 : OwnO w14 _ (.slice vga vgn vgc) _ := OwnO.below hvg13 hb14
  have tA14 : OffAt w14 w3.heap.size 0 f := OffAt.below tA13 hb14
  have tB14 : OffAt w14 w5.heap.size 0 f := OffAt.below tB13 hb14
  go_wp2_with fail
  refine (toOffs_any _ es _ (hr0.below b14) (by omega)).mono ?_
  rintro e w15 ⟨c0, rfl, hc015, hb15⟩
  have b15 := b14.trans (hb15.mono b14.size)
  have s15 : w14.heap.size ≤ w15.heap.size := by have h := hb15.size; first | exact h | (simp at h; omega)
  have hvw15 : OwnO w15 _ (.slice vwa vwn vwc) ys := OwnO.below hvw14 hb15
  have hvg15 : OwnO w15 _ (.slice vga vgn vgc) _ := OwnO.below hvg14 hb15
  have tA15 : OffAt w15 w3.heap.size 0 f := OffAt.below tA14 hb15
  have tB15 : OffAt w15 w5.heap.size 0 f := OffAt.below tB14 hb15
  have lc0 : ∀ k, (c0 : Value).ownBlock = some k → w14.heap.size ≤ k ∧ k < w15.heap.size := fun k hk => by have h := World.ownsRow.lt hc015 k hk; first | exact h | (simp at h; omega)
  go_wp2_with fail
  refine (HI.out _ _ hc015.rd).mono ?_
  rintro e w16 ⟨vha, vhn, vhk, vhc, rfl, vh1, vh2, hvh16, hb16⟩
  have b16 := b15.trans (hb16.mono b15.size)
  have s16 : w15.heap.size ≤ w16.heap.size := by have h := hb16.size; first | exact h | (simp at h; omega)
  have hvw16 : OwnO w16 _ (.slice vwa vwn vwc) ys := OwnO.below hvw15 hb16
  have hvg16 : OwnO w16 _ (.slice vga vgn vgc) _ := OwnO.below hvg15 hb16
  have hc016 : OwnO w16 _ (c0) es := OwnO.below hc015 hb16
  have tA16 : OffAt w16 w3.heap.size 0 f := OffAt.below tA15 hb16
  have tB16 : OffAt w16 w5.heap.size 0 f := OffAt.below tB15 hb16
  have lvh : ∀ k, (.slice vha vhn vhc : Value).ownBlock = some k → w15.heap.size ≤ k ∧ k < w16.heap.size := fun k hk => by have h := World.ownsRow.lt hvh16 k hk; first | exact h | (simp at h; omega)
  have ba16 := below1 w16 (.cells #[.int .i64 f.fee, .string f.text] 26)
  have b16a := b16.trans (ba16.mono b16.size)
  have hvw16a : OwnO (w16.alloc (.cells #[.int .i64 f.fee, .string f.text] 26)) _ (.slice vwa vwn vwc) ys := OwnO.below hvw16 ba16
  have hvg16a : OwnO (w16.alloc (.cells #[.int .i64 f.fee, .string f.text] 26)) _ (.slice vga vgn vgc) _ := OwnO.below hvg16 ba16
  have hvh16a : OwnO (w16.alloc (.cells #[.int .i64 f.fee, .string f.text] 26)) _ (.slice vha vhn vhc) ys := OwnO.below hvh16 ba16
  have tA16a : OffAt (w16.alloc (.cells #[.int .i64 f.fee, .string f.text] 26)) w3.heap.size 0 f := OffAt.below tA16 ba16
  have tB16a : OffAt (w16.alloc (.cells #[.int .i64 f.fee, .string f.text] 26)) w5.heap.size 0 f := OffAt.below tB16 ba16
  have tC16a := offAt_new w16 f 26
  obtain ⟨p0, q0⟩ := id tC16a
  have q0' : (w16.alloc (.cells #[.int .i64 f.fee, .string f.text] 26)).cell? ⟨w16.heap.size, 1, none⟩ = some (.string f.text) := q0
  obtain ⟨p1, q1⟩ := id tA16a
  have q1' : (w16.alloc (.cells #[.int .i64 f.fee, .string f.text] 26)).cell? ⟨w3.heap.size, 1, none⟩ = some (.string f.text) := q1
  go_wp2_with fail
  refine (eqOffer_same f _).mono ?_
  rintro e w17 ⟨rfl, hb17⟩
  have b17 := b16a.trans (hb17.mono b16a.size)
  have s17 : w16.heap.size + 1 ≤ w17.heap.size := by have h := hb17.size; first | exact h | (simp at h; omega)
  have hvw17 : OwnO w17 _ (.slice vwa vwn vwc) ys := OwnO.below hvw16a hb17
  have hvg17 : OwnO w17 _ (.slice vga vgn vgc) _ := OwnO.below hvg16a hb17
  have hvh17 : OwnO w17 _ (.slice vha vhn vhc) ys := OwnO.below hvh16a hb17
  have tA17 : OffAt w17 w3.heap.size 0 f := OffAt.below tA16a hb17
  have tB17 : OffAt w17 w5.heap.size 0 f := OffAt.below tB16a hb17
  have tC17 : OffAt w17 w16.heap.size 0 f := OffAt.below tC16a hb17
  clear p0 q0 q0' p1 q1 q1'
  go_wp2_with fail
  refine (eqOffs_same _ _ ys _ (RdO.narrow hvh17.rd vh1 vh2) (RdO.narrow hvw17.rd vw1 vw2)).mono ?_
  rintro e w18 ⟨rfl, hb18⟩
  have b18 := b17.trans (hb18.mono b17.size)
  have s18 : w17.heap.size ≤ w18.heap.size := by have h := hb18.size; first | exact h | (simp at h; omega)
  have hvw18 : OwnO w18 _ (.slice vwa vwn vwc) ys := OwnO.below hvw17 hb18
  have hvg18 : OwnO w18 _ (.slice vga vgn vgc) _ := OwnO.below hvg17 hb18
  have hvh18 : OwnO w18 _ (.slice vha vhn vhc) ys := OwnO.below hvh17 hb18
  have tA18 : OffAt w18 w3.heap.size 0 f := OffAt.below tA17 hb18
  have tB18 : OffAt w18 w5.heap.size 0 f := OffAt.below tB17 hb18
  have tC18 : OffAt w18 w16.heap.size 0 f := OffAt.below tC17 hb18
  go_wp2_with fail
  refine (oheldZ _ ys.length 1 _ _ (by omega) (by omega) (RdO.narrow hvg18.rd vg1 vg2)).mono ?_
  rintro e w19 ⟨rfl, hb19⟩
  have b19 := b18.trans (hb19.mono b18.size)
  have s19 : w18.heap.size ≤ w19.heap.size := by have h := hb19.size; first | exact h | (simp at h; omega)
  have hvw19 : OwnO w19 _ (.slice vwa vwn vwc) ys := OwnO.below hvw18 hb19
  have hvg19 : OwnO w19 _ (.slice vga vgn vgc) _ := OwnO.below hvg18 hb19
  have hvh19 : OwnO w19 _ (.slice vha vhn vhc) ys := OwnO.below hvh18 hb19
  have tA19 : OffAt w19 w3.heap.size 0 f := OffAt.below tA18 hb19
  have tB19 : OffAt w19 w5.heap.size 0 f := OffAt.below tB18 hb19
  have tC19 : OffAt w19 w16.heap.size 0 f := OffAt.below tC18 hb19
  go_wp2
  go_ret
  exact ⟨rfl, b19⟩
theorem own_fnExactNext : ownKnob Try.prog.godebug = none := by kernel_rfl
theorem laidOut_fnExactNext : laidOutB Try.prog = true := by kernel_rfl
set_option maxRecDepth 100000 in
theorem lifted_fnExactNext (os : Os) (started : os.Started) (H : Type) (enc : TypeId × Value → H) :
    ReturnsInHanded {} Try.checked os 6 .any (Rows.fnExactNextSpec.pre6 enc Try.prog Try.f6 Rows.fnExactNextRow.domain false) (Rows.fnExactNextSpec.post enc Try.prog Try.f6 false true false false) := by
  refine returnsInHanded_of_change (C := Try.checked) own_fnExactNext started (by kernel_rfl) Try.func6
    (ChangeSpec.witness6 (enc := enc) (C := Try.checked) false ⟨#[], #[.slice none 0 0], []⟩ 8 (by kernel_rfl) (by kernel_rfl) (by kernel_rfl) (by kernel_rfl)) ?_
  intro W base args ds gs before hval0 hW hcnd _
  have hval : ∀ (j : Nat) t v, Try.f6.params[j]? = some t → args[j]? = some v → Value.okWide Try.prog W .any base t v := hval0
  have hW' := hW
  obtain ⟨p, q, hA0, hV, rfl, hfz, hnd⟩ := hW
  have hA : DataW.TrodAll enc Try.prog W 0 (fun _ => true) true Try.f6.params.toList args.toList ds p := hA0
  rw [Try.params6] at hA hval
  obtain ⟨v0, vs0, d0, ds0, p0, q0, hargs, rfl, rfl, h0, r0⟩ := trodAll_cons hA
  obtain ⟨rfl, rfl, rfl⟩ := trodAll_nil r0
  obtain rfl : args = #[v0] := by cases args; simp_all
  obtain ⟨rfl, rfl⟩ := trodVars_none hV
  obtain ⟨a0, len0, cap0, rfl⟩ := okWide_slice Try.underlying41 (hval 0 41 v0 rfl rfl)
  have k0 := h0
  have lt0 : ∀ x ∈ p0, x.block < W.heap.size := by obtain ⟨m, hm⟩ := k0; exact DataW.trod_lt m _ _ _ hm
  obtain ⟨es0, hr0, hh0⟩ := open_offs k0 ⟨a0, len0, cap0, rfl⟩
  clear hA0 hval0
  refine (lawNext _ es0 W hr0 hh0).mono fun e W' ⟨he, bel⟩ => ?_
  subst he
  exact ⟨_, rfl, _, _, _, [], _, [], hW', trodAll_mk1 (shut_bool Try.underlying4 _), (trodAll_cons_mk (Below.trod laidOut_fnExactNext (by kernel_rfl) (of_decide_eq_true (by kernel_rfl)) k0 bel lt0) trodAll_mk0), rfl, bel.frame _, fun h => by cases h⟩
theorem over_fnExactNext : Rows.fnExactNextRow.holds Try.pinned (OpenSpec.ofChange Rows.fnExactNextSpec) :=
  OpenClaim.holds_of_wide 6 Try.f6 rfl rfl rfl rfl rfl rfl rfl ⟨rfl, rfl, rfl, rfl, rfl⟩ rfl rfl rfl rfl rfl (by kernel_rfl) Try.func6 (by kernel_rfl)
    (of_decide_eq_true (by kernel_rfl)) (by unfold Func.isWrapper; first | (rw [if_pos (by decide +kernel)]; kernel_rfl) | (rw [if_neg (by decide +kernel)]; exact ⟨rfl, rfl⟩))
    (fun os started H enc _ => lifted_fnExactNext os started H enc)
theorem fnExactNext_holds : Rows.FnExactNextSaid := over_fnExactNext
#print axioms fnExactNext_holds

end Go.Proofs.Yteohiicaiilicaa
