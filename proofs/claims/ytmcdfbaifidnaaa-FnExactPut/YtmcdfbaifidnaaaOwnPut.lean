/- Whatever entries and entry it is called with, laws.FnExactPut returns true and its arguments read as before: both Put tell the same, in memory of their own, and what they are handed stays. No condition. -/
import Derived.Test.YtmcdfbaifidnaaaRows
import Derived.Test.YtmcdfbaifidnaaaEntMark
import Derived.Test.YtmcdfbaifidnaaaEntOpen
import Derived.Test.YtmcdfbaifidnaaaEntImplPut
import Derived.ProofKit
import Derived.OpenShut
import Derived.ShutString
import Derived.ChangeOld
namespace Go.Proofs.Ytmcdfbaifidnaaa
open Go.ChangeShapes Go.WideShapes Go.ChangeAt Go.RowKit
theorem heldSzP {es : List Ent} (h : ∀ e ∈ es, Held e) : ∀ x ∈ es, x.key.size ≤ maxLen ∧ x.val.size ≤ maxLen := fun x hx => ⟨(h x hx).1, (h x hx).2.1⟩
theorem heldFit1 {e : Ent} (h : Held e) (h2 : e.key.size ≤ 1048576 ∧ e.val.size ≤ 1048576) : Fits e :=
  ⟨by have := h2.1; omega, by have := h2.2; omega, h.2.2.1, h.2.2.2⟩
theorem putL_len (es : List Ent) (x : Ent) : (putL es x).length ≤ 300 := by
  unfold putL
  cases h : putOk es x with
  | false => simp
  | true => have := okL_len (insE_ok h); simpa using this
theorem size_lt {w w' : World} {n : Nat} (h : n < w.heap.size) (hb : Below w.heap.size w w') : n < w'.heap.size := Nat.lt_of_lt_of_le h hb.size
theorem cell_on {w w' : World} {n : Nat} (h : n < w.heap.size) (hb : Below w.heap.size w w') : ∀ o, w'.cell? ⟨n, o, none⟩ = w.cell? ⟨n, o, none⟩ := fun o => (bcell hb).1 n o h
theorem entAt_box44 (W : World) (x : Ent) (t : TypeId) : EntAt (W.alloc (.cells #[.string x.key, .string x.val, .int .i64 x.seq, .bool x.gone] t)) W.heap.size 0 x := entAt_box W x t
set_option maxHeartbeats 8000000 in
set_option maxRecDepth 100000 in
theorem lawPut (v : Value) (es : List Ent) (x : Ent) (w : World) (hr : RdE w v es) (hh : ∀ e ∈ es, Held e) (hhx : Held x) :
    Calls Try.prog 6 #[v, .agg #[.string x.key, .string x.val, .int .i64 x.seq, .bool x.gone]] w fun e w' => e = .returned (.bool true) ∧ Below w.heap.size w w' := by
  have hbx := entAt_box44 w x 44
  have hb0 := below1 w (.cells #[.string x.key, .string x.val, .int .i64 x.seq, .bool x.gone] 44)
  go_enter Try.func6, Try.ntmps6
  go_wp2_with fail
  refine (szEnts_any _ es _ (hr.below hb0) (heldSzP hh)).mono ?_
  rintro e w0 ⟨b0, z, rfl, hz⟩
  have hx0 := hbx.below b0
  have b1 := hb0.trans (b0.mono (by simp))
  clear hbx hb0 b0
  rcases hz with hz | ⟨hz0, hz1, hl, hsz⟩
  · subst hz
    go_wp2
    go_ret
    exact ⟨rfl, b1⟩
  obtain ⟨c0, c1, c2, c3⟩ := id hx0
  simp only [Nat.zero_add] at c1 c2 c3
  go_wp2_with fail
  refine (szEntry_any x z _ hz0 hz1 hhx.1 hhx.2.1).mono ?_
  rintro e w1 ⟨hb1, z2, rfl, hy⟩
  have hx1 := hx0.below hb1
  have b2 := b1.trans (hb1.mono b1.size)
  clear hx0 hb1 b1 c0 c1 c2 c3
  rcases hy with hy | ⟨hy0, hy1, hy2, hy3⟩
  · subst hy
    go_wp2
    go_ret
    exact ⟨rfl, b2⟩
  have HF : Hid (∀ e ∈ es, Fits e) := fun e he => heldFit1 (hh e he) (hsz e he)
  have HFX : Hid (Fits x) := heldFit1 hhx ⟨hy2, hy3⟩
  have hyl := putL_len es x
  have HS : Hid (∀ u w', RdE w' u es → Calls Try.prog 14 #[u, .agg #[.string x.key, .string x.val, .int .i64 x.seq, .bool x.gone]] w' fun e w'' => ∃ u, e = .returned (.tuple #[u, .bool (putOk es x)]) ∧ OwnE w'' w'.heap.size u (putL es x) ∧ Below w'.heap.size w' w'') := fun u w' h => specPut_any u es x w' h HF.out HFX.out
  have HI : Hid (∀ u w', RdE w' u es → Calls Try.prog 11 #[u, .agg #[.string x.key, .string x.val, .int .i64 x.seq, .bool x.gone]] w' fun e w'' => ∃ u, e = .returned (.tuple #[u, .bool (putOk es x)]) ∧ OwnE w'' w'.heap.size u (putL es x) ∧ Below w'.heap.size w' w'') := fun u w' h => implPut_any u es x w' h HF.out HFX.out
  generalize putL es x = ys at hyl HS HI
  generalize putOk es x = ok at HS HI
  have hok : (ok != ok) = false := by simp
  have hq1 : ¬ 1 + 4 * (ys.length : Int) < 0 := by omega
  have hq2 : (1 + 4 * (ys.length : Int) != 1 + 4 * (ys.length : Int)) = false := by simp
  have hq3 : ¬ 1 + 4 * (es.length : Int) < 0 := by omega
  have hlb := hx1.lt
  have hrW : RdE w1.drew v es := (show RdE w1 v es from hr.below b2)
  have bW : Below w.heap.size w w1.drew := b2.drew
  have hlW : w.heap.size < w1.drew.heap.size := hlb
  obtain ⟨c0, c1, c2, c3⟩ := id hx1
  simp only [Nat.zero_add] at c1 c2 c3
  clear hsz hh hhx hy1 hy2 hy3 hz1 b2
  go_wp2_with fail
  go_region_held3 (fun w' => w'.cell? ⟨w.heap.size, 0, none⟩ = some (.string x.key) ∧ w'.cell? ⟨w.heap.size, 1, none⟩ = some (.string x.val) ∧ w'.cell? ⟨w.heap.size, 2, none⟩ = some (.int .i64 x.seq) ∧ w'.cell? ⟨w.heap.size, 3, none⟩ = some (.bool x.gone)) (go_keep)
    (first
      | (go_at_call 23; refine (toEnts_any _ es _ ?_ (by omega)).mono ?_; (first | exact hrW | exact hrW.below hbE); rintro e wA ⟨uA, rfl, hoA, hbA⟩; have hqA := cell_on (by first | exact hlW | exact size_lt hlW hbE) hbA)
      | (go_at_call 26; refine (toEntry_any x _).mono ?_; rintro e wE ⟨rfl, hbE⟩; have hqE := cell_on (by first | exact hlW | exact size_lt hlW hbA) hbE)
      | (go_at_call 14; refine (HS.out _ _ ?_).mono ?_; (first | exact hoA.rd | exact (hoA.below hbE).rd); rintro e wP ⟨vw, rfl, hwP, hbP⟩; have hqP := cell_on (by first | exact size_lt (size_lt hlW hbA) hbE | exact size_lt (size_lt hlW hbE) hbA) hbP))
  have bA := bW.trans (hbA.mono bW.size)
  have bE := bA.trans (hbE.mono bA.size)
  have b2 := bE.trans (hbP.mono bE.size)
  have hx1d : EntAt w1.drew w.heap.size 0 x := hx1
  have hx2 := ((hx1d.below hbA).below hbE).below hbP
  have lw : ∀ k, vw.ownBlock = some k → k < wP.heap.size := ownE_lt hwP
  clear hqA hqE hqP hbA hbE hbP bW bA bE hx1d hx1 hoA hrW hlW hlb c0 c1 c2 c3
  have s02 := hx2.lt
  go_wp2_with fail
  refine (toEnts_any _ es _ (hr.below b2) (by omega)).mono ?_
  rintro e w3 ⟨x0, rfl, hx3, hb3⟩
  have b3 := b2.trans (hb3.mono b2.size)
  have hw3 := hwP.below hb3
  have hv3 := hx2.below hb3
  have lx : ∀ k, x0.ownBlock = some k → wP.heap.size ≤ k ∧ k < w3.heap.size := fun k hk => World.ownsRow.lt hx3 k hk
  have s23 := hb3.size
  obtain ⟨c0, c1, c2, c3⟩ := id hv3
  simp only [Nat.zero_add] at c1 c2 c3
  clear hwP hb3 b2 hx2
  go_wp2_with fail
  refine (toEntry_any x _).mono ?_
  rintro e w3e ⟨rfl, hb3e⟩
  have b3e := b3.trans (hb3e.mono b3.size)
  have hw3e := hw3.below hb3e
  have hx3e := hx3.below hb3e
  have hv3e := hv3.below hb3e
  have s3e := hb3e.size
  clear hw3 hx3 hv3 hb3e b3 c0 c1 c2 c3
  go_wp2_with fail
  refine (HI.out _ _ hx3e.rd).mono ?_
  rintro e w4 ⟨vg, rfl, hg4, hb4⟩
  have b4 := b3e.trans (hb4.mono b3e.size)
  have hw4 := hw3e.below hb4
  have hx4 := hx3e.below hb4
  have hv4 := hv3e.below hb4
  have lg : ∀ k, vg.ownBlock = some k → w3.heap.size ≤ k := fun k hk => by have := (World.ownsRow.lt hg4 k hk).1; omega
  clear hw3e hx3e hv3e hb4 b3e
  go_wp2_with fail
  refine (eqEnts_same _ _ ys _ hg4.rd hw4.rd).mono ?_
  rintro e w5 ⟨rfl, hb5⟩
  have b5 := b4.trans (hb5.mono b4.size)
  have hw5 := hw4.below hb5
  have hx5 := hx4.below hb5
  have hg5 := hg4.below hb5
  have hv5 := hv4.below hb5
  clear hw4 hx4 hg4 hv4 hb5 b4
  go_wp2_with fail
  refine (toEnts_any _ es _ (hr.below b5) (by omega)).mono ?_
  rintro e w6 ⟨u6, rfl, ho6, hb6⟩
  have b6 := b5.trans (hb6.mono b5.size)
  have hw6 := hw5.below hb6
  have hx6 := hx5.below hb6
  have hg6 := hg5.below hb6
  have hv6 := hv5.below hb6
  clear hw5 hx5 hg5 hv5 hb6 b5
  go_wp2_with fail
  refine (eqEnts_same _ _ es _ hx6.rd ho6.rd).mono ?_
  rintro e w7 ⟨rfl, hb7⟩
  have b7 := b6.trans (hb7.mono b6.size)
  have hw7 := hw6.below hb7
  have hx7 := hx6.below hb7
  have hg7 := hg6.below hb7
  have hv7 := hv6.below hb7
  clear ho6 hw6 hx6 hg6 hv6 hb7 b6
  go_wp2_with fail
  refine (emark_one x0 es _ _ (by omega) hx7).mono ?_
  rintro e w8 ⟨rfl, _, hm8⟩
  have hw8 : OwnE w8 _ vw ys := row_kept hw7 hm8 (fun k hk e => by have := lw k hk; have := (lx k e).1; omega)
  have hg8 : OwnE w8 _ vg ys := row_kept hg7 hm8 (fun k hk e => by have := lg k hk; have := (lx k e).2; omega)
  have b8 : Below w.heap.size w w8 := b7.grown hm8 b7.size (fun k hk => by have := (lx k hk).1; omega)
  have hv8 : EntAt w8 w.heap.size 0 x := hv7.of_block (hm8.block _ hv7.lt (fun e => by have := (lx _ e.symm).1; omega))
  clear hw7 hg7 hx7 hv7 hm8 b7
  go_wp2_with fail
  refine (eqEnts_same _ _ ys _ hg8.rd hw8.rd).mono ?_
  rintro e w9 ⟨rfl, hb9⟩
  have b9 := b8.trans (hb9.mono b8.size)
  have hw9 := hw8.below hb9
  have hg9 := hg8.below hb9
  have hv9 := hv8.below hb9
  clear hw8 hg8 hv8 hb9 b8
  go_wp2_with fail
  refine (emark_one vg ys _ _ (by omega) hg9).mono ?_
  rintro e w10 ⟨rfl, hg10, hm10⟩
  have hw10 : OwnE w10 _ vw ys := row_kept hw9 hm10 (fun k hk e => by have := lw k hk; have := lg k e; omega)
  have b10 : Below w.heap.size w w10 := b9.grown hm10 b9.size (fun k hk => by have := lg k hk; omega)
  have hv10 : EntAt w10 w.heap.size 0 x := hv9.of_block (hm10.block _ hv9.lt (fun e => by have := lg _ e.symm; omega))
  clear hw9 hg9 hv9 hm10 b9
  go_wp2_with fail
  refine (eheld_one vg ys.length _ (by omega) hg10.rd).mono ?_
  rintro e w11 ⟨rfl, hb11⟩
  have b11 := b10.trans (hb11.mono b10.size)
  have hw11 := hw10.below hb11
  have hg11 := hg10.below hb11
  have hv11 := hv10.below hb11
  clear hw10 hg10 hv10 hb11 b10
  have hrX : RdE w11.drew v es := (show RdE w11 v es from hr.below b11)
  have bX : Below w.heap.size w w11.drew := b11.drew
  have hlX : w.heap.size < w11.drew.heap.size := hv11.lt
  obtain ⟨c0, c1, c2, c3⟩ := id hv11
  simp only [Nat.zero_add] at c1 c2 c3
  have hg11d : OwnE w11.drew _ vg _ := (show OwnE w11 _ vg _ from hg11)
  have hw11d : OwnE w11.drew _ vw _ := (show OwnE w11 _ vw _ from hw11)
  clear hv11 b11 hg11 hw11
  go_wp2_with fail
  go_region_held3 (fun w' => w'.cell? ⟨w.heap.size, 0, none⟩ = some (.string x.key) ∧ w'.cell? ⟨w.heap.size, 1, none⟩ = some (.string x.val) ∧ w'.cell? ⟨w.heap.size, 2, none⟩ = some (.int .i64 x.seq) ∧ w'.cell? ⟨w.heap.size, 3, none⟩ = some (.bool x.gone)) (go_keep)
    (first
      | (go_at_call 23; refine (toEnts_any _ es _ ?_ (by omega)).mono ?_; (first | exact hrX | exact hrX.below hbE); rintro e wA ⟨uA, rfl, hoA, hbA⟩; have hqA := cell_on (by first | exact hlX | exact size_lt hlX hbE) hbA)
      | (go_at_call 26; refine (toEntry_any x _).mono ?_; rintro e wE ⟨rfl, hbE⟩; have hqE := cell_on (by first | exact hlX | exact size_lt hlX hbA) hbE)
      | (go_at_call 11; refine (HI.out _ _ ?_).mono ?_; (first | exact hoA.rd | exact (hoA.below hbE).rd); rintro e wQ ⟨vh, rfl, hhQ, hbQ⟩; have hqQ := cell_on (by first | exact size_lt (size_lt hlX hbA) hbE | exact size_lt (size_lt hlX hbE) hbA) hbQ))
  have bA := bX.trans (hbA.mono bX.size)
  have bE := bA.trans (hbE.mono bA.size)
  have b13 := bE.trans (hbQ.mono bE.size)
  have hw13 := ((hw11d.below hbA).below hbE).below hbQ
  have hg13 := ((hg11d.below hbA).below hbE).below hbQ
  clear hqA hqE hqQ hbA hbE hbQ bX bA bE hw11d hg11d hoA hrX hlX c0 c1 c2 c3
  go_wp2_with fail
  refine (eqEnts_same _ _ ys _ hhQ.rd hw13.rd).mono ?_
  rintro e w14 ⟨rfl, hb14⟩
  have b14 := b13.trans (hb14.mono b13.size)
  have hg14 := hg13.below hb14
  clear hw13 hg13 hhQ hb14 b13
  go_wp2_with fail
  refine (eheld_one vg ys.length _ (by omega) hg14.rd).mono ?_
  rintro e w15 ⟨rfl, hb15⟩
  have b15 := b14.trans (hb15.mono b14.size)
  clear hg14 hb15 b14
  go_wp2
  go_ret
  exact ⟨rfl, b15⟩
theorem own_fnExactPut : ownKnob Try.prog.godebug = none := by kernel_rfl
theorem laidOut_fnExactPut : laidOutB Try.prog = true := by kernel_rfl
set_option maxRecDepth 100000 in
theorem lifted_fnExactPut (os : Os) (started : os.Started) (H : Type) (enc : TypeId × Value → H) :
    ReturnsInHanded {} Try.checked os 6 .any (Rows.fnExactPutSpec.pre6 enc Try.prog Try.f6 Rows.fnExactPutRow.domain false) (Rows.fnExactPutSpec.post enc Try.prog Try.f6 false true false false) := by
  refine returnsInHanded_of_change (C := Try.checked) own_fnExactPut started (by kernel_rfl) Try.func6
    (ChangeSpec.witness6 (enc := enc) (C := Try.checked) false ⟨#[], #[.slice none 0 0, .agg #[.string ByteArray.empty, .string ByteArray.empty, .int .i64 0, .bool false]], []⟩ 8 (by kernel_rfl) (by kernel_rfl) (by kernel_rfl) (by kernel_rfl)) ?_
  intro W base args ds gs before hval0 hW hcnd _
  have hval : ∀ (j : Nat) t v, Try.f6.params[j]? = some t → args[j]? = some v → Value.okWide Try.prog W .any base t v := hval0
  have hW' := hW
  obtain ⟨p, q, hA0, hV, rfl, hfz, hnd⟩ := hW
  have hA : DataW.TrodAll enc Try.prog W 0 (fun _ => true) true Try.f6.params.toList args.toList ds p := hA0
  rw [Try.params6] at hA hval
  obtain ⟨v0, vs0, d0, ds0, p0, q0, hargs, rfl, rfl, h0, r0⟩ := trodAll_cons hA
  obtain ⟨v1, vs1, d1, ds1, p1, q1, rfl, rfl, rfl, h1, r1⟩ := trodAll_cons r0
  obtain ⟨rfl, rfl, rfl⟩ := trodAll_nil r1
  obtain rfl : args = #[v0, v1] := by cases args; simp_all
  obtain ⟨rfl, rfl⟩ := trodVars_none hV
  obtain ⟨a0, len0, cap0, rfl⟩ := okWide_slice Try.underlying40 (hval 0 40 v0 rfl rfl)
  have k0 := h0
  have lt0 : ∀ x ∈ p0, x.block < W.heap.size := by obtain ⟨m, hm⟩ := k0; exact DataW.trod_lt m _ _ _ hm
  obtain ⟨es0, hr0, hh0⟩ := open_ents k0 ⟨a0, len0, cap0, rfl⟩
  obtain ⟨c1, rfl, _⟩ := okWide_struct Try.underlying44 (hval 1 44 v1 rfl rfl)
  have k1 := h1
  have lt1 : ∀ x ∈ p1, x.block < W.heap.size := by obtain ⟨m, hm⟩ := k1; exact DataW.trod_lt m _ _ _ hm
  obtain ⟨x1, hc1, hh1⟩ : ∃ e, (Value.agg c1).cells.toList = EC e ∧ Held e := by obtain ⟨m, hm⟩ := h1; exact open_ent hm
  obtain rfl : c1 = #[.string x1.key, .string x1.val, .int .i64 x1.seq, .bool x1.gone] := by have h := congrArg List.toArray hc1; simp only [Value.cells, Array.toArray_toList] at h; exact h
  clear hA0 hval0
  refine (lawPut _ es0 x1 W hr0 hh0 hh1).mono fun e W' ⟨he, bel⟩ => ?_
  subst he
  exact ⟨_, rfl, _, _, _, [], _, [], hW', trodAll_mk1 (shut_bool Try.underlying4 _), (trodAll_cons_mk (Below.trod laidOut_fnExactPut (by kernel_rfl) (of_decide_eq_true (by kernel_rfl)) k0 bel lt0) (trodAll_cons_mk (Below.trod laidOut_fnExactPut (by kernel_rfl) (of_decide_eq_true (by kernel_rfl)) k1 bel lt1) trodAll_mk0)), rfl, bel.frame _, fun h => by cases h⟩
theorem over_fnExactPut : Rows.fnExactPutRow.holds Try.pinned (OpenSpec.ofChange Rows.fnExactPutSpec) :=
  OpenClaim.holds_of_wide 6 Try.f6 rfl rfl rfl rfl rfl rfl rfl ⟨rfl, rfl, rfl, rfl, rfl⟩ rfl rfl rfl rfl rfl (by kernel_rfl) Try.func6 (by kernel_rfl)
    (of_decide_eq_true (by kernel_rfl)) (by unfold Func.isWrapper; first | (rw [if_pos (by decide +kernel)]; kernel_rfl) | (rw [if_neg (by decide +kernel)]; exact ⟨rfl, rfl⟩))
    (fun os started H enc _ => lifted_fnExactPut os started H enc)
theorem fnExactPut_holds : Rows.FnExactPutSaid := over_fnExactPut
#print axioms fnExactPut_holds

end Go.Proofs.Ytmcdfbaifidnaaa
