/- Whatever entries, text and number it is called with, laws.FnExactSeen returns true and its arguments read as before: both Seen tell the same. No condition. -/
import Derived.Test.YthaobdknpgnapaaRows
import Derived.Test.YthaobdknpgnapaaEntCp
import Derived.Test.YthaobdknpgnapaaEntOpen
import Derived.Test.YthaobdknpgnapaaEntImplSeen
import Derived.ProofKit
import Derived.OpenShut
import Derived.ShutString
import Derived.ChangeOld
namespace Go.Proofs.Ythaobdknpgnapaa
open Go.ChangeShapes Go.WideShapes Go.ChangeAt Go.RowKit
open Go.ChangeMaps (open_string shut_string)
theorem heldSzS {es : List Ent} (h : ∀ e ∈ es, Held e) : ∀ x ∈ es, x.key.size ≤ maxLen ∧ x.val.size ≤ maxLen := fun x hx => ⟨(h x hx).1, (h x hx).2.1⟩
theorem heldFitsS {es : List Ent} (h : ∀ e ∈ es, Held e) (h2 : ∀ x ∈ es, x.key.size ≤ 1048576 ∧ x.val.size ≤ 1048576) : ∀ e ∈ es, Fits e := fun e he =>
  ⟨by have := (h2 e he).1; omega, by have := (h2 e he).2; omega, (h e he).2.2.1, (h e he).2.2.2⟩
set_option maxHeartbeats 2000000 in
set_option maxRecDepth 100000 in
theorem lawSeen (v : Value) (es : List Ent) (key : ByteArray) (hkey : key.size ≤ maxLen) (q : Int) (_ : (Lit.int .i64 q).wf = true) (w : World) (hr : RdE w v es) (hh : ∀ e ∈ es, Held e) :
    Calls Try.prog 5 #[v, .string key, .int .i64 q] w fun e w' => e = .returned (.bool true) ∧ Below w.heap.size w w' := by
  unfold maxLen at hkey
  by_cases hbig : 1048576 < key.size
  · go_enter Try.func5, Try.ntmps5
    go_wp2
    go_ret
    exact ⟨rfl, Below.refl _ _⟩
  go_enter Try.func5, Try.ntmps5
  go_wp2_with fail
  refine (szEnts_any _ es _ hr (heldSzS hh)).mono ?_
  rintro e w1 ⟨hb1, z, rfl, hz⟩
  rcases hz with hz | ⟨hz0, hz1, hl, hsz⟩
  · subst hz
    go_wp2
    go_ret
    exact ⟨rfl, hb1⟩
  have HF : Hid (∀ e ∈ es, Fits e) := heldFitsS hh hsz
  obtain ⟨x, hx⟩ : ∃ x, x = (seenA es key q).getD zeroE := ⟨_, rfl⟩
  obtain ⟨s, hs⟩ : ∃ s, s = (seenA es key q).isSome := ⟨_, rfl⟩
  have hne : (s != s) = false := by simp
  have HS : Hid (∀ u w', RdE w' u es → Calls Try.prog 16 #[u, .string key, .int .i64 q] w' fun e w'' => e = .returned (.tuple #[.agg #[.string x.key, .string x.val, .int .i64 x.seq, .bool x.gone], .bool s]) ∧ Below w'.heap.size w' w'') := fun u w' h => by rw [hx, hs]; exact specSeen_any u es key q w' h HF.out
  have HI : Hid (∀ u w', RdE w' u es → Calls Try.prog 11 #[u, .string key, .int .i64 q] w' fun e w'' => e = .returned (.tuple #[.agg #[.string x.key, .string x.val, .int .i64 x.seq, .bool x.gone], .bool s]) ∧ Below w'.heap.size w' w'') := fun u w' h => by rw [hx, hs]; exact implSeen_any u es key q w' h HF.out
  clear hx hs hsz hh
  go_wp2_with fail
  refine (toEnts_any _ es _ (hr.below hb1) (by omega)).mono ?_
  rintro e w2 ⟨u2, rfl, ho2, hb2⟩
  have b2 := hb1.trans (hb2.mono hb1.size)
  clear hb1 hb2
  go_wp2_with fail
  refine (HS.out _ _ ho2.rd).mono ?_
  rintro e w3 ⟨rfl, hb3⟩
  have b3 := b2.trans (hb3.mono b2.size)
  clear hb3 b2 ho2
  have hx3 := entAt_new w3 x 26
  have b3' := b3.alloc b3.size (.cells #[.string x.key, .string x.val, .int .i64 x.seq, .bool x.gone] 26)
  go_wp2_with fail
  refine (toEnts_any _ es _ (hr.below b3') (by omega)).mono ?_
  rintro e w4 ⟨u4, rfl, ho4, hb4⟩
  have b4 := b3'.trans (hb4.mono b3'.size)
  have hx4 := hx3.below hb4
  clear hb4 b3 b3' hx3
  go_wp2_with fail
  refine (HI.out _ _ ho4.rd).mono ?_
  rintro e w5 ⟨rfl, hb5⟩
  have b5 := b4.trans (hb5.mono b4.size)
  have ho5 := ho4.below hb5
  have hx5 := hx4.below hb5
  have hl5 := hx5.lt
  obtain ⟨c0, c1, c2, c3⟩ := hx5
  simp only [Nat.zero_add] at c1 c2 c3
  clear hb5 b4 ho4 hx4
  have b5' := b5.alloc b5.size (.cells #[.string x.key, .string x.val, .int .i64 x.seq, .bool x.gone] 26)
  have ho5' := ho5.below (below1 _ (.cells #[.string x.key, .string x.val, .int .i64 x.seq, .bool x.gone] 26))
  go_wp2_with fail
  refine (eqEntry_same x _).mono ?_
  rintro e w6 ⟨rfl, hb6⟩
  have b6 := b5'.trans (hb6.mono b5'.size)
  have ho6 := ho5'.below hb6
  clear hb6 b5 b5' ho5 ho5' c0 c1 c2 c3
  go_wp2_with fail
  refine (toEnts_any _ es _ (hr.below b6) (by omega)).mono ?_
  rintro e w7 ⟨u7, rfl, ho7, hb7⟩
  have b7 := b6.trans (hb7.mono b6.size)
  have ho8 := ho6.below hb7
  clear hb7 b6 ho6
  go_wp2_with fail
  refine (eqEnts_same _ _ es _ ho8.rd ho7.rd).mono ?_
  rintro e w8 ⟨rfl, hb8⟩
  have b8 := b7.trans (hb8.mono b7.size)
  clear hb8 b7 ho7 ho8
  go_wp2
  go_ret
  exact ⟨rfl, b8⟩
theorem own_fnExactSeen : ownKnob Try.prog.godebug = none := by kernel_rfl
theorem laidOut_fnExactSeen : laidOutB Try.prog = true := by kernel_rfl
set_option maxRecDepth 100000 in
theorem lifted_fnExactSeen (os : Os) (started : os.Started) (H : Type) (enc : TypeId × Value → H) :
    ReturnsInHanded {} Try.checked os 5 .any (Rows.fnExactSeenSpec.pre6 enc Try.prog Try.f5 Rows.fnExactSeenRow.domain false) (Rows.fnExactSeenSpec.post enc Try.prog Try.f5 false true false false) := by
  refine returnsInHanded_of_change (C := Try.checked) own_fnExactSeen started (by kernel_rfl) Try.func5
    (ChangeSpec.witness6 (enc := enc) (C := Try.checked) false ⟨#[], #[.slice none 0 0, .string ByteArray.empty, .int .i64 0], []⟩ 8 (by kernel_rfl) (by kernel_rfl) (by kernel_rfl) (by kernel_rfl)) ?_
  intro W base args ds gs before hval0 hW hcnd _
  have hval : ∀ (j : Nat) t v, Try.f5.params[j]? = some t → args[j]? = some v → Value.okWide Try.prog W .any base t v := hval0
  have hW' := hW
  obtain ⟨p, q, hA0, hV, rfl, hfz, hnd⟩ := hW
  have hA : DataW.TrodAll enc Try.prog W 0 (fun _ => true) true Try.f5.params.toList args.toList ds p := hA0
  rw [Try.params5] at hA hval
  obtain ⟨v0, vs0, d0, ds0, p0, q0, hargs, rfl, rfl, h0, r0⟩ := trodAll_cons hA
  obtain ⟨v1, vs1, d1, ds1, p1, q1, rfl, rfl, rfl, h1, r1⟩ := trodAll_cons r0
  obtain ⟨v2, vs2, d2, ds2, p2, q2, rfl, rfl, rfl, h2, r2⟩ := trodAll_cons r1
  obtain ⟨rfl, rfl, rfl⟩ := trodAll_nil r2
  obtain rfl : args = #[v0, v1, v2] := by cases args; simp_all
  obtain ⟨rfl, rfl⟩ := trodVars_none hV
  obtain ⟨a0, len0, cap0, rfl⟩ := okWide_slice Try.underlying55 (hval 0 55 v0 rfl rfl)
  have k0 := h0
  have lt0 : ∀ x ∈ p0, x.block < W.heap.size := by obtain ⟨m, hm⟩ := k0; exact DataW.trod_lt m _ _ _ hm
  obtain ⟨es0, hr0, hh0⟩ := open_ents k0 ⟨a0, len0, cap0, rfl⟩
  obtain ⟨a1, rfl, rfl, rfl, w1⟩ := open_string Try.underlying9 (hval 1 9 v1 rfl rfl) h1
  obtain ⟨a2, rfl, rfl, rfl, w2⟩ := open_int Try.underlying2 (hval 2 2 v2 rfl rfl) h2
  clear hA0 hval0
  refine (lawSeen _ es0 a1 w1 a2 w2 W hr0 hh0).mono fun e W' ⟨he, bel⟩ => ?_
  subst he
  exact ⟨_, rfl, _, _, _, [], _, [], hW', trodAll_mk1 (shut_bool Try.underlying4 _), (trodAll_cons_mk (Below.trod laidOut_fnExactSeen (by kernel_rfl) (of_decide_eq_true (by kernel_rfl)) k0 bel lt0) (trodAll_cons_mk (shut_string Try.underlying9 w1) (trodAll_cons_mk (shut_int Try.underlying2 w2) trodAll_mk0))), rfl, bel.frame _, fun h => by cases h⟩
theorem over_fnExactSeen : Rows.fnExactSeenRow.holds Try.pinned (OpenSpec.ofChange Rows.fnExactSeenSpec) :=
  OpenClaim.holds_of_wide 5 Try.f5 rfl rfl rfl rfl rfl rfl rfl ⟨rfl, rfl, rfl, rfl, rfl⟩ rfl rfl rfl rfl rfl (by kernel_rfl) Try.func5 (by kernel_rfl)
    (of_decide_eq_true (by kernel_rfl)) (by unfold Func.isWrapper; first | (rw [if_pos (by decide +kernel)]; kernel_rfl) | (rw [if_neg (by decide +kernel)]; exact ⟨rfl, rfl⟩))
    (fun os started H enc _ => lifted_fnExactSeen os started H enc)
theorem fnExactSeen_holds : Rows.FnExactSeenSaid := over_fnExactSeen
#print axioms fnExactSeen_holds

end Go.Proofs.Ythaobdknpgnapaa
