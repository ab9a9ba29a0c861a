/- Whatever table, key and number it is called with, laws.FnExactFound returns true and its arguments read as before: both Found tell the same, and what they are handed stays. No condition. -/
import Derived.Test.YthaobdknpgnapaaRows
import Derived.Test.YthaobdknpgnapaaTabCp
import Derived.Test.YthaobdknpgnapaaTabOpen
import Derived.Test.YthaobdknpgnapaaTabImpl
import Derived.Test.YthaobdknpgnapaaEntCp
import Derived.ProofKit
import Derived.OpenShut
import Derived.ShutString
import Derived.ChangeOld
namespace Go.Proofs.Ythaobdknpgnapaa
open Go.ChangeShapes Go.WideShapes Go.ChangeAt Go.RowKit
open Go.ChangeMaps (open_string shut_string)
set_option maxHeartbeats 4000000 in
set_option maxRecDepth 100000 in
theorem lawFound (T : Tbl) (vb vk : Value) (key : ByteArray) (hkey : key.size ≤ maxLen) (q : Int) (hq : (Lit.int .i64 q).wf = true) (w : World) (hi : RdI w vb T.bits) (hk : RdS w vk T.blocks) (q1 : T.first.size ≤ maxLen) (q2 : T.last.size ≤ maxLen) (q3 : ∀ s ∈ T.blocks, s.size ≤ maxLen) :
    Calls Try.prog 6 #[.agg #[.string T.first, .string T.last, vb, vk], .string key, .int .i64 q] w fun e w' => e = .returned (.bool true) ∧ Below w.heap.size w w' := by
  have t0 := tblAt_new w T vb vk 60
  have b0 := below1 w (.cells #[.string T.first, .string T.last, vb, vk] 60)
  have HSZ : Hid (Calls _ _ _ _ _) := szTable_any T vb vk _ (hi.below b0) (hk.below b0) q1 q2 q3
  clear q1 q2 q3
  unfold maxLen at hkey
  by_cases hkb : 1048576 < key.size
  · go_enter Try.func6, Try.ntmps6
    go_wp2
    go_ret
    exact ⟨rfl, b0⟩
  obtain ⟨d0, d1, d2, d3⟩ := id t0
  go_enter Try.func6, Try.ntmps6
  go_wp2_with fail
  refine HSZ.out.mono ?_
  rintro e w1 ⟨hb1, z, rfl, hz⟩
  have t1 := t0.below hb1
  have b1 := b0.trans (hb1.mono b0.size)
  clear HSZ t0 b0 hb1 d0 d1 d2 d3
  rcases hz with hz | ⟨hz0, hz1, hz2, hz3, hz4, hz5⟩
  · go_wp2
    go_ret
    exact ⟨rfl, b1⟩
  have HZ : Hid (∀ s ∈ T.blocks, s.size ≤ 1000000000) := fun s hs => by have := hz5 s hs; omega
  clear hz5
  have hqb := bounds_i64 hq
  obtain ⟨o, ho⟩ : ∃ o, o = foundL T key q := ⟨_, rfl⟩
  obtain ⟨x, hx⟩ : ∃ x, x = o.getD zeroE := ⟨_, rfl⟩
  obtain ⟨s, hs⟩ : ∃ s, s = o.isSome := ⟨_, rfl⟩
  have HSP : Hid (∀ xb xk W, RdI W xb T.bits → RdS W xk T.blocks → Calls Try.prog 31 #[.agg #[.string T.first, .string T.last, xb, xk], .string key, .int .i64 q] W fun e w' => e = .returned (.tuple #[.agg #[.string x.key, .string x.val, .int .i64 x.seq, .bool x.gone], .bool s]) ∧ Below W.heap.size W w') := fun xb xk W h1 h2 => by
    have := specFound_any T xb xk key q W h1 h2 HZ.out
    unfold SeenPost at this
    rwa [← ho, ← hx, ← hs] at this
  have HIM : Hid (∀ xb xk W, RdI W xb T.bits → RdS W xk T.blocks → Calls Try.prog 21 #[.agg #[.string T.first, .string T.last, xb, xk], .string key, .int .i64 q] W fun e w' => e = .returned (.tuple #[.agg #[.string x.key, .string x.val, .int .i64 x.seq, .bool x.gone], .bool s]) ∧ Below W.heap.size W w') := fun xb xk W h1 h2 => by
    have := implFound_any T xb xk key q W h1 h2 HZ.out (by omega) hqb
    unfold SeenPost at this
    rwa [← ho, ← hx, ← hs] at this
  have hok : (s != s) = false := by cases s <;> rfl
  clear ho hx hs hqb
  obtain ⟨d0, d1, d2, d3⟩ := id t1
  go_wp2_with fail
  refine (toTable_any T vb vk _ (hi.below b1) (hk.below b1) (by omega) (by omega)).mono ?_
  rintro e w2 ⟨ub, uk, rfl, hub, huk, hb2⟩
  have t2 := t1.below hb2
  have b2 := b1.trans (hb2.mono b1.size)
  clear t1 hb2 d0 d1 d2 d3 b1
  go_wp2_with fail
  refine (HSP.out ub uk _ hub.rd huk.rd).mono ?_
  rintro e w3 ⟨rfl, hb3⟩
  have t3 := t2.below hb3
  have b3 := b2.trans (hb3.mono b2.size)
  clear t2 hb3 hub huk b2
  have xw := entAt_new w3 x 26
  have bw := below1 w3 (.cells #[.string x.key, .string x.val, .int .i64 x.seq, .bool x.gone] 26)
  replace t3 := t3.below bw
  replace b3 := b3.trans (bw.mono b3.size)
  clear bw
  obtain ⟨d0, d1, d2, d3⟩ := id t3
  go_wp2_with fail
  generalize w3.alloc (.cells #[.string x.key, .string x.val, .int .i64 x.seq, .bool x.gone] 26) = W3 at t3 b3 xw ⊢
  refine (toTable_any T vb vk _ (hi.below b3) (hk.below b3) (by omega) (by omega)).mono ?_
  rintro e w4 ⟨xb, xk, rfl, hxb, hxk, hb4⟩
  have t4 := t3.below hb4
  have b4 := b3.trans (hb4.mono b3.size)
  have xw4 := xw.below hb4
  obtain ⟨ab, cb, hsb, _⟩ := id hxb.rd
  obtain ⟨ak, ck, hsk, _⟩ := id hxk.rd
  obtain ⟨bn, hbn⟩ : ∃ bn, bn = T.bits.length := ⟨_, rfl⟩
  obtain ⟨kn, hkn⟩ : ∃ kn, kn = T.blocks.length := ⟨_, rfl⟩
  rw [← hbn] at hsb
  rw [← hkn] at hsk
  subst hsb
  subst hsk
  clear t3 hb4 d0 d1 d2 d3 b3 hbn hkn
  have x5 := tblAt_new w4 T (.slice ab bn cb) (.slice ak kn ck) 41
  have bb5 := below1 w4 (.cells #[.string T.first, .string T.last, .slice ab bn cb, .slice ak kn ck] 41)
  have t5 := t4.below bb5
  have b5 := b4.trans (bb5.mono b4.size)
  have hxb5 := hxb.below bb5
  have hxk5 := hxk.below bb5
  have xw5 := xw4.below bb5
  clear xw xw4
  obtain ⟨y0, y1, y2, y3⟩ := id x5
  clear t4 b4 hxb hxk bb5
  go_wp2_with fail
  generalize w4.alloc (.cells #[.string T.first, .string T.last, .slice ab bn cb, .slice ak kn ck] 41) = W5 at x5 t5 b5 hxb5 hxk5 y0 y1 y2 y3 xw5 ⊢
  refine (HIM.out _ _ _ hxb5.rd hxk5.rd).mono ?_
  rintro e w6 ⟨rfl, hb6⟩
  have x6 := x5.below hb6
  have t6 := t5.below hb6
  have b6 := b5.trans (hb6.mono b5.size)
  have hxb6 := hxb5.below hb6
  have hxk6 := hxk5.below hb6
  clear x5 t5 b5 hxb5 hxk5 y0 y1 y2 y3
  have xg := entAt_new w6 x 26
  have bg := below1 w6 (.cells #[.string x.key, .string x.val, .int .i64 x.seq, .bool x.gone] 26)
  have xw6 := (xw5.below hb6).below bg
  replace x6 := x6.below bg
  replace t6 := t6.below bg
  replace b6 := b6.trans (bg.mono b6.size)
  replace hxb6 := hxb6.below bg
  replace hxk6 := hxk6.below bg
  obtain ⟨p0, p1, p2, p3⟩ := id xg
  obtain ⟨r0, r1, r2, r3⟩ := id xw6
  simp only [Nat.zero_add] at p1 p2 p3 r1 r2 r3
  clear bg hb6 xw5
  go_wp2_with fail
  generalize w6.alloc (.cells #[.string x.key, .string x.val, .int .i64 x.seq, .bool x.gone] 26) = W6 at x6 t6 b6 hxb6 hxk6 ⊢
  clear xg xw6 p0 p1 p2 p3 r0 r1 r2 r3
  refine (eqEntry_same x _).mono ?_
  rintro e w7 ⟨rfl, hb7⟩
  replace x6 := x6.below hb7
  replace t6 := t6.below hb7
  replace b6 := b6.trans (hb7.mono b6.size)
  replace hxb6 := hxb6.below hb7
  replace hxk6 := hxk6.below hb7
  clear hb7
  obtain ⟨y0, y1, y2, y3⟩ := id x6
  obtain ⟨d0, d1, d2, d3⟩ := id t6
  go_wp2_with fail
  refine wp_region_noPanic ?_
  refine wp_region_held_drew (S := fun w' => (w'.cell? ⟨w4.heap.size, 0, none⟩ = some (.string T.first) ∧ w'.cell? ⟨w4.heap.size, 1, none⟩ = some (.string T.last) ∧ w'.cell? ⟨w4.heap.size, 2, none⟩ = some (.slice ab bn cb) ∧ w'.cell? ⟨w4.heap.size, 3, none⟩ = some (.slice ak kn ck)) ∧ w'.cell? ⟨w.heap.size, 0, none⟩ = some (.string T.first) ∧ w'.cell? ⟨w.heap.size, 1, none⟩ = some (.string T.last) ∧ w'.cell? ⟨w.heap.size, 2, none⟩ = some vb ∧ w'.cell? ⟨w.heap.size, 3, none⟩ = some vk) (by kernel_rfl) ⟨x6, t6⟩ (fun hH => ?_)
  have qb := b6.drew
  have qx : OwnI w7.drew _ (.slice ab bn cb) T.bits := hxb6.drewN 1
  have qk : OwnS w7.drew _ (.slice ak kn ck) T.blocks := hxk6.drewN 1
  clear x6 t6 b6 hxb6 hxk6 y0 y1 y2 y3 d0 d1 d2 d3
  revert qk
  revert qx
  revert qb
  revert hH
  generalize w7.drew = W7
  intro hH qb qx qk
  refine tkA 0 47 hH ?_
  try simp only [Act.put, List.setIfInBounds_toArray, List.set_cons_zero, List.set_cons_succ]
  refine tkA 1 48 hH ?_
  try simp only [Act.put, List.setIfInBounds_toArray, List.set_cons_zero, List.set_cons_succ]
  refine wpAnyH_ready (rs := [2]) (by kernel_rfl) (by simp) ?_
  refine AllReadyH.cons rfl (fun K hK => ?_) AllReadyH.nil
  go_simp
  refine (toTable_any T vb vk _ (hi.below qb) (hk.below qb) (by omega) (by omega)).mono ?_
  rintro e w8 ⟨zb, zk, rfl, hzb, hzk, hb8⟩
  have hx8 : TblAt w8 w4.heap.size T (.slice ab bn cb) (.slice ak kn ck) := TblAt.below (w := W7) hH.1 hb8
  have ht8 : TblAt w8 w.heap.size T vb vk := TblAt.below (w := W7) hH.2 hb8
  replace qb := qb.trans (hb8.mono qb.size)
  replace qx := qx.below hb8
  replace qk := qk.below hb8
  refine hK.out _ _ ⟨hx8, ht8⟩ (fun h8 => ?_)
  clear hK K hH hb8
  try simp only [Act.put, List.setIfInBounds_toArray, List.set_cons_zero, List.set_cons_succ]
  refine wpAnyH_ready (rs := [3]) (by kernel_rfl) (by simp) ?_
  refine AllReadyH.cons rfl (fun K hK => ?_) AllReadyH.nil
  go_simp
  refine (eqTable_same T _ _ _ _ _ qx.rd qk.rd hzb.rd hzk.rd).mono ?_
  rintro e w9 ⟨rfl, hb9⟩
  have qb9 := qb.trans (hb9.mono qb.size)
  refine hK.out _ _ ⟨hx8.below hb9, ht8.below hb9⟩ (fun h9 => ?_)
  clear hK K h8 hx8 ht8
  try simp only [Act.put, List.setIfInBounds_toArray, List.set_cons_zero, List.set_cons_succ]
  refine tkA 4 51 h9 ?_
  try simp only [Act.put, List.setIfInBounds_toArray, List.set_cons_zero, List.set_cons_succ]
  refine wpAnyH_done (by kernel_rfl) ?_ _
  refine NoPanic.normal ?_
  go_wp2
  go_ret
  exact ⟨rfl, qb9⟩
theorem own_fnExactFound : ownKnob Try.prog.godebug = none := by kernel_rfl
theorem laidOut_fnExactFound : laidOutB Try.prog = true := by kernel_rfl
set_option maxRecDepth 100000 in
theorem lifted_fnExactFound (os : Os) (started : os.Started) (H : Type) (enc : TypeId × Value → H) :
    ReturnsInHanded {} Try.checked os 6 .any (Rows.fnExactFoundSpec.pre6 enc Try.prog Try.f6 Rows.fnExactFoundRow.domain false) (Rows.fnExactFoundSpec.post enc Try.prog Try.f6 false true false false) := by
  refine returnsInHanded_of_change (C := Try.checked) own_fnExactFound started (by kernel_rfl) Try.func6
    (ChangeSpec.witness6 (enc := enc) (C := Try.checked) false ⟨#[], #[.agg #[.string ByteArray.empty, .string ByteArray.empty, .slice none 0 0, .slice none 0 0], .string ByteArray.empty, .int .i64 0], []⟩ 8 (by kernel_rfl) (by kernel_rfl) (by kernel_rfl) (by kernel_rfl)) ?_
  intro W base args ds gs before hval0 hW hcnd _
  have hval : ∀ (j : Nat) t v, Try.f6.params[j]? = some t → args[j]? = some v → Value.okWide Try.prog W .any base t v := hval0
  have hW' := hW
  obtain ⟨p, q, hA0, hV, rfl, hfz, hnd⟩ := hW
  have hA : DataW.TrodAll enc Try.prog W 0 (fun _ => true) true Try.f6.params.toList args.toList ds p := hA0
  rw [Try.params6] at hA hval
  obtain ⟨v0, vs0, d0, ds0, p0, q0, hargs, rfl, rfl, h0, r0⟩ := trodAll_cons hA
  obtain ⟨v1, vs1, d1, ds1, p1, q1, rfl, rfl, rfl, h1, r1⟩ := trodAll_cons r0
  obtain ⟨v2, vs2, d2, ds2, p2, q2, rfl, rfl, rfl, h2, r2⟩ := trodAll_cons r1
  obtain ⟨rfl, rfl, rfl⟩ := trodAll_nil r2
  obtain rfl : args = #[v0, v1, v2] := by cases args; simp_all
  obtain ⟨rfl, rfl⟩ := trodVars_none hV
  obtain ⟨c0, rfl, _⟩ := okWide_struct Try.underlying60 (hval 0 60 v0 rfl rfl)
  have k0 := h0
  have lt0 : ∀ x ∈ p0, x.block < W.heap.size := by obtain ⟨m, hm⟩ := k0; exact DataW.trod_lt m _ _ _ hm
  obtain ⟨T0, vb0, vk0, hc0, hi0, hk0, q10, q20, q30⟩ : ∃ (T : Tbl) (vb vk : Value), (Value.agg c0).cells.toList = [.string T.first, .string T.last, vb, vk] ∧ RdI W vb T.bits ∧ RdS W vk T.blocks ∧ T.first.size ≤ maxLen ∧ T.last.size ≤ maxLen ∧ ∀ s ∈ T.blocks, s.size ≤ maxLen := by obtain ⟨m, hm⟩ := h0; exact open_table hm
  obtain rfl : c0 = #[.string T0.first, .string T0.last, vb0, vk0] := by have h := congrArg List.toArray hc0; simp only [Value.cells, Array.toArray_toList] at h; exact h
  obtain ⟨a1, rfl, rfl, rfl, w1⟩ := open_string Try.underlying9 (hval 1 9 v1 rfl rfl) h1
  obtain ⟨a2, rfl, rfl, rfl, w2⟩ := open_int Try.underlying2 (hval 2 2 v2 rfl rfl) h2
  clear hA0 hval0
  refine (lawFound T0 vb0 vk0 a1 w1 a2 w2 W hi0 hk0 q10 q20 q30).mono fun e W' ⟨he, bel⟩ => ?_
  subst he
  exact ⟨_, rfl, _, _, _, [], _, [], hW', trodAll_mk1 (shut_bool Try.underlying4 _), (trodAll_cons_mk (Below.trod laidOut_fnExactFound (by kernel_rfl) (of_decide_eq_true (by kernel_rfl)) k0 bel lt0) (trodAll_cons_mk (shut_string Try.underlying9 w1) (trodAll_cons_mk (shut_int Try.underlying2 w2) trodAll_mk0))), rfl, bel.frame _, fun h => by cases h⟩
theorem over_fnExactFound : Rows.fnExactFoundRow.holds Try.pinned (OpenSpec.ofChange Rows.fnExactFoundSpec) :=
  OpenClaim.holds_of_wide 6 Try.f6 rfl rfl rfl rfl rfl rfl rfl ⟨rfl, rfl, rfl, rfl, rfl⟩ rfl rfl rfl rfl rfl (by kernel_rfl) Try.func6 (by kernel_rfl)
    (of_decide_eq_true (by kernel_rfl)) (by unfold Func.isWrapper; first | (rw [if_pos (by decide +kernel)]; kernel_rfl) | (rw [if_neg (by decide +kernel)]; exact ⟨rfl, rfl⟩))
    (fun os started H enc _ => lifted_fnExactFound os started H enc)
theorem fnExactFound_holds : Rows.FnExactFoundSaid := over_fnExactFound
#print axioms fnExactFound_holds

end Go.Proofs.Ythaobdknpgnapaa
