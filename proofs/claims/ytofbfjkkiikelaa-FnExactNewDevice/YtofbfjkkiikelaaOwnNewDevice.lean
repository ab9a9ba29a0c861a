/- Whatever number it is called with, laws.FnExactNewDevice returns true: both NewDevice tell the same, in memory of their own. No condition. -/
import Derived.Test.YtofbfjkkiikelaaRows
import Derived.Test.YtofbfjkkiikelaaDevNew
import Derived.Test.YtofbfjkkiikelaaDevMark
import Derived.ProofKit
import Derived.OpenShut
import Derived.ShutString
import Derived.ChangeOld
namespace Go.Proofs.Ytofbfjkkiikelaa
open Go.ChangeShapes Go.WideShapes Go.ChangeAt Go.RowKit
theorem new_len (n : Int) : (newS n).length ≤ 16 := by
  unfold newS
  split
  · rw [List.length_replicate]; omega
  · simp
set_option maxHeartbeats 8000000 in
set_option maxRecDepth 100000 in
theorem lawNew (n : Int) (_ : (Lit.int .i64 n).wf = true) (w : World) :
    Calls Try.prog 5 #[.int .i64 n] w fun e w' => e = .returned (.bool true) ∧ Below w.heap.size w w' := by
  have HSP : Hid (∀ W, Calls Try.prog 25 #[.int .i64 n] W fun e w' => DvRes W (newS n) [] (newO n) e w') := fun W => specNew_any n W
  have HIM : Hid (∀ W, Calls Try.prog 16 #[.int .i64 n] W fun e w' => DvRes W (newS n) [] (newO n) e w') := fun W => implNew_any n W
  have hlen := new_len n
  generalize newS n = RS at HSP HIM hlen
  generalize newO n = ok at HSP HIM
  have HRG : Hid (∀ G : DvX, G.secs = RS → G.late = [] → 1 + cntDv G ≤ 4194304) := fun G h1 h2 => by unfold cntDv; rw [h1, h2, List.length_nil]; omega
  have hok : (ok != ok) = false := by cases ok <;> rfl
  clear hlen
  go_enter Try.func5, Try.ntmps5
  go_wp2_with fail
  refine (HSP.out _).mono ?_
  rintro e w3 ⟨Z, rfl, hZs, hZl, hrZ, b3⟩
  have LZ : Hid (∀ k ∈ dvB Z, k < w3.heap.size) := fun k hk => (hrZ.bound hk).2
  have s3 := b3.size
  obtain ⟨za, zca, v0⟩ := own_slice hrZ.secs
  obtain ⟨zb, zcb, v1⟩ := own_slice hrZ.late
  obtain ⟨vs3, vl3, secs3, late3⟩ := Z
  simp only at v0 v1 hZs hZl
  generalize secs3.length = zn at v0
  generalize late3.length = zm at v1
  subst v0
  subst v1
  obtain ⟨Z, hZ⟩ : ∃ Z : DvX, Z = ⟨.slice za zn zca, .slice zb zm zcb, secs3, late3⟩ := ⟨_, rfl⟩
  have x4 := dvAt_new w3 ⟨.slice za zn zca, .slice zb zm zcb, secs3, late3⟩ 27
  have bb4 := below1 w3 (.cells #[.slice za zn zca, .slice zb zm zcb] 27)
  have HAR : Hid (∀ W, RdDv W Z → ∀ G : DvX, RdDv W G → G.secs = RS → G.late = [] → Calls Try.prog 28 #[.agg #[G.vs, G.vl], .agg #[.slice za zn zca, .slice zb zm zcb]] W fun e w' => e = .returned (.bool true) ∧ Below W.heap.size W w') := fun W h G hg h1 h2 => by
    have := eqDevice_same G Z W hg h (by rw [h1, hZ]; exact hZs.symm) (by rw [h2, hZ]; exact hZl.symm)
    rw [hZ] at this
    exact this
  have HZF : Hid (∀ W, DvAt W w3.heap.size Z → W.cell? ⟨w3.heap.size, 0, none⟩ = some (.slice za zn zca) ∧ W.cell? ⟨w3.heap.size, 1, none⟩ = some (.slice zb zm zcb)) := fun W h => by rw [hZ] at h; exact h
  simp only at x4
  rw [← hZ] at hrZ LZ x4
  clear hZ hZs hZl
  have x6 := x4
  have b6 := b3.trans (bb4.mono b3.size)
  have hrZ6 := hrZ.below bb4
  have s6 : (w3.alloc (.cells #[.slice za zn zca, .slice zb zm zcb] 27)).heap.size = w3.heap.size + 1 := by simp
  clear b3 hrZ bb4 x4
  go_wp2_with fail
  generalize w3.alloc (.cells #[.slice za zn zca, .slice zb zm zcb] 27) = W6 at x6 b6 hrZ6 s6 ⊢
  refine (HIM.out _).mono ?_
  rintro e w7 ⟨G, rfl, hGs, hGl, hoG, hb7⟩
  have x7 := x6.below hb7
  have b7 := b6.trans (hb7.mono b6.size)
  have hrZ7 := hrZ6.below hb7
  have LG : Hid (∀ k ∈ dvB G, W6.heap.size ≤ k ∧ k < w7.heap.size) := fun k hk => hoG.bound hk
  have s7 := hb7.size
  have rmG : Hid (1 + cntDv G ≤ 4194304) := HRG.out G hGs hGl
  clear x6 b6 hrZ6 hb7
  obtain ⟨ga, gca, v0⟩ := own_slice hoG.secs
  obtain ⟨gb, gcb, v1⟩ := own_slice hoG.late
  obtain ⟨vs6, vl6, secs6, late6⟩ := G
  simp only at v0 v1 hGs hGl
  generalize secs6.length = gn at v0
  generalize late6.length = gm at v1
  subst v0
  subst v1
  obtain ⟨G, hG⟩ : ∃ G : DvX, G = ⟨.slice ga gn gca, .slice gb gm gcb, secs6, late6⟩ := ⟨_, rfl⟩
  have HGF : Hid (∀ W, DvAt W w7.heap.size G → W.cell? ⟨w7.heap.size, 0, none⟩ = some (.slice ga gn gca) ∧ W.cell? ⟨w7.heap.size, 1, none⟩ = some (.slice gb gm gcb)) := fun W h => by rw [hG] at h; exact h
  have HEG : Hid (∀ W, RdDv W Z → RdDv W G → Calls Try.prog 28 #[.agg #[.slice ga gn gca, .slice gb gm gcb], .agg #[.slice za zn zca, .slice zb zm zcb]] W fun e w' => e = .returned (.bool true) ∧ Below W.heap.size W w') := fun W h hg => by
    have := HAR.out W h G hg (by rw [hG]; exact hGs) (by rw [hG]; exact hGl)
    rw [hG] at this
    exact this
  obtain ⟨mm, hmm⟩ : ∃ mm, mm = 1 + cntDv G := ⟨_, rfl⟩
  have HMG : Hid (∀ W lo, OwnDv W lo G → Calls Try.prog 29 #[.agg #[.slice ga gn gca, .slice gb gm gcb], .int .i64 1] W fun e w' => e = .returned (.int .i64 (mm : Int)) ∧ OwnDv w' lo (mkDv 1 G) ∧ Touch (dvB G) W w') := fun W lo ho => by
    have := markDevice_any G lo 1 W ho (by omega) (by rw [hG]; exact rmG.out)
    unfold MarkDv at this
    rw [← hmm] at this
    rw [hG] at this ⊢
    exact this
  have HHG : Hid (∀ W, RdDv W (mkDv 1 G) → Calls Try.prog 30 #[.agg #[.slice ga gn gca, .slice gb gm gcb], .int .i64 1] W fun e w' => e = .returned (.int .i64 (mm : Int)) ∧ Below W.heap.size W w') := fun W h => by
    have := heldDevice_any G 1 W h (by omega) (by rw [hG]; exact rmG.out)
    rw [← hmm] at this
    rw [hG] at this
    exact this
  have x8 := dvAt_new w7 ⟨.slice ga gn gca, .slice gb gm gcb, secs6, late6⟩ 27
  simp only at x8
  rw [← hG] at x8 hoG LG
  have bb8 := below1 w7 (.cells #[.slice ga gn gca, .slice gb gm gcb] 27)
  have z8 := x7.below bb8
  have b8 := b7.trans (bb8.mono b7.size)
  have hrZ8 := hrZ7.below bb8
  have hoG8 := hoG.below bb8
  obtain ⟨p0, p1⟩ := HZF.out _ z8
  obtain ⟨r0, r1⟩ := HGF.out _ x8
  have hm0 : ¬ ((mm : Int) < 0) := by omega
  have hm1 : ((mm : Int) != (mm : Int)) = false := by simp
  clear x7 b7 hrZ7 hoG bb8 hmm hG hGs hGl rmG HRG
  go_wp2_with fail
  generalize w7.alloc (.cells #[.slice ga gn gca, .slice gb gm gcb] 27) = W8 at x8 z8 b8 hrZ8 hoG8 p0 p1 r0 r1 ⊢
  refine (HEG.out _ hrZ8.rd hoG8.rd).mono ?_
  rintro e w13 ⟨rfl, hb9⟩
  have x13 := x8.below hb9
  have z13 := z8.below hb9
  have b13 := b8.trans (hb9.mono b8.size)
  have qz13 := hrZ8.below hb9
  have qg13 := hoG8.below hb9
  clear x8 z8 b8 hrZ8 hoG8 hb9 p0 p1 r0 r1
  obtain ⟨r0, r1⟩ := HGF.out _ x13
  go_wp2_with fail
  refine (HMG.out _ _ qg13).mono ?_
  rintro e w14 ⟨rfl, qm14, hto⟩
  have qz14 : OwnDv w14 _ Z := qz13.touch hto (fun k hk e => by have := LZ.out k hk; have := LG.out k e; omega)
  have b14 : Below w.heap.size w w14 := hto.below b13 (fun k hk => by have := LG.out k hk; omega)
  have z14 : DvAt w14 w3.heap.size Z := hto.dv z13 (fun e => by have := LG.out _ e; omega)
  have x14 : DvAt w14 w7.heap.size G := hto.dv x13 (fun e => by have := LG.out _ e; omega)
  clear hto z13 x13 b13 qz13 qg13 r0 r1 HMG HEG LG LZ
  obtain ⟨r0, r1⟩ := HGF.out _ x14
  go_wp2_with fail
  refine (HHG.out _ qm14.rd).mono ?_
  rintro e w15 ⟨rfl, hb15⟩
  have z16 := z14.below hb15
  have x16 := x14.below hb15
  have b16 := b14.trans (hb15.mono b14.size)
  have qz16 := qz14.below hb15
  have qm16 := qm14.below hb15
  clear z14 x14 b14 qz14 qm14 hb15 r0 r1
  go_wp2_with fail
  refine (HIM.out _).mono ?_
  rintro e w17 ⟨H, rfl, hHs, hHl, hoH, hb17⟩
  have z17 := z16.below hb17
  have x17 := x16.below hb17
  have b17 := b16.trans (hb17.mono b16.size)
  have qz17 := qz16.below hb17
  have qm17 := qm16.below hb17
  clear z16 x16 b16 qz16 qm16 hb17 HIM
  obtain ⟨fa, fca, v0⟩ := own_slice hoH.secs
  obtain ⟨fb, fcb, v1⟩ := own_slice hoH.late
  obtain ⟨vs7, vl7, secs7, late7⟩ := H
  simp only at v0 v1 hHs hHl
  generalize secs7.length = fn at v0
  generalize late7.length = fm at v1
  subst v0
  subst v1
  have h18 := dvAt_new w17 ⟨.slice fa fn fca, .slice fb fm fcb, secs7, late7⟩ 27
  have bb18 := below1 w17 (.cells #[.slice fa fn fca, .slice fb fm fcb] 27)
  simp only at h18
  have z18 := z17.below bb18
  have x18 := x17.below bb18
  have b18 := b17.trans (bb18.mono b17.size)
  have qz18 := qz17.below bb18
  have qm18 := qm17.below bb18
  have hoH18 := hoH.below bb18
  obtain ⟨p0, p1⟩ := HZF.out _ z18
  obtain ⟨r0, r1⟩ := id h18
  simp only at r0 r1
  clear z17 x17 b17 qz17 qm17 hoH bb18
  go_wp2_with fail
  generalize w17.alloc (.cells #[.slice fa fn fca, .slice fb fm fcb] 27) = W18 at h18 z18 x18 b18 qz18 qm18 hoH18 p0 p1 r0 r1 ⊢
  refine (HAR.out _ qz18.rd ⟨.slice fa fn fca, .slice fb fm fcb, secs7, late7⟩ hoH18.rd hHs hHl).mono ?_
  rintro e w19 ⟨rfl, hb19⟩
  have x19 := x18.below hb19
  have b19 := b18.trans (hb19.mono b18.size)
  have qm19 := qm18.below hb19
  clear h18 z18 x18 b18 qz18 qm18 hoH18 p0 p1 r0 r1 hb19
  obtain ⟨r0, r1⟩ := HGF.out _ x19
  go_wp2_with fail
  refine (HHG.out _ qm19.rd).mono ?_
  rintro e w20 ⟨rfl, hb20⟩
  have b20 := b19.trans (hb20.mono b19.size)
  clear x19 b19 qm19 hb20 r0 r1
  go_wp2
  go_ret
  exact ⟨rfl, b20⟩
theorem own_fnExactNewDevice : ownKnob Try.prog.godebug = none := by kernel_rfl
set_option maxRecDepth 100000 in
theorem lifted_fnExactNewDevice (os : Os) (started : os.Started) (H : Type) (enc : TypeId × Value → H) :
    ReturnsInHanded {} Try.checked os 5 .any (Rows.fnExactNewDeviceSpec.pre6 enc Try.prog Try.f5 Rows.fnExactNewDeviceRow.domain false) (Rows.fnExactNewDeviceSpec.post enc Try.prog Try.f5 false true false false) := by
  refine returnsInHanded_of_change (C := Try.checked) own_fnExactNewDevice started (by kernel_rfl) Try.func5
    (ChangeSpec.witness6 (enc := enc) (C := Try.checked) false ⟨#[], #[.int .i64 0], []⟩ 8 (by kernel_rfl) (by kernel_rfl) (by kernel_rfl) (by kernel_rfl)) ?_
  intro W base args ds gs before hval0 hW hcnd _
  have hval : ∀ (j : Nat) t v, Try.f5.params[j]? = some t → args[j]? = some v → Value.okWide Try.prog W .any base t v := hval0
  have hW' := hW
  obtain ⟨p, q, hA0, hV, rfl, hfz, hnd⟩ := hW
  have hA : DataW.TrodAll enc Try.prog W 0 (fun _ => true) true Try.f5.params.toList args.toList ds p := hA0
  rw [Try.params5] at hA hval
  obtain ⟨v0, vs0, d0, ds0, p0, q0, hargs, rfl, rfl, h0, r0⟩ := trodAll_cons hA
  obtain ⟨rfl, rfl, rfl⟩ := trodAll_nil r0
  obtain rfl : args = #[v0] := by cases args; simp_all
  obtain ⟨rfl, rfl⟩ := trodVars_none hV
  obtain ⟨a0, rfl, rfl, rfl, w0⟩ := open_int Try.underlying2 (hval 0 2 v0 rfl rfl) h0
  clear hA0 hval0
  refine (lawNew a0 w0 W).mono fun e W' ⟨he, bel⟩ => ?_
  subst he
  exact ⟨_, rfl, _, _, _, [], _, [], hW', trodAll_mk1 (shut_bool Try.underlying4 _), (trodAll_cons_mk (shut_int Try.underlying2 w0) trodAll_mk0), rfl, bel.frame _, fun h => by cases h⟩
theorem over_fnExactNewDevice : Rows.fnExactNewDeviceRow.holds Try.pinned (OpenSpec.ofChange Rows.fnExactNewDeviceSpec) :=
  OpenClaim.holds_of_wide 5 Try.f5 rfl rfl rfl rfl rfl rfl rfl ⟨rfl, rfl, rfl, rfl, rfl⟩ rfl rfl rfl rfl rfl (by kernel_rfl) Try.func5 (by kernel_rfl)
    (of_decide_eq_true (by kernel_rfl)) (by unfold Func.isWrapper; first | (rw [if_pos (by decide +kernel)]; kernel_rfl) | (rw [if_neg (by decide +kernel)]; exact ⟨rfl, rfl⟩))
    (fun os started H enc _ => lifted_fnExactNewDevice os started H enc)
theorem fnExactNewDevice_holds : Rows.FnExactNewDeviceSaid := over_fnExactNewDevice
#print axioms fnExactNewDevice_holds

end Go.Proofs.Ytofbfjkkiikelaa
