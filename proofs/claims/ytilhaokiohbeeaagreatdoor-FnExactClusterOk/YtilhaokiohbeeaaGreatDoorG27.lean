/- The contract of the program's ShowBlock. The digest of some bytes, and the contract of the model's Digest. The contracts of both Names of a block. The contracts of the two Clashes: are the texts unlike, and have they one digest? The contracts of the two Pairs, Tags and Signeds. The contracts of the two Tags and Signeds. -/
import Derived.Test.YtilhaokiohbeeaaGreatDoorBlxSi
import Derived.Test.YtilhaokiohbeeaaGreatDoorG00
import Derived.Lib.ConvBytes
import Derived.BigQuiet
import Derived.Deep.RegionWith
-- UNF Gen
namespace Go.Proofs.YtilhaokiohbeeaaGreatDoor
open Go.RowKit
theorem five_len {a b c d e : Value} {x y z s t : List UInt8} (h1 : x.length ≤ 9) (h2 : y.length ≤ 9) (h3 : z.length ≤ 200) (h4 : s.length ≤ 700000) (h5 : t.length ≤ 9) : ∀ u ∈ [(a, x), (b, y), (c, z), (d, s), (e, t)], u.2.length ≤ 700000 := by
  intro u hu
  simp only [List.mem_cons, List.not_mem_nil, or_false] at hu
  rcases hu with rfl | rfl | rfl | rfl | rfl <;> simp only <;> omega
set_option maxHeartbeats 8000000 in
set_option maxRecDepth 100000 in
theorem implShow_any (X : BlX) (w : World) (hr : RdBl w X) (hz : ∀ s ∈ X.b.mo, s.size ≤ 1048576) :
    Calls Tryz.prog 222 #[.agg #[.int .i64 X.b.vw, .int .i64 X.b.pa, .int .i64 X.b.p.vw, .int .i64 X.b.p.nm, X.vs, X.vt, X.vm, .int .i64 X.b.sv]] w fun e w' => e = .returned (.string ⟨(shwB X.b).toArray⟩) ∧ Below w.heap.size w w' := by
  obtain ⟨⟨vw, pa, ⟨pv, pn, sv, tg⟩, mo, bb⟩, vs, vt, vm⟩ := X
  obtain ⟨⟨hrs, hrt⟩, hrm⟩ := hr
  simp only [BlX.pr] at hrs hrt hrm hz ⊢
  obtain ⟨a1, c1, hv1, -⟩ := id hrs
  obtain ⟨a2, c2, hv2, -⟩ := id hrt
  obtain ⟨a3, c3, hv3, -⟩ := id hrm
  have HPR : Hid (∀ W, Below w.heap.size w W → Calls Tryz.prog 242 #[.agg #[.int .i64 pv, .int .i64 pn, vs, vt]] W fun e w' => ∃ u, e = .returned u ∧ Own w' W.heap.size u (prW ⟨pv, pn, sv, tg⟩) ∧ Below W.heap.size W w') := fun W hb => prRow_any ⟨pv, pn, sv, tg⟩ vs vt W (hrs.below hb) (hrt.below hb)
  have HTX : Hid (∀ W, Below w.heap.size w W → Calls Tryz.prog 243 #[vm] W fun e w' => ∃ u, e = .returned u ∧ Own w' W.heap.size u (textsOf mo) ∧ Below W.heap.size W w') := fun W hb => implTexts_any _ mo W (hrm.below hb) hz
  obtain ⟨T, hT⟩ : ∃ T, T = inR [num vw, num pa, prW ⟨pv, pn, sv, tg⟩, textsOf mo, num bb] := ⟨_, rfl⟩
  have HTT : Hid (T = inR [num vw, num pa, prW ⟨pv, pn, sv, tg⟩, textsOf mo, num bb]) := hT
  have HTS : Hid (T = shwB ⟨vw, pa, ⟨pv, pn, sv, tg⟩, mo, bb⟩) := hT.trans (shw_rows ⟨vw, pa, ⟨pv, pn, sv, tg⟩, mo, bb⟩)
  generalize sv.length = n1 at hv1
  generalize tg.length = n2 at hv2
  generalize mo.length = n3 at hv3
  subst hv1 hv2 hv3
  have X0 := bx_new w 34 #[.int .i64 vw, .int .i64 pa, .int .i64 pv, .int .i64 pn, .slice a1 n1 c1, .slice a2 n2 c2, .slice a3 n3 c3, .int .i64 bb]
  have HB0 : Hid (Below w.heap.size w (w.alloc (.cells #[.int .i64 vw, .int .i64 pa, .int .i64 pv, .int .i64 pn, .slice a1 n1 c1, .slice a2 n2 c2, .slice a3 n3 c3, .int .i64 bb] 34))) := below1 w _
  obtain ⟨w2, hw2⟩ : ∃ w2, w2 = w.alloc (.cells #[.int .i64 vw, .int .i64 pa, .int .i64 pv, .int .i64 pn, .slice a1 n1 c1, .slice a2 n2 c2, .slice a3 n3 c3, .int .i64 bb] 34) := ⟨_, rfl⟩
  rw [← hw2] at X0 HB0
  have HX : Hid (Bx w2 w.heap.size 34 #[.int .i64 vw, .int .i64 pa, .int .i64 pv, .int .i64 pn, .slice a1 n1 c1, .slice a2 n2 c2, .slice a3 n3 c3, .int .i64 bb]) := X0
  have HB2 : Hid (Below w2.heap.size w2 w2) := Below.refl _ _
  have HP : Hid (∀ V, Below w2.heap.size w2 V → V.cell? ⟨w.heap.size, 0, none⟩ = some (.int .i64 vw) ∧ V.cell? ⟨w.heap.size, 1, none⟩ = some (.int .i64 pa) ∧ V.cell? ⟨w.heap.size, 2, none⟩ = some (.int .i64 pv) ∧ V.cell? ⟨w.heap.size, 3, none⟩ = some (.int .i64 pn) ∧ V.cell? ⟨w.heap.size, 4, none⟩ = some (.slice a1 n1 c1) ∧ V.cell? ⟨w.heap.size, 5, none⟩ = some (.slice a2 n2 c2) ∧ V.cell? ⟨w.heap.size, 6, none⟩ = some (.slice a3 n3 c3) ∧ V.cell? ⟨w.heap.size, 7, none⟩ = some (.int .i64 bb)) := fun V hb => (HX.out.below hb).c8
  rw [← HTS.out]
  clear hrs hrt hrm hz hT X0 HTS
  go_enter Tryz.func222, Tryz.ntmps222
  go_wp2_with fail
  rw [← hw2]
  clear hw2
  refine wp_region_noPanic ?_
  refine wp_region_held_drew (S := fun w' => w'.cell? ⟨w.heap.size, 0, none⟩ = some (.int .i64 vw) ∧ w'.cell? ⟨w.heap.size, 1, none⟩ = some (.int .i64 pa) ∧ w'.cell? ⟨w.heap.size, 2, none⟩ = some (.int .i64 pv) ∧ w'.cell? ⟨w.heap.size, 3, none⟩ = some (.int .i64 pn) ∧ w'.cell? ⟨w.heap.size, 4, none⟩ = some (.slice a1 n1 c1) ∧ w'.cell? ⟨w.heap.size, 5, none⟩ = some (.slice a2 n2 c2) ∧ w'.cell? ⟨w.heap.size, 6, none⟩ = some (.slice a3 n3 c3) ∧ w'.cell? ⟨w.heap.size, 7, none⟩ = some (.int .i64 bb)) (by kernel_rfl) (HP.out _ HB2.out.drew) (fun h0 => ?_)
  refine tkG 0 4 h0 ?_
  try simp only [Act.put, List.setIfInBounds_toArray, List.set_cons_zero, List.set_cons_succ]
  refine tkG 1 5 h0 ?_
  try simp only [Act.put, List.setIfInBounds_toArray, List.set_cons_zero, List.set_cons_succ]
  refine tkG 3 7 h0 ?_
  try simp only [Act.put, List.setIfInBounds_toArray, List.set_cons_zero, List.set_cons_succ]
  refine tkG 4 8 h0 ?_
  try simp only [Act.put, List.setIfInBounds_toArray, List.set_cons_zero, List.set_cons_succ]
  refine tkG 6 10 h0 ?_
  try simp only [Act.put, List.setIfInBounds_toArray, List.set_cons_zero, List.set_cons_succ]
  refine tkG 7 11 h0 ?_
  try simp only [Act.put, List.setIfInBounds_toArray, List.set_cons_zero, List.set_cons_succ]
  refine tkG 9 13 h0 ?_
  try simp only [Act.put, List.setIfInBounds_toArray, List.set_cons_zero, List.set_cons_succ]
  refine tkG 10 14 h0 ?_
  try simp only [Act.put, List.setIfInBounds_toArray, List.set_cons_zero, List.set_cons_succ]
  refine tkG 12 16 h0 ?_
  try simp only [Act.put, List.setIfInBounds_toArray, List.set_cons_zero, List.set_cons_succ]
  refine tkG 13 17 h0 ?_
  try simp only [Act.put, List.setIfInBounds_toArray, List.set_cons_zero, List.set_cons_succ]
  refine wpAnyH_ready (rs := [2]) (by kernel_rfl) (by simp) ?_
  refine AllReadyH.cons rfl (fun K hK => ?_) AllReadyH.nil
  go_simp
  refine (implNumber_any vw _).mono ?_
  rintro e w3 ⟨v3, rfl, ho3, hb3⟩
  have HB3 : Hid (Below w2.heap.size w2 w3) := HB2.out.drew.trans (hb3.mono HB2.out.drew.size)
  have HV3 : Hid (Own w3 w2.heap.size v3 (num vw)) := ho3.mono HB2.out.drew.size
  obtain ⟨a3', c3', hv3⟩ := ownSlX ho3
  clear ho3 hb3
  generalize (num vw).length = l3 at hv3
  subst hv3
  refine hK.out _ _ (HP.out _ HB3.out) (fun h1 => ?_)
  clear hK K
  try simp only [Act.put, List.setIfInBounds_toArray, List.set_cons_zero, List.set_cons_succ]
  clear h0
  refine wpAnyH_ready (rs := [5]) (by kernel_rfl) (by simp) ?_
  refine AllReadyH.cons rfl (fun K hK => ?_) AllReadyH.nil
  go_simp
  refine (implNumber_any pa _).mono ?_
  rintro e w4 ⟨v4, rfl, ho4, hb4⟩
  have HB4 : Hid (Below w2.heap.size w2 w4) := HB3.out.trans (hb4.mono HB3.out.size)
  have HV4 : Hid (Own w4 w2.heap.size v4 (num pa)) := ho4.mono HB3.out.size
  replace HV3 : Hid (Own w4 w2.heap.size (.slice a3' l3 c3') (num vw)) := Own.below HV3.out hb4
  obtain ⟨a4', c4', hv4⟩ := ownSlX ho4
  clear ho4 hb4
  generalize (num pa).length = l4 at hv4
  subst hv4
  refine hK.out _ _ (HP.out _ HB4.out) (fun h2 => ?_)
  clear hK K
  try simp only [Act.put, List.setIfInBounds_toArray, List.set_cons_zero, List.set_cons_succ]
  clear h1
  refine wpAnyH_ready (rs := [8]) (by kernel_rfl) (by simp) ?_
  refine AllReadyH.cons rfl (fun K hK => ?_) AllReadyH.nil
  go_simp
  refine (HPR.out _ (HB0.out.trans (HB4.out.mono HB0.out.size))).mono ?_
  rintro e w5 ⟨v5, rfl, ho5, hb5⟩
  have HB5 : Hid (Below w2.heap.size w2 w5) := HB4.out.trans (hb5.mono HB4.out.size)
  have HV5 : Hid (Own w5 w2.heap.size v5 (prW ⟨pv, pn, sv, tg⟩)) := ho5.mono HB4.out.size
  replace HV3 : Hid (Own w5 w2.heap.size (.slice a3' l3 c3') (num vw)) := Own.below HV3.out hb5
  replace HV4 : Hid (Own w5 w2.heap.size (.slice a4' l4 c4') (num pa)) := Own.below HV4.out hb5
  obtain ⟨a5', c5', hv5⟩ := ownSlX ho5
  clear ho5 hb5
  generalize (prW ⟨pv, pn, sv, tg⟩).length = l5 at hv5
  subst hv5
  refine hK.out _ _ (HP.out _ HB5.out) (fun h3 => ?_)
  clear hK K
  try simp only [Act.put, List.setIfInBounds_toArray, List.set_cons_zero, List.set_cons_succ]
  clear h2
  refine wpAnyH_ready (rs := [11]) (by kernel_rfl) (by simp) ?_
  refine AllReadyH.cons rfl (fun K hK => ?_) AllReadyH.nil
  go_simp
  refine (HTX.out _ (HB0.out.trans (HB5.out.mono HB0.out.size))).mono ?_
  rintro e w6 ⟨v6, rfl, ho6, hb6⟩
  have HB6 : Hid (Below w2.heap.size w2 w6) := HB5.out.trans (hb6.mono HB5.out.size)
  have HV6 : Hid (Own w6 w2.heap.size v6 (textsOf mo)) := ho6.mono HB5.out.size
  replace HV3 : Hid (Own w6 w2.heap.size (.slice a3' l3 c3') (num vw)) := Own.below HV3.out hb6
  replace HV4 : Hid (Own w6 w2.heap.size (.slice a4' l4 c4') (num pa)) := Own.below HV4.out hb6
  replace HV5 : Hid (Own w6 w2.heap.size (.slice a5' l5 c5') (prW ⟨pv, pn, sv, tg⟩)) := Own.below HV5.out hb6
  obtain ⟨a6', c6', hv6⟩ := ownSlX ho6
  clear ho6 hb6
  generalize (textsOf mo).length = l6 at hv6
  subst hv6
  refine hK.out _ _ (HP.out _ HB6.out) (fun h4 => ?_)
  clear hK K
  try simp only [Act.put, List.setIfInBounds_toArray, List.set_cons_zero, List.set_cons_succ]
  clear h3
  refine wpAnyH_ready (rs := [14]) (by kernel_rfl) (by simp) ?_
  refine AllReadyH.cons rfl (fun K hK => ?_) AllReadyH.nil
  go_simp
  refine (implNumber_any bb _).mono ?_
  rintro e w7 ⟨v7, rfl, ho7, hb7⟩
  have HB7 : Hid (Below w2.heap.size w2 w7) := HB6.out.trans (hb7.mono HB6.out.size)
  have HV7 : Hid (Own w7 w2.heap.size v7 (num bb)) := ho7.mono HB6.out.size
  replace HV3 : Hid (Own w7 w2.heap.size (.slice a3' l3 c3') (num vw)) := Own.below HV3.out hb7
  replace HV4 : Hid (Own w7 w2.heap.size (.slice a4' l4 c4') (num pa)) := Own.below HV4.out hb7
  replace HV5 : Hid (Own w7 w2.heap.size (.slice a5' l5 c5') (prW ⟨pv, pn, sv, tg⟩)) := Own.below HV5.out hb7
  replace HV6 : Hid (Own w7 w2.heap.size (.slice a6' l6 c6') (textsOf mo)) := Own.below HV6.out hb7
  obtain ⟨a7', c7', hv7⟩ := ownSlX ho7
  clear ho7 hb7
  generalize (num bb).length = l7 at hv7
  subst hv7
  refine hK.out _ _ (HP.out _ HB7.out) (fun h5 => ?_)
  clear hK K
  try simp only [Act.put, List.setIfInBounds_toArray, List.set_cons_zero, List.set_cons_succ]
  clear h4
  refine wpAnyH_ready (rs := [15]) (by kernel_rfl) (by simp) ?_
  refine AllReadyH.cons rfl (fun K hK => ?_) AllReadyH.nil
  refine step_objX rfl 19 rfl (.cells #[.slice a3' l3 c3', .slice a4' l4 c4', .slice a5' l5 c5', .slice a6' l6 c6', .slice a7' l7 c7'] 22) (.slice (some ⟨w7.heap.size, 0, none⟩) 5 5) (by go_simp; (try rfl)) ?_
  have HB8 : Hid (Below w2.heap.size w2 (w7.alloc (.cells #[.slice a3' l3 c3', .slice a4' l4 c4', .slice a5' l5 c5', .slice a6' l6 c6', .slice a7' l7 c7'] 22))) := HB7.out.alloc HB7.out.size _
  have HI8 : Hid (InO (w7.alloc (.cells #[.slice a3' l3 c3', .slice a4' l4 c4', .slice a5' l5 c5', .slice a6' l6 c6', .slice a7' l7 c7'] 22)) w2.heap.size [(Value.slice a3' l3 c3', num vw), (Value.slice a4' l4 c4', num pa), (Value.slice a5' l5 c5', prW ⟨pv, pn, sv, tg⟩), (Value.slice a6' l6 c6', textsOf mo), (Value.slice a7' l7 c7', num bb)]) := InO.below (inO_five HV3.out HV4.out HV5.out HV6.out HV7.out) (below1 w7 _)
  have HO8 : Hid (OwnR (w7.alloc (.cells #[.slice a3' l3 c3', .slice a4' l4 c4', .slice a5' l5 c5', .slice a6' l6 c6', .slice a7' l7 c7'] 22)) w7.heap.size (.slice (some ⟨w7.heap.size, 0, none⟩) 5 5) [(Value.slice a3' l3 c3', num vw), (Value.slice a4' l4 c4', num pa), (Value.slice a5' l5 c5', prW ⟨pv, pn, sv, tg⟩), (Value.slice a6' l6 c6', textsOf mo), (Value.slice a7' l7 c7', num bb)]) := ownR_lit w7 [(Value.slice a3' l3 c3', num vw), (Value.slice a4' l4 c4', num pa), (Value.slice a5' l5 c5', prW ⟨pv, pn, sv, tg⟩), (Value.slice a6' l6 c6', textsOf mo), (Value.slice a7' l7 c7', num bb)] (by unfold maxLen; simp)
  refine hK.out _ _ (HP.out _ HB8.out) (fun h6 => ?_)
  clear hK K
  try simp only [Act.put, List.setIfInBounds_toArray, List.set_cons_zero, List.set_cons_succ]
  clear h5
  refine wpAnyH_ready (rs := [16]) (by kernel_rfl) (by simp) ?_
  refine AllReadyH.cons rfl (fun K hK => ?_) AllReadyH.nil
  go_simp
  refine (inRow_any _ [(Value.slice a3' l3 c3', num vw), (Value.slice a4' l4 c4', num pa), (Value.slice a5' l5 c5', prW ⟨pv, pn, sv, tg⟩), (Value.slice a6' l6 c6', textsOf mo), (Value.slice a7' l7 c7', num bb)] _ (HO8.out.rd HI8.out.rd) (five_len (num_len _) (num_len _) (prW_len _) (textsOf_len _) (num_len _)) (by simp)).mono ?_
  rintro e w9 ⟨v9, rfl, ho9, hb9⟩
  have HB9 : Hid (Below w2.heap.size w2 w9) := HB8.out.trans (hb9.mono HB8.out.size)
  have HCV : Hid ((convert 22 9 v9).run Tryz.prog w9 = .ok (.string ⟨T.toArray⟩) w9) := by unfold Hid; rw [HTT.out]; exact conv_own ho9
  obtain ⟨a9', c9', hv9⟩ := ownSlX ho9
  clear ho9 hb9
  generalize (inR ([(Value.slice a3' l3 c3', num vw), (Value.slice a4' l4 c4', num pa), (Value.slice a5' l5 c5', prW ⟨pv, pn, sv, tg⟩), (Value.slice a6' l6 c6', textsOf mo), (Value.slice a7' l7 c7', num bb)].map (·.2))).length = l9 at hv9
  subst hv9
  refine hK.out _ _ (HP.out _ HB9.out) (fun h7 => ?_)
  clear hK K
  try simp only [Act.put, List.setIfInBounds_toArray, List.set_cons_zero, List.set_cons_succ]
  clear h6
  refine tkG 17 3 h7 ?_
  try simp only [Act.put, List.setIfInBounds_toArray, List.set_cons_zero, List.set_cons_succ]
  refine wpAnyH_done (by kernel_rfl) ?_ _
  refine NoPanic.normal ?_
  have HF : Hid (Below w.heap.size w w9) := HB0.out.trans (HB9.out.mono HB0.out.size)
  have HC : (convert 22 9 (.slice a9' l9 c9')).run Tryz.prog w9 = .ok (.string ⟨T.toArray⟩) w9 := HCV.out
  clear HV3 HV4 HV5 HV6 HV7 HB3 HB4 HB5 HB6 HB7 HB8 HB9 HI8 HO8 HPR HTX HP HX HCV HB2 HB0 HTT
  go_wp2
  go_ret
  exact ⟨rfl, HF.out⟩
end Go.Proofs.YtilhaokiohbeeaaGreatDoor
namespace Go.Proofs.YtilhaokiohbeeaaGreatDoor
open Go.RowKit
/-- One byte more. -/
def stepD (h : Nat) (b : UInt8) : Nat := (h * 1000003 + b.toNat + 1) % 2147483647
/-- Some bytes more. -/
def dig (h : Nat) (bs : List UInt8) : Nat := bs.foldl stepD h
theorem stepD_lt (h : Nat) (b : UInt8) : stepD h b < 2147483647 := Nat.mod_lt _ (by omega)
theorem dig_lt (bs : List UInt8) : ∀ h, h < 2147483647 → dig h bs < 2147483647 := by
  induction bs with
  | nil => intro h hh; exact hh
  | cons b bs ih => intro h _; exact ih _ (stepD_lt h b)
theorem dig_append (h : Nat) (a b : List UInt8) : dig h (a ++ b) = dig (dig h a) b := List.foldl_append
theorem dig_at (h k : Nat) (bs : List UInt8) (hk : k < bs.length) : dig h (bs.drop k) = dig (stepD h bs[k]) (bs.drop (k + 1)) := by
  rw [List.drop_eq_getElem_cons hk]; rfl
theorem dig_end (h k : Nat) (bs : List UInt8) (hk : bs.length ≤ k) : dig h (bs.drop k) = h := by
  rw [List.drop_eq_nil_of_le hk]; rfl
theorem ret_int {k : IntKind} {a b : Int} (h : a = b) : Ending.returned (.int k a) = .returned (.int k b) := by rw [h]
theorem wrap_in (n : Int) (h : -9223372036854775808 ≤ n ∧ n ≤ 9223372036854775807) : wrap64 n = n := by unfold wrap64; omega
/-- The round's number, as the walk spells it. -/
theorem round_num (m : Nat) (b : UInt8) (hm : m < 2147483647) : (wrap64 (wrap64 ((m : Int) * 1000003 + wrap64 (b.toNat : Int)) + 1)).tmod 2147483647 = (stepD m b : Int) := by
  have hb := UInt8.toNat_lt b
  rw [wrap_in (b.toNat : Int) (by omega), wrap_in ((m : Int) * 1000003 + (b.toNat : Int)) (by omega), wrap_in _ (by omega), Int.tmod_eq_emod_of_nonneg (by omega)]
  unfold stepD
  omega

set_option maxHeartbeats 400000 in
set_option maxRecDepth 100000 in
theorem specDigest_any (s : ByteArray) (w : World) (hs : s.size ≤ 1099511627776) :
    Calls Tryz.prog 164 #[.string s] w fun e w' => e = .returned (.int .i64 (dig 1 s.data.toList : Int)) ∧ w' = w := by
  have hsz := size_length s
  obtain ⟨R, hR⟩ : ∃ R, R = dig 1 s.data.toList := ⟨_, rfl⟩
  rw [← hR]
  go_enter Tryz.func164, Tryz.ntmps164
  go_wp2
  go_loop [3, 4] (fun h i => ∃ k m : Nat, k ≤ s.size ∧ i = .int .i64 k ∧ h = .int .i64 m ∧ m < 2147483647 ∧ Hid (R = dig m (s.data.toList.drop k))) (fun _ i => s.size - (intOf i).toNat)
  case atStart => exact ⟨0, 1, by omega, rfl, rfl, by omega, hR⟩
  case round =>
    obtain ⟨k, m, hk, rfl, rfl, hm, HR⟩ := hrel
    clear hR
    by_cases hlt : k < s.size
    · go_wp2
      go_round
      case rel =>
        have hb : s[k] = s.data.toList[k]'(by omega) := rfl
        refine ⟨k + 1, stepD m s[k], by omega, by go_num, by rw [round_num _ _ hm], stepD_lt _ _, ?_⟩
        show R = _
        rw [HR.out, dig_at _ _ _ (by omega), hb]
      case measure => simp [intOf]; omega
    · go_wp2
      go_ret
      exact ⟨ret_int (by rw [HR.out, dig_end _ _ _ (by omega)]), rfl⟩
set_option maxHeartbeats 400000 in
set_option maxRecDepth 100000 in
theorem withByte_any (m : Nat) (b : UInt8) (w : World) (hm : m < 2147483647) :
    Calls Tryz.prog 254 #[.int .i64 m, .int .u8 (b.toNat : Int)] w fun e w' => e = .returned (.int .i64 (stepD m b : Int)) ∧ w' = w := by
  have hr := round_num m b hm
  go_enter Tryz.func254, Tryz.ntmps254
  go_wp2
  go_ret
  exact ⟨rfl, rfl⟩
set_option maxHeartbeats 400000 in
set_option maxRecDepth 100000 in
theorem withEachByte_any (m : Nat) (v : Value) (bs : List UInt8) (w : World) (hm : m < 2147483647) (hr : Rd w v bs) :
    Calls Tryz.prog 253 #[.int .i64 m, .func (.func 254) #[] #[], v] w fun e w' => e = .returned (.int .i64 (dig m bs : Int)) ∧ w' = w := by
  obtain ⟨a, cap, rfl, hl, hc, hA⟩ := hr
  unfold maxLen at hc
  obtain ⟨R, hR⟩ : ∃ R, R = dig m bs := ⟨_, rfl⟩
  rw [← hR]
  go_enter Tryz.func253, Tryz.ntmps253
  go_wp2
  go_loop [0, 8, 11] (fun h _ i => ∃ k m' : Nat, k ≤ bs.length ∧ i = .int .i64 k ∧ h = .int .i64 m' ∧ m' < 2147483647 ∧ Hid (R = dig m' (bs.drop k))) (fun _ _ i => bs.length - (intOf i).toNat)
  case atStart => exact ⟨0, m, by omega, rfl, rfl, hm, hR⟩
  case round =>
    obtain ⟨k, m', hk, rfl, rfl, hm', HR⟩ := hrel
    clear hR
    by_cases hlt : k < bs.length
    · obtain ⟨b0, off, ha, hcell⟩ : ∃ b0 off, a = some ⟨b0, off, none⟩ ∧ w.cell? ⟨b0, off + k, none⟩ = some (.int .u8 (bs[k].toNat : Int)) := by
        rcases hA with h | ⟨b, off, ha, hc⟩
        · subst h; simp at hlt
        · exact ⟨b, off, ha, hc k hlt⟩
      rw [ha]
      clear hA ha
      go_wp2_with fail
      refine (withByte_any m' bs[k] _ hm').mono ?_
      rintro e w1 ⟨rfl, rfl⟩
      have hlt2 := stepD_lt m' bs[k]
      have HN : Hid (R = dig (stepD m' bs[k]) (bs.drop (k + 1))) := by
        show R = _
        rw [HR.out, dig_at _ _ _ hlt]
      go_wp2
      go_round
      case rel => exact ⟨k + 1, stepD m' bs[k], by omega, by go_num, rfl, hlt2, HN⟩
      case measure => simp [intOf]; omega
    · go_wp2
      go_ret
      exact ⟨ret_int (by rw [HR.out, dig_end _ _ _ (by omega)]), rfl⟩
set_option maxHeartbeats 400000 in
set_option maxRecDepth 100000 in
theorem withText_any (m : Nat) (s : ByteArray) (w : World) (hm : m < 2147483647) (hs : s.size ≤ 1099511627776) :
    Calls Tryz.prog 244 #[.int .i64 m, .string s] w fun e w' => e = .returned (.int .i64 (dig m s.data.toList : Int)) ∧ Below w.heap.size w w' := by
  have hcv := conv_bytes w s
  have hrd := bytes_rd w s (by unfold maxLen; omega)
  have hbl := bytes_below w s
  generalize Lib.bytesWorld w 5 s = W at hcv hrd hbl
  generalize grownCap w s.size 0 5 = c0 at hcv hrd
  go_enter Tryz.func244, Tryz.ntmps244
  go_wp2_with fail
  refine (withEachByte_any m _ _ _ hm hrd).mono ?_
  rintro e w1 ⟨rfl, rfl⟩
  go_wp2
  go_ret
  exact ⟨rfl, hbl⟩
set_option maxHeartbeats 400000 in
set_option maxRecDepth 100000 in
theorem implDigest_any (s : ByteArray) (w : World) (hs : s.size ≤ 1099511627776) :
    Calls Tryz.prog 223 #[.string s] w fun e w' => e = .returned (.int .i64 (dig 1 s.data.toList : Int)) ∧ Below w.heap.size w w' := by
  go_enter Tryz.func223, Tryz.ntmps223
  go_wp2_with fail
  refine (withText_any 1 s _ (by omega) hs).mono ?_
  rintro e w1 ⟨rfl, hb⟩
  go_wp2
  go_ret
  exact ⟨rfl, hb⟩
end Go.Proofs.YtilhaokiohbeeaaGreatDoor
-- UNF Gen
namespace Go.Proofs.YtilhaokiohbeeaaGreatDoor
open Go.RowKit
/-- A block's name: the digest of what shows it, 1 where that is 0. -/
def namN (b : Blk) : Int := max 1 (dig 1 (shwB b) : Int)
/-- -1 where it cannot be shown. -/
def namZ (b : Blk) : Int := if shwB b = [] then -1 else namN b
theorem namN_in (b : Blk) : 1 ≤ namN b ∧ namN b ≤ 2147483646 := by
  have h := dig_lt (shwB b) 1 (by omega)
  unfold namN
  omega
set_option maxHeartbeats 400000 in
set_option maxRecDepth 100000 in
theorem l1MaxN_any (a b : Int) (w : World) : Calls Tryz.prog 144 #[.int .i64 a, .int .i64 b] w fun e w' => e = .returned (.int .i64 (max a b)) ∧ w' = w := by
  by_cases h : b < a
  · go_enter Tryz.func144, Tryz.ntmps144
    go_wp2
    go_ret
    exact ⟨ret_intE (by omega), rfl⟩
  · have hd : decide (b < a) = false := by simpa using h
    have h2 : a ≤ b := by omega
    clear h
    go_enter Tryz.func144, Tryz.ntmps144
    go_wp2
    go_ret
    exact ⟨ret_intE (by omega), rfl⟩
theorem shw_size (b : Blk) : (⟨(shwB b).toArray⟩ : ByteArray).size ≤ 1099511627776 := by
  have := shwB_len b
  show (shwB b).toArray.size ≤ _
  rw [List.size_toArray]
  omega
theorem shw_list (b : Blk) : (⟨(shwB b).toArray⟩ : ByteArray).data.toList = shwB b := by simp
theorem shw_nil (b : Blk) : (⟨(shwB b).toArray⟩ : ByteArray).toList.isEmpty = decide (shwB b = []) := by
  rw [ByteArray.toList_eq]
  cases h : shwB b with
  | nil => rfl
  | cons a l => simp
set_option maxHeartbeats 2000000 in
set_option maxRecDepth 100000 in
theorem l15NameOf_any (X : BlX) (w : World) (hr : RdBl w X) (hz : ∀ s ∈ X.b.mo, s.size ≤ 1048576) :
    Calls Tryz.prog 78 #[.agg #[.int .i64 X.b.vw, .int .i64 X.b.pa, .int .i64 X.b.p.vw, .int .i64 X.b.p.nm, X.vs, X.vt, X.vm, .int .i64 X.b.sv]] w fun e w' => e = .returned (.int .i64 (namN X.b)) ∧ Below w.heap.size w w' := by
  have HSH : Hid (∀ W, Below w.heap.size w W → Calls Tryz.prog 165 #[.agg #[.int .i64 X.b.vw, .int .i64 X.b.pa, .int .i64 X.b.p.vw, .int .i64 X.b.p.nm, X.vs, X.vt, X.vm, .int .i64 X.b.sv]] W fun e w' => e = .returned (.string ⟨(shwB X.b).toArray⟩) ∧ Below W.heap.size W w') := fun W hb => specShow_any X W (hr.below hb) hz
  have t0 := bx_new w 34 #[.int .i64 X.b.vw, .int .i64 X.b.pa, .int .i64 X.b.p.vw, .int .i64 X.b.p.nm, X.vs, X.vt, X.vm, .int .i64 X.b.sv]
  have b0 := below1 w (.cells #[.int .i64 X.b.vw, .int .i64 X.b.pa, .int .i64 X.b.p.vw, .int .i64 X.b.p.nm, X.vs, X.vt, X.vm, .int .i64 X.b.sv] 34)
  obtain ⟨S, hS⟩ : ∃ S : ByteArray, S = ⟨(shwB X.b).toArray⟩ := ⟨_, rfl⟩
  have HSZ : Hid (S.size ≤ 1099511627776) := by unfold Hid; rw [hS]; exact shw_size X.b
  have HN : Hid (max 1 (dig 1 S.data.toList : Int) = namN X.b) := by unfold Hid; rw [hS, shw_list]; rfl
  rw [← hS] at HSH
  clear hS
  obtain ⟨d, hd⟩ : ∃ d : Nat, d = dig 1 S.data.toList := ⟨_, rfl⟩
  have HDG : Hid (∀ W, Calls Tryz.prog 164 #[.string S] W fun e w' => e = .returned (.int .i64 (d : Int)) ∧ w' = W) := fun W => by rw [hd]; exact specDigest_any S W HSZ.out
  have HN2 : Hid (max 1 (d : Int) = namN X.b) := by unfold Hid; rw [hd]; exact HN.out
  clear hd HN
  obtain ⟨q0, q1, q2, q3, q4, q5, q6, q7⟩ := t0.c8
  go_enter Tryz.func78, Tryz.ntmps78
  go_wp2_with fail
  refine (HSH.out _ b0).mono ?_
  rintro e w1 ⟨rfl, hb1⟩
  have b1 := b0.trans (hb1.mono b0.size)
  clear q0 q1 q2 q3 q4 q5 q6 q7 hb1 t0 b0
  go_wp2_with fail
  refine (HDG.out _).mono ?_
  rintro e w2 ⟨rfl, rfl⟩
  go_wp2_with fail
  refine (l1MaxN_any 1 (d : Int) _).mono ?_
  rintro e w3 ⟨rfl, rfl⟩
  rw [HN2.out]
  go_wp2
  go_ret
  exact ⟨rfl, b1⟩
set_option maxHeartbeats 2000000 in
set_option maxRecDepth 100000 in
theorem implName_any (X : BlX) (w : World) (hr : RdBl w X) (hz : ∀ s ∈ X.b.mo, s.size ≤ 1048576) :
    Calls Tryz.prog 196 #[.agg #[.int .i64 X.b.vw, .int .i64 X.b.pa, .int .i64 X.b.p.vw, .int .i64 X.b.p.nm, X.vs, X.vt, X.vm, .int .i64 X.b.sv]] w fun e w' => e = .returned (.int .i64 (namZ X.b)) ∧ Below w.heap.size w w' := by
  have HSH : Hid (∀ W, Below w.heap.size w W → Calls Tryz.prog 222 #[.agg #[.int .i64 X.b.vw, .int .i64 X.b.pa, .int .i64 X.b.p.vw, .int .i64 X.b.p.nm, X.vs, X.vt, X.vm, .int .i64 X.b.sv]] W fun e w' => e = .returned (.string ⟨(shwB X.b).toArray⟩) ∧ Below W.heap.size W w') := fun W hb => implShow_any X W (hr.below hb) hz
  have t0 := bx_new w 34 #[.int .i64 X.b.vw, .int .i64 X.b.pa, .int .i64 X.b.p.vw, .int .i64 X.b.p.nm, X.vs, X.vt, X.vm, .int .i64 X.b.sv]
  have b0 := below1 w (.cells #[.int .i64 X.b.vw, .int .i64 X.b.pa, .int .i64 X.b.p.vw, .int .i64 X.b.p.nm, X.vs, X.vt, X.vm, .int .i64 X.b.sv] 34)
  obtain ⟨S, hS⟩ : ∃ S : ByteArray, S = ⟨(shwB X.b).toArray⟩ := ⟨_, rfl⟩
  have HE : Hid (S.toList.isEmpty = decide (shwB X.b = [])) := by unfold Hid; rw [hS]; exact shw_nil X.b
  have HSZ : Hid (S.size ≤ 1099511627776) := by unfold Hid; rw [hS]; exact shw_size X.b
  have HN : Hid (max 1 (dig 1 S.data.toList : Int) = namN X.b) := by unfold Hid; rw [hS, shw_list]; rfl
  rw [← hS] at HSH
  clear hS
  obtain ⟨q0, q1, q2, q3, q4, q5, q6, q7⟩ := t0.c8
  go_enter Tryz.func196, Tryz.ntmps196
  go_wp2_with fail
  refine (HSH.out _ b0).mono ?_
  rintro e w1 ⟨rfl, hb1⟩
  have b1 := b0.trans (hb1.mono b0.size)
  clear q0 q1 q2 q3 q4 q5 q6 q7 hb1 t0 b0
  cases hE : S.toList.isEmpty with
  | true =>
    have RES : Hid (namZ X.b = -1) := by unfold Hid namZ; rw [if_pos (of_decide_eq_true (HE.out.symm.trans hE))]
    go_wp2
    go_ret
    exact ⟨ret_intE RES.out.symm, b1⟩
  | false =>
    have RES : Hid (namZ X.b = namN X.b) := by unfold Hid namZ; rw [if_neg (of_decide_eq_false (HE.out.symm.trans hE))]
    go_wp2_with fail
    refine (implDigest_any S _ HSZ.out).mono ?_
    rintro e w2 ⟨rfl, hb2⟩
    have b2 := b1.trans (hb2.mono b1.size)
    obtain ⟨d, hd⟩ : ∃ d : Nat, d = dig 1 S.data.toList := ⟨_, rfl⟩
    rw [← hd] at HN ⊢
    have R2 : Hid (namZ X.b = max 1 (d : Int)) := RES.out.trans HN.out.symm
    clear hd hb2
    go_wp2
    all_goals (go_ret; exact ⟨ret_intE (by rw [R2.out]; omega), b2⟩)
end Go.Proofs.YtilhaokiohbeeaaGreatDoor
namespace Go.Proofs.YtilhaokiohbeeaaGreatDoor
open Go.RowKit
/-- Do the two texts clash? -/
def clash (a b : ByteArray) : Bool := decide (¬ a.toList = b.toList ∧ dig 1 a.data.toList = dig 1 b.data.toList)
theorem clash_alike {a b : ByteArray} (h : a.toList = b.toList) : clash a b = false := by unfold clash; simp [h]
theorem clash_other {a b : ByteArray} (h : ¬ a.toList = b.toList) : clash a b = decide (dig 1 a.data.toList = dig 1 b.data.toList) := by unfold clash; simp [h]
theorem beq_dig (x y : Nat) : ((x : Int) == (y : Int)) = decide (x = y) := by
  by_cases h : x = y
  · subst h; simp
  · simp only [h, decide_false, beq_eq_false_iff_ne]; omega
theorem both_dig {a b : ByteArray} (h : ¬ a.toList = b.toList) (x y : Nat) : (!a.toList == b.toList && (x : Int) == (y : Int)) = decide (x = y) := by
  rw [beq_dig]; simp [h]
theorem ret_boolC {a b : Bool} (h : a = b) : Ending.returned (.bool a) = .returned (.bool b) := by rw [h]
end Go.Proofs.YtilhaokiohbeeaaGreatDoor
namespace Go.Proofs.YtilhaokiohbeeaaGreatDoor
open Go.RowKit
theorem itoaS_size (n : Int) (h0 : -9223372036854775808 ≤ n) (h1 : n ≤ 9223372036854775807) : (itoaS n).size ≤ 21 := by
  have := Lib.itoa_length_le n h0 h1
  show (Lib.itoa n).toArray.size ≤ 21
  simpa using this
theorem dig_lt' (h : Nat) (bs : List UInt8) (hh : h < 2147483647) : dig h bs < 2147483647 := dig_lt bs h hh
/-- The digest of a pair of numbers. -/
def pairD (a b : Int) : Nat := dig (dig (dig 1 (itoaS a).data.toList) [44]) (itoaS b).data.toList
theorem app_toList (a b : ByteArray) : (a ++ b).data.toList = a.data.toList ++ b.data.toList := by simp [ByteArray.data_append]
theorem app_size (a b : ByteArray) : (a ++ b).size = a.size + b.size := ByteArray.size_append
/-- The digest of some texts, one behind the other. -/
def digAll (h : Nat) (ss : List ByteArray) : Nat := ss.foldl (fun d s => dig d s.data.toList) h
theorem digAll_at (h k : Nat) (ss : List ByteArray) (hk : k < ss.length) : digAll h (ss.drop k) = digAll (dig h ss[k].data.toList) (ss.drop (k + 1)) := by
  rw [List.drop_eq_getElem_cons hk]; rfl
theorem digAll_end (h k : Nat) (ss : List ByteArray) (hk : ss.length ≤ k) : digAll h (ss.drop k) = h := by
  rw [List.drop_eq_nil_of_le hk]; rfl
set_option maxHeartbeats 400000 in
set_option maxRecDepth 100000 in
theorem withEachText_any (m : Nat) (v : Value) (ss : List ByteArray) (w : World) (hm : m < 2147483647) (hr : RdS w v ss) (hs : ∀ s ∈ ss, s.size ≤ 1099511627776) :
    Calls Tryz.prog 250 #[.int .i64 m, .func (.func 244) #[] #[], v] w fun e w' => e = .returned (.int .i64 (digAll m ss : Int)) ∧ Below w.heap.size w w' := by
  have HS : Hid (∀ s ∈ ss, s.size ≤ 1099511627776) := hs
  have HRd : Hid (RdS w v ss) := hr
  obtain ⟨a, cap, rfl, hl, hc, hA⟩ := hr
  unfold maxLen at hc
  clear hA hs
  obtain ⟨R, hR⟩ : ∃ R, R = digAll m ss := ⟨_, rfl⟩
  rw [← hR]
  go_enter Tryz.func250, Tryz.ntmps250
  go_wp2
  go_loopw [0, 8, 11] (fun h _ i wr => ∃ k m' : Nat, k ≤ ss.length ∧ i = .int .i64 k ∧ h = .int .i64 m' ∧ m' < 2147483647 ∧ Hid (R = digAll m' (ss.drop k)) ∧ Below w.heap.size w wr) (fun _ _ i _ => ss.length - (intOf i).toNat)
  case atStart => exact ⟨0, m, by omega, rfl, rfl, hm, hR, Below.refl _ _⟩
  case round =>
    obtain ⟨k, m', hk, rfl, rfl, hm', HR, hb⟩ := hrel
    clear hR
    by_cases hlt : k < ss.length
    · obtain ⟨b0, off, ha, hcell⟩ : ∃ b0 off, a = some ⟨b0, off, none⟩ ∧ wr.cell? ⟨b0, off + k, none⟩ = some (.string ss[k]) := by
        obtain ⟨a', cap', hv, _, _, hA⟩ := HRd.out.below hb
        cases hv
        rcases hA with h | ⟨b, off, ha, hc⟩
        · subst h; simp at hlt
        · exact ⟨b, off, ha, hc k hlt⟩
      have hsz := HS.out ss[k] (List.getElem_mem hlt)
      have hlt2 := dig_lt' m' ss[k].data.toList hm'
      have HN : Hid (R = digAll (dig m' ss[k].data.toList) (ss.drop (k + 1))) := by
        show R = _
        rw [HR.out, digAll_at _ _ _ hlt]
      rw [ha]
      clear ha HR
      go_wp2_with fail
      refine (withText_any m' ss[k] _ hm' hsz).mono ?_
      rintro e w1 ⟨rfl, hb1⟩
      have hb2 := hb.trans (hb1.mono hb.size)
      clear hb hb1 hcell
      go_wp2
      go_roundw
      case rel => exact ⟨k + 1, _, by omega, by go_num, rfl, hlt2, HN, hb2⟩
      case measure => simp [intOf]; omega
    · go_wp2
      go_ret
      exact ⟨ret_int (by rw [HR.out, digAll_end _ _ _ (by omega)]), hb⟩
end Go.Proofs.YtilhaokiohbeeaaGreatDoor
namespace Go.Proofs.YtilhaokiohbeeaaGreatDoor
open Go.RowKit
abbrev secretB : ByteArray := ⟨#[115, 101, 99, 114, 101, 116]⟩
/-- The digest of the tag's text. -/
def tagD (server : Int) (text : ByteArray) : Nat := digAll 1 [secretB, itoaS server, ⟨#[47]⟩, text]
theorem tagD_eq (s : Int) (t : ByteArray) : tagD s t = dig (dig (dig (dig 1 secretB.data.toList) (itoaS s).data.toList) (⟨#[47]⟩ : ByteArray).data.toList) t.data.toList := by
  unfold tagD digAll
  simp only [List.foldl_cons, List.foldl_nil]
/-- The tag: -1 of a server out of range. -/
def tag (server : Int) (text : ByteArray) : Int := if 0 ≤ server ∧ server ≤ 6 then (tagD server text : Int) else -1
theorem tag_in {s : Int} (t : ByteArray) (h0 : 0 ≤ s) (h1 : s ≤ 6) : tag s t = (tagD s t : Int) := by unfold tag; rw [if_pos ⟨h0, h1⟩]
theorem tag_out {s : Int} (t : ByteArray) (h : s < 0 ∨ 6 < s) : tag s t = -1 := by unfold tag; rw [if_neg (by omega)]
set_option maxHeartbeats 400000 in
set_option maxRecDepth 100000 in
theorem l1InT_any (x lo hi : Int) (w : World) : Calls Tryz.prog 74 #[.int .i64 x, .int .i64 lo, .int .i64 hi] w fun e w' => e = .returned (.bool (decide (lo ≤ x ∧ x ≤ hi))) ∧ w' = w := by
  by_cases h : lo ≤ x
  · go_enter Tryz.func74, Tryz.ntmps74
    go_wp2
    go_ret
    exact ⟨by simp [h], rfl⟩
  · go_enter Tryz.func74, Tryz.ntmps74
    go_wp2
    go_ret
    have hf : (decide (lo ≤ x) && decide (x ≤ hi)) = false := by simp; omega
    exact ⟨by rw [hf]; rfl, rfl⟩
set_option maxHeartbeats 400000 in
set_option maxRecDepth 100000 in
theorem l2Tag_any (s : Int) (t : ByteArray) (w : World) (h0 : -9223372036854775808 ≤ s) (h1 : s ≤ 9223372036854775807) (ht : t.size ≤ 1048576) :
    Calls Tryz.prog 166 #[.int .i64 s, .string t] w fun e w' => e = .returned (.int .i64 (tagD s t : Int)) ∧ Below w.heap.size w w' := by
  have hsz := itoaS_size s h0 h1
  go_enter Tryz.func166, Tryz.ntmps166
  go_wp2_with fail
  refine (l2Int_any s _ h0 h1).mono ?_
  rintro e w1 ⟨rfl, hw1⟩
  have hz : ((⟨#[115, 101, 99, 114, 101, 116]⟩ : ByteArray) ++ itoaS s ++ ⟨#[47]⟩ ++ t).size ≤ 2000000 := by
    rw [app_size, app_size, app_size]
    have h1 : (⟨#[47]⟩ : ByteArray).size = 1 := rfl
    have h2 : (⟨#[115, 101, 99, 114, 101, 116]⟩ : ByteArray).size = 6 := rfl
    omega
  have HP : Hid (dig 1 ((⟨#[115, 101, 99, 114, 101, 116]⟩ : ByteArray) ++ itoaS s ++ ⟨#[47]⟩ ++ t).data.toList = tagD s t) := by
    show _ = _
    rw [app_toList, app_toList, app_toList, dig_append, dig_append, dig_append, tagD_eq]
  go_wp2_with fail
  refine (specDigest_any _ _ (by omega)).mono ?_
  rw [HP.out]
  rintro e w2 ⟨rfl, rfl⟩
  go_wp2
  go_ret
  exact ⟨rfl, hw1⟩
theorem four_rd (w : World) (a b c d : ByteArray) : RdS (w.alloc (.cells #[.string a, .string b, .string c, .string d] 9)) (.slice (some ⟨w.heap.size, 0, none⟩) 4 4) [a, b, c, d] := by
  refine ⟨_, _, rfl, by simp, by unfold maxLen; omega, .inr ⟨w.heap.size, 0, rfl, fun i hi => ?_⟩⟩
  match i, hi with
  | 0, _ => simp
  | 1, _ => simp
  | 2, _ => simp
  | 3, _ => simp
set_option maxHeartbeats 400000 in
set_option maxRecDepth 100000 in
theorem implTag_any (s : Int) (t : ByteArray) (w : World) (ht : t.size ≤ 1048576) :
    Calls Tryz.prog 233 #[.int .i64 s, .string t] w fun e w' => e = .returned (.int .i64 (tag s t)) ∧ Below w.heap.size w w' := by
  by_cases hs0 : s < 0
  · rw [tag_out t (.inl hs0)]
    go_enter Tryz.func233, Tryz.ntmps233
    go_wp2
    go_ret
    exact ⟨rfl, Below.refl _ _⟩
  by_cases hs1 : 6 < s
  · rw [tag_out t (.inr hs1)]
    go_enter Tryz.func233, Tryz.ntmps233
    go_wp2
    go_ret
    exact ⟨rfl, Below.refl _ _⟩
  rw [tag_in t (by omega) (by omega)]
  obtain ⟨n, rfl⟩ := Int.eq_ofNat_of_zero_le (show 0 ≤ s by omega)
  go_enter Tryz.func233, Tryz.ntmps233
  go_wp2_with fail
  refine (fmt_small n _ (by omega)).mono ?_
  rintro e w1 ⟨rfl, rfl⟩
  have hsz := itoaS_size (n : Int) (by omega) (by omega)
  have HS : Hid (∀ x ∈ [secretB, itoaS (n : Int), ⟨#[47]⟩, t], x.size ≤ 1099511627776) := by
    intro x hx
    simp only [List.mem_cons, List.not_mem_nil, or_false] at hx
    rcases hx with rfl | rfl | rfl | rfl
    · decide
    · omega
    · decide
    · omega
  have HB : Hid (Below w1.heap.size w1 (w1.alloc (.cells #[.string secretB, .string (itoaS n), .string ⟨#[47]⟩, .string t] 9))) := (Below.refl _ _).alloc (Nat.le_refl _) _
  go_wp2_with fail
  refine (withEachText_any 1 _ [secretB, itoaS (n : Int), ⟨#[47]⟩, t] _ (by omega) (four_rd w1 _ _ _ _) HS.out).mono ?_
  rintro e w2 ⟨rfl, hb2⟩
  have hb := HB.out.trans (hb2.mono HB.out.size)
  clear hb2
  go_wp2
  go_ret
  exact ⟨rfl, hb⟩
/-- Is the tag that Tag, and not -1? -/
def sgn (s : Int) (t : ByteArray) (x : Int) : Bool := decide (0 ≤ s ∧ s ≤ 6 ∧ x = (tagD s t : Int))
end Go.Proofs.YtilhaokiohbeeaaGreatDoor
