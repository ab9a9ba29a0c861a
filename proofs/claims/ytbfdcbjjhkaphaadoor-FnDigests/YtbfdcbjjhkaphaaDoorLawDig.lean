/- Whatever code it is called with, laws.FnDigests returns true and its argument reads as before. Condition: the three listed tables of the Go library hold what its text lays there (tied by the card). -/
import Derived.Test.YtbfdcbjjhkaphaaDoorRows
import Derived.Test.YtbfdcbjjhkaphaaDoorCards
import Derived.Test.YtbfdcbjjhkaphaaDoorTie
import Derived.Test.YtbfdcbjjhkaphaaDoorDrawDig
import Derived.Test.YtbfdcbjjhkaphaaDoorLaid
import Derived.ProofKit
import Derived.OpenShut
import Derived.ShutString
import Derived.ChangeOld
import Derived.LaidMore
import Derived.SevenTiedAt
import Derived.Stop.Joined
import Derived.BigQuiet
import Derived.Deep.RegionWith
namespace Go.Proofs.YtbfdcbjjhkaphaaDoor
open Go.ChangeShapes Go.WideShapes Go.ChangeAt Go.RowKit
open Go.ChangeMaps (open_string shut_string)
set_option maxHeartbeats 400000 in
set_option maxRecDepth 100000 in
theorem big_any (v : Value) (bs : List UInt8) (w : World) (hr : Rd w v bs) :
    Calls Tryd.prog 7 #[v] w fun e w' => e = .returned (.bool (decide (4096 < (bs.length : Int)))) ∧ w' = w := by
  obtain ⟨a, cap, rfl, hl, hm, _⟩ := hr
  unfold maxLen at hm
  go_enter Tryd.func7, Tryd.ntmps7
  go_wp2
  go_ret
  exact ⟨rfl, rfl⟩
theorem data_of_toList {a b : ByteArray} (h : a.toList = b.toList) : a.data.toList = b.data.toList := by rwa [ByteArray.toList_eq, ByteArray.toList_eq] at h
theorem clash_comm (a b : ByteArray) : clash a b = clash b a := by
  unfold clash
  simp only [eq_comm]
theorem clash_ways (a b : ByteArray) : (a.toList = b.toList ∧ clash a b = false ∧ ((dig 1 a.data.toList : Int) == (dig 1 b.data.toList : Int)) = true) ∨ (¬ a.toList = b.toList ∧ clash a b = true ∧ ((dig 1 a.data.toList : Int) == (dig 1 b.data.toList : Int)) = true) ∨ (¬ a.toList = b.toList ∧ clash a b = false ∧ ((dig 1 a.data.toList : Int) == (dig 1 b.data.toList : Int)) = false) := by
  rw [beq_dig]
  by_cases h : a.toList = b.toList
  · exact .inl ⟨h, clash_alike h, by rw [data_of_toList h]; simp⟩
  · rw [clash_other h]
    by_cases hd : dig 1 a.data.toList = dig 1 b.data.toList
    · exact .inr (.inl ⟨h, by simp [hd], by simp [hd]⟩)
    · exact .inr (.inr ⟨h, by simp [hd], by simp [hd]⟩)
theorem tag_ways (s : Int) (t : ByteArray) : tag s t = -1 ∨ (0 ≤ tag s t ∧ sgn s t (tag s t) = true) := by
  unfold tag sgn
  by_cases h : 0 ≤ s ∧ s ≤ 6
  · rw [if_pos h]
    exact .inr ⟨by omega, by simp [h.1, h.2]⟩
  · rw [if_neg h]; exact .inl rfl
theorem sgn_ways (x : Int) (y : ByteArray) (z : Int) : sgn x y z = false ∨ (sgn x y z = true ∧ tag x y = z) := by
  unfold tag sgn
  by_cases h : 0 ≤ x ∧ x ≤ 6 ∧ z = (tagD x y : Int)
  · exact .inr ⟨by simpa using h, by rw [if_pos ⟨h.1, h.2.1⟩, h.2.2]⟩
  · exact .inl (by simpa using h)
set_option maxHeartbeats 4000000 in
set_option maxRecDepth 100000 in
theorem lawDigests (v : Value) (bs : List UInt8) (w : World) (hr : Rd w v bs) (ht : Tab w) :
    Calls Tryd.prog 3 #[v] w fun e w' => e = .returned (.bool true) ∧ Below w.heap.size w w' := by
  by_cases hbig : 4096 < bs.length
  · have HB : Hid (decide (4096 < (bs.length : Int)) = true) := by show _ = _; simp; omega
    clear hbig
    go_enter Tryd.func3, Tryd.ntmps3
    go_wp2_with fail
    refine (big_any v bs _ hr).mono ?_
    rw [HB.out]
    rintro e w1 ⟨rfl, rfl⟩
    go_wp2
    go_ret
    exact ⟨rfl, Below.refl _ _⟩
  have hlen : bs.length ≤ 4096 := by omega
  have HB : Hid (decide (4096 < (bs.length : Int)) = false) := by show _ = _; simp; omega
  clear hbig
  go_enter Tryd.func3, Tryd.ntmps3
  go_wp2_with fail
  refine (big_any v bs _ hr).mono ?_
  rw [HB.out]
  rintro e w1 ⟨rfl, rfl⟩
  go_wp2_with fail
  refine (drawClash_any v bs _ hr hlen).mono ?_
  rintro e w2 ⟨a, b, rfl, ha, hb, b2⟩
  go_wp2_with fail
  refine (implClash_any a b _ (by omega) (by omega)).mono ?_
  rintro e w3 ⟨rfl, b3⟩
  have b13 := b2.trans (b3.mono b2.size)
  have hr3 := hr.below b13
  clear b2 b3
  go_wp2_with fail
  refine (drawTag_any v bs _ hr3 hlen).mono ?_
  rintro e w4 ⟨s, t, rfl, hts, b4⟩
  have b14 := b13.trans (b4.mono b13.size)
  clear b13 b4 hr3
  go_wp2_with fail
  refine (implTag_any s t _ (by omega)).mono ?_
  rintro e w5 ⟨rfl, b5⟩
  have b15 := b14.trans (b5.mono b14.size)
  have hr5 := hr.below b15
  clear b14 b5
  go_wp2_with fail
  refine (drawSigned_any v bs _ hr5 hlen).mono ?_
  rintro e w6 ⟨x, y, z, rfl, hys, b6⟩
  have b16 := b15.trans (b6.mono b15.size)
  have hr6 := hr.below b16
  clear b15 b6 hr5
  go_wp2_with fail
  refine (drawPair_any v bs _ hr6 hlen).mono ?_
  rintro e w7 ⟨p, q, rfl, hp, hq, b7⟩
  have b17 := b16.trans (b7.mono b16.size)
  have ht7 := ht.on b17
  clear b16 b7 hr6
  have hC : (clash a b != clash a b) = false := by simp
  have hT : (tag s t != tag s t) = false := by simp
  have hS : (sgn x y z != sgn x y z) = false := by simp
  have hP : ((pairD p q : Int) != (pairD p q : Int)) = false := by simp
  have hD : ((dig 1 a.data.toList : Int) != (dig 1 a.data.toList : Int)) = false := by simp
  generalize hEC : clash a b = C at hC
  have HC : Hid (clash a b = C) := hEC
  generalize hET : tag s t = T at hT
  have HT : Hid (tag s t = T) := hET
  generalize hES : sgn x y z = S at hS
  have HS : Hid (sgn x y z = S) := hES
  generalize hEP : pairD p q = P at hP
  have HP : Hid (pairD p q = P) := hEP
  generalize hED : dig 1 a.data.toList = D at hD
  have HD : Hid (dig 1 a.data.toList = D) := hED
  clear hEC hET hES hEP hED
  go_wp2_with fail
  refine (specClash_any a b _ (by omega) (by omega)).mono ?_
  rw [HC.out]
  rintro e w8 ⟨rfl, rfl⟩
  go_wp2_with fail
  refine (specTag_any s t _ (by omega)).mono ?_
  rw [HT.out]
  rintro e w9 ⟨rfl, b9⟩
  have b19 := b17.trans (b9.mono b17.size)
  clear b17 b9
  go_wp2_with fail
  refine (implSigned_any x y z _ (by omega)).mono ?_
  rw [HS.out]
  rintro e w10 ⟨rfl, b10⟩
  have b20 := b19.trans (b10.mono b19.size)
  clear b19 b10
  go_wp2_with fail
  refine (specSigned_any x y z _ (by omega)).mono ?_
  rw [HS.out]
  rintro e w11 ⟨rfl, b11⟩
  have b21 := b20.trans (b11.mono b20.size)
  have ht11 := ht.on b21
  clear b20 b11 ht7
  go_wp2_with fail
  refine (implPair_any p q _ hp.1 hp.2 hq.1 hq.2 ht11).mono ?_
  rw [HP.out]
  rintro e w12 ⟨rfl, b12⟩
  have b22 := b21.trans (b12.mono b21.size)
  clear b21 b12 ht11
  go_wp2_with fail
  refine (specPair_any p q _ hp.1 hp.2 hq.1 hq.2).mono ?_
  rw [HP.out]
  rintro e w13 ⟨rfl, b13⟩
  have b23 := b22.trans (b13.mono b22.size)
  clear b22 b13
  go_wp2_with fail
  refine (implDigest_any a _ (by omega)).mono ?_
  rw [HD.out]
  rintro e w14 ⟨rfl, b14⟩
  have b24 := b23.trans (b14.mono b23.size)
  clear b23 b14
  go_wp2_with fail
  refine (specDigest_any a _ (by omega)).mono ?_
  rw [HD.out]
  rintro e w15 ⟨rfl, rfl⟩
  have HDB : Hid (∃ DB, dig 1 b.data.toList = DB) := ⟨_, rfl⟩
  obtain ⟨DB, hDB⟩ := HDB.out
  have HDB2 : Hid (dig 1 b.data.toList = DB) := hDB
  have hCC : clash b a = C := by rw [← HC.out]; exact clash_comm b a
  have HCC : Hid (clash b a = C) := hCC
  have h3 : (a.toList = b.toList ∧ C = false ∧ ((D : Int) == (DB : Int)) = true) ∨ (¬ a.toList = b.toList ∧ C = true ∧ ((D : Int) == (DB : Int)) = true) ∨ (¬ a.toList = b.toList ∧ C = false ∧ ((D : Int) == (DB : Int)) = false) := by
    rw [← HC.out, ← HD.out, ← HDB2.out]
    exact clash_ways a b
  have h2 : T = -1 ∨ (0 ≤ T ∧ sgn s t T = true) := by rw [← HT.out]; exact tag_ways s t
  have h1 : S = false ∨ (S = true ∧ tag x y = z) := by rw [← HS.out]; exact sgn_ways x y z
  clear hDB HDB hCC hC hT hS hP hD HC HT HP ht
  rcases h3 with ⟨hab, rfl, hE⟩ | ⟨hab, rfl, hE⟩ | ⟨hab, rfl, hE⟩
  all_goals
    go_wp2_with fail
    refine (implDigest_any a _ (by omega)).mono ?_
    rw [HD.out]
    rintro e v24 ⟨rfl, c24⟩
    have b25 := b24.trans (c24.mono b24.size)
    clear b24 c24
    go_wp2_with fail
    refine (implDigest_any b _ (by omega)).mono ?_
    rw [HDB2.out]
    rintro e v25 ⟨rfl, c25⟩
    have b26 := b25.trans (c25.mono b25.size)
    clear b25 c25
    rcases h2 with rfl | ⟨hT0, hTS⟩
    · go_wp2_with fail
      refine (implSigned_any x y z _ (by omega)).mono ?_
      rw [HS.out]
      rintro e v26 ⟨rfl, c26⟩
      have b27 := b26.trans (c26.mono b26.size)
      clear b26 c26
      rcases h1 with rfl | ⟨rfl, hxy⟩
      · go_wp2_with fail
        refine (implClash_any b a _ (by omega) (by omega)).mono ?_
        rw [HCC.out]
        rintro e v27 ⟨rfl, c27⟩
        have b28 := b27.trans (c27.mono b27.size)
        clear b27 c27
        go_wp2
        go_ret
        first | exact ⟨rfl, b28⟩ | exact ⟨ret_bool (by simp [hab]), b28⟩
      · have hzz : (z == z) = true := by simp
        go_wp2_with fail
        refine (implTag_any x y _ (by omega)).mono ?_
        rw [hxy]
        rintro e v27 ⟨rfl, c27⟩
        have b28 := b27.trans (c27.mono b27.size)
        clear b27 c27
        go_wp2_with fail
        refine (implClash_any b a _ (by omega) (by omega)).mono ?_
        rw [HCC.out]
        rintro e v28 ⟨rfl, c28⟩
        have b29 := b28.trans (c28.mono b28.size)
        clear b28 c28
        go_wp2
        go_ret
        first | exact ⟨rfl, b29⟩ | exact ⟨ret_bool (by simp [hab]), b29⟩
    · go_wp2_with fail
      refine (implSigned_any s t T _ (by omega)).mono ?_
      rw [hTS]
      rintro e v26 ⟨rfl, c26⟩
      have b27 := b26.trans (c26.mono b26.size)
      clear b26 c26
      go_wp2_with fail
      refine (implSigned_any x y z _ (by omega)).mono ?_
      rw [HS.out]
      rintro e v27 ⟨rfl, c27⟩
      have b28 := b27.trans (c27.mono b27.size)
      clear b27 c27
      rcases h1 with rfl | ⟨rfl, hxy⟩
      · go_wp2_with fail
        refine (implClash_any b a _ (by omega) (by omega)).mono ?_
        rw [HCC.out]
        rintro e v28 ⟨rfl, c28⟩
        have b29 := b28.trans (c28.mono b28.size)
        clear b28 c28
        go_wp2
        go_ret
        first | exact ⟨rfl, b29⟩ | exact ⟨ret_bool (by simp [hab]), b29⟩
      · have hzz : (z == z) = true := by simp
        go_wp2_with fail
        refine (implTag_any x y _ (by omega)).mono ?_
        rw [hxy]
        rintro e v28 ⟨rfl, c28⟩
        have b29 := b28.trans (c28.mono b28.size)
        clear b28 c28
        go_wp2_with fail
        refine (implClash_any b a _ (by omega) (by omega)).mono ?_
        rw [HCC.out]
        rintro e v29 ⟨rfl, c29⟩
        have b30 := b29.trans (c29.mono b29.size)
        clear b29 c29
        go_wp2
        go_ret
        first | exact ⟨rfl, b30⟩ | exact ⟨ret_bool (by simp [hab]), b30⟩

theorem own_fnDigests : ownKnob Tryd.prog.godebug = none := by kernel_rfl
theorem laidOut_fnDigests : laidOutB Tryd.prog = true := by kernel_rfl
theorem door_fnDigests (os : Os) (args : Array Value) : laidMetH Tryd.prog Rows.fnDigestsRow.laid ((World.doorLaid Tryd.prog 400 os).forCall (fun _ _ => 0) ⟨#[], args, []⟩).memory :=
  laidMetH_of_parts3 (fuel := 8) (laidMet_of_run' 8 (by kernel_rfl) (by kernel_rfl)) (by kernel_rfl) (by kernel_rfl)
set_option maxRecDepth 100000 in
theorem lifted_fnDigests (os : Os) (started : os.Started) (H : Type) (enc : TypeId × Value → H) :
    ReturnsInHanded {} Tryd.checked os 3 .any (fun w args => (Rows.fnDigestsSpec.pre enc Tryd.prog Tryd.f3 [] false w args ∧ laidMetH Tryd.prog Rows.fnDigestsRow.laid w) ∧ sizedMet enc Tryd.prog Tryd.f3 (OpenSpec.ofChange Rows.fnDigestsSpec) false w args)
      (Rows.fnDigestsSpec.post enc Tryd.prog Tryd.f3 false true false false) := by
  refine returnsInHanded_of_change_and (C := Tryd.checked) (X := fun w _ => laidMetH Tryd.prog Rows.fnDigestsRow.laid w) (fun _ _ _ hh h => h.of_heap hh) own_fnDigests started (by kernel_rfl) Tryd.func3
    (ChangeSpec.witness_shaped (enc := enc) (C := Tryd.checked) (os := os) (X := fun w _ => laidMetH Tryd.prog Rows.fnDigestsRow.laid w) false (World.doorLaid Tryd.prog 400 os) #[.slice none 0 0] 8 rfl (World.shaped_of_RefB (by kernel_rfl) (by kernel_rfl)) (by kernel_rfl) (by kernel_rfl) (by kernel_rfl) (door_fnDigests os _)) ?_
  intro W base args ds gs before hval0 hW _ _ hL _
  have hval : ∀ (j : Nat) t v, Tryd.f3.params[j]? = some t → args[j]? = some v → Value.okWide Tryd.prog W .any base t v := hval0
  have hW' := hW
  obtain ⟨p, q, hA0, hV, rfl, hfz, hnd⟩ := hW
  have hA : DataW.TrodAll enc Tryd.prog W 0 (fun _ => true) true Tryd.f3.params.toList args.toList ds p := hA0
  rw [Tryd.params3] at hA hval
  obtain ⟨v0, vs0, d0, ds0, p0, q0, hargs, rfl, rfl, h0, r0⟩ := trodAll_cons hA
  obtain ⟨rfl, rfl, rfl⟩ := trodAll_nil r0
  obtain rfl : args = #[v0] := by cases args; simp_all
  obtain ⟨rfl, rfl⟩ := trodVars_none hV
  obtain ⟨a0, len0, cap0, rfl⟩ := okWide_slice Tryd.underlying22 (hval 0 22 v0 rfl rfl)
  have k0 := h0
  have lt0 : ∀ x ∈ p0, x.block < W.heap.size := by obtain ⟨m, hm⟩ := k0; exact DataW.trod_lt m _ _ _ hm
  obtain ⟨bs0, hr0⟩ : ∃ bs, Rd W (.slice a0 len0 cap0) bs := by
    obtain ⟨fuel, hf⟩ := h0
    rcases open_ints Tryd.underlying22 Tryd.underlying5 (by kernel_rfl) hf with ⟨hcs, _⟩ | ⟨x, l, c, zs, hcs, _, hl, hm, hz, _, hcell, hwz⟩
    · simp [Value.cells] at hcs
      obtain ⟨rfl, rfl, rfl⟩ := hcs
      exact ⟨[], rd_nil W⟩
    · simp [Value.cells] at hcs
      obtain ⟨rfl, rfl, rfl⟩ := hcs
      exact rd_of hl hm (by simpa using hz) hcell hwz
  have htab := tab_of_laid hL
  clear hA0 hval0
  refine (lawDigests _ bs0 W hr0 htab).mono fun e W' ⟨he, bel⟩ => ?_
  subst he
  exact ⟨_, rfl, _, _, _, [], _, [], hW', trodAll_mk1 (shut_bool Tryd.underlying4 _), (trodAll_cons_mk (Below.trod laidOut_fnDigests (by kernel_rfl) (of_decide_eq_true (by kernel_rfl)) k0 bel lt0) trodAll_mk0), rfl, bel.frame _, fun h => by cases h⟩
theorem over_fnDigests : Rows.fnDigestsRow.holds Tryd.pinned (OpenSpec.ofChange Rows.fnDigestsSpec) :=
  OpenClaim.holds_of_wide 3 Tryd.f3 rfl rfl rfl rfl rfl rfl rfl ⟨rfl, rfl, rfl, rfl, rfl⟩ rfl rfl rfl rfl rfl (by kernel_rfl) Tryd.func3 (by kernel_rfl)
    (of_decide_eq_true (by kernel_rfl)) (by unfold Func.isWrapper; first | (rw [if_pos (by decide +kernel)]; kernel_rfl) | (rw [if_neg (by decide +kernel)]; exact ⟨rfl, rfl⟩))
    (fun os started H enc _ => lifted_fnDigests os started H enc)
theorem fnDigests_holds : Rows.FnDigestsCardSaid :=
  Claim7.holds_tied_plain_at .later [] [.data, .data, .data] true Rows.fnDigestsCard.stood.harness false
    over_fnDigests (fun _ h => by cases h) (by kernel_rfl) (fun _ h => by cases h) fnDigests_row_tie rfl ⟨rfl, rfl⟩ (by kernel_rfl) rfl
    (fun f fn hf hfn => by
      obtain rfl : f = 3 := Option.some.inj ((show Tryd.prog.funcNamed "loop.example/g00217/laws.FnDigests" = some 3 by kernel_rfl).symm.trans hf) |>.symm
      obtain rfl : fn = Tryd.f3 := (Option.some.inj (Tryd.func3.symm.trans hfn)).symm
      exact ⟨by kernel_rfl, fun j t ht => by
        rw [Tryd.params3] at ht
        have hm : t ∈ [22] := by simpa using Array.mem_of_getElem? ht
        have hall : ([22].all fun u => !Tryd.prog.wantsStandIn u) = true := by kernel_rfl
        exact (show Tryd.prog.wantsStandIn t = false by simpa using List.all_eq_true.1 hall t hm)⟩)
    (by kernel_rfl)
#print axioms fnDigests_holds

end Go.Proofs.YtbfdcbjjhkaphaaDoor
