/- Whatever code it is called with, laws.FnTexts returns true and its argument reads as before: texts are read from what they are written as and from no part of it, by the program as by the model. No condition. -/
import Derived.Test.YtbldoeadmnepkaaRows
import Derived.Test.YtbldoeadmnepkaaLawHelp
import Derived.Test.YtbldoeadmnepkaaDrawOut
import Derived.Test.YtbldoeadmnepkaaRdTexts
import Derived.Test.YtbldoeadmnepkaaMath
import Derived.Deep.RegionWith
import Derived.ProofKit
import Derived.OpenShut
import Derived.ShutString
import Derived.ChangeOld
namespace Go.Proofs.Ytbldoeadmnepkaa
open Go.ChangeShapes Go.WideShapes Go.ChangeAt Go.RowKit
theorem Wr.rd {w : World} {B : Nat} {v : Value} {ys : List UInt8} (h : Wr w B v ys) : Rd w v ys := by
  rcases h with ⟨rfl, rfl⟩ | ⟨g, cap, rfl, _, h1, h2, _, h4⟩
  · exact ⟨none, 0, rfl, Nat.le_refl _, Nat.zero_le _, .inl rfl⟩
  · exact ⟨some ⟨g, 0, none⟩, cap, rfl, h1, h2, .inr ⟨g, 0, rfl, fun i hi => by rw [Nat.zero_add]; exact (h4 i hi).1⟩⟩
theorem Wr.below {w w' : World} {B : Nat} {v : Value} {ys : List UInt8} (h : Wr w B v ys) (hb : Below w.heap.size w w') : Wr w' B v ys := by
  rcases h with h | ⟨g, cap, hv, hB, h1, h2, h3, h4⟩
  · exact .inl h
  · exact .inr ⟨g, cap, hv, hB, h1, h2, by have := hb.size; omega, fun i hi => ⟨(hb.cell (p := ⟨g, i, none⟩) h3).trans (h4 i hi).1, (hb.frozen (p := ⟨g, i, none⟩) h3).trans (h4 i hi).2⟩⟩
theorem fin_small (bs : List UInt8) (ss : List ByteArray) (ok : Bool) (h : fin bs (rdAll bs) = (ss, ok)) : ∀ s ∈ ss, s.size ≤ 3000 := by
  cases ok with
  | false => have := fin_no bs ss h; subst this; intro s hs; cases hs
  | true =>
    cases hr : rdAll bs with
    | none => rw [hr] at h; cases h
    | some r =>
      rw [hr] at h
      unfold fin at h
      simp only at h
      by_cases hl : r.2 = bs.length
      · rw [if_pos hl] at h
        obtain ⟨h1, _⟩ := Prod.mk.inj h
        subst h1
        unfold rdAll at hr
        by_cases hc : (rdNum bs).2 = 0 ∨ 200 < (rdNum bs).1
        · rw [if_pos hc] at hr; cases hr
        · rw [if_neg hc] at hr
          obtain ⟨ss, h1, _, h3, _⟩ := rdAcc_back bs _ _ _ r hr (rdNum_len bs).1
          rw [List.nil_append] at h1
          rw [h1]
          exact h3
      · rw [if_neg hl] at h; cases h
theorem rd_prefix {w : World} {g cap k : Nat} {T : List UInt8} (h : Rd w (.slice (some ⟨g, 0, none⟩) T.length cap) T) (hk : k < T.length) : Rd w (.slice (some ⟨g, 0, none⟩) k cap) (T.take k) := by
  obtain ⟨a, cap', hv, h1, h2, h3⟩ := h
  cases hv
  have hl : (T.take k).length = k := by rw [List.length_take]; omega
  refine ⟨some ⟨g, 0, none⟩, cap, by rw [hl], by omega, h2, ?_⟩
  rcases h3 with h | ⟨b, off, ha, hc⟩
  · subst h; simp at hk
  · cases ha
    refine .inr ⟨g, 0, rfl, fun i hi => ?_⟩
    rw [hl] at hi
    rw [List.getElem_take]
    exact hc i (by omega)
theorem ownS_shape {w : World} {B : Nat} {v : Value} {ss : List ByteArray} (h : OwnS w B v ss) : ∃ a cap, v = .slice a ss.length cap := by
  obtain ⟨a, cap, hv, _⟩ := h.rd
  exact ⟨a, cap, hv⟩
set_option maxHeartbeats 8000000 in
set_option maxRecDepth 100000 in
theorem lawTexts (v : Value) (bs : List UInt8) (w : World) (hr : Rd w v bs) :
    Calls Try.prog 4 #[v] w fun e w' => e = .returned (.bool true) ∧ Below w.heap.size w w' := by
  by_cases hbig : 4096 < bs.length
  · have hd : decide (4096 < (bs.length : Int)) = true := by simp; omega
    have HC : Hid (Calls _ _ _ _ _) := big_any v bs w hr
    rw [hd] at HC
    clear hd hr
    go_enter Try.func4, Try.ntmps4
    go_wp2_with fail
    refine HC.out.mono ?_
    rintro e w1 ⟨rfl, rfl⟩
    go_wp2
    go_ret
    exact ⟨rfl, Below.refl _ _⟩
  have hd : decide (4096 < (bs.length : Int)) = false := by simp; omega
  have HC : Hid (Calls _ _ _ _ _) := big_any v bs w hr
  rw [hd] at HC
  clear hd
  have hb4 : bs.length ≤ 4096 := by omega
  go_enter Try.func4, Try.ntmps4
  go_wp2_with fail
  refine HC.out.mono ?_
  rintro e w0 ⟨rfl, rfl⟩
  clear HC
  go_wp2_with fail
  refine (drawTexts_any v bs _ hr hb4).mono ?_
  rintro e w1 ⟨vl, ss, rfl, hl1, hlen, hsz, b1⟩
  have HI : Hid (∀ u W, RdS W u ss → Calls Try.prog 19 #[u] W fun e W' => ∃ t, e = .returned t ∧ Own W' W.heap.size t (textsOf ss) ∧ Below W.heap.size W W') := fun u W h => implTexts_any u ss W h (fun s hs => by have := hsz s hs; omega)
  have HS : Hid (∀ u W, RdS W u ss → Calls Try.prog 24 #[u] W fun e W' => ∃ t, e = .returned t ∧ Own W' W.heap.size t (textsOf ss) ∧ Below W.heap.size W W') := fun u W h => specTexts_any u ss W h (fun s hs => by have := hsz s hs; omega)
  have HRt : Hid (textsOf ss ≠ [] → ∀ u W, Rd W u (textsOf ss) → Calls Try.prog 21 #[u] W fun e W' => TextsPost W (ss, true) e W') := fun h u W hu => by have := implReadTexts_any u _ W hu; rwa [fin_texts ss h] at this
  have HRp : Hid (∀ j, j < (textsOf ss).length → ∀ u W, Rd W u ((textsOf ss).take j) → Calls Try.prog 21 #[u] W fun e W' => TextsPost W ([], false) e W') := fun j hj u W hu => by have := implReadTexts_any u _ W hu; rwa [fin_part ss j hj] at this
  have hTl := textsOf_len ss
  generalize textsOf ss = T at HI HS HRt HRp hTl
  clear hsz hlen
  go_wp2_with fail
  refine (HI.out _ _ hl1.rd).mono ?_
  rintro e w2 ⟨vb, rfl, ht2, hb2⟩
  have b2 := b1.trans (hb2.mono b1.size)
  have hl2 := hl1.below hb2
  clear hl1 hb2
  go_wp2_with fail
  refine (drawReadTexts_any v bs _ (hr.below b2) hb4).mono ?_
  rintro e w3 ⟨vd, ys, rfl, hd3, hys, hb3⟩
  have b3 := b2.trans (hb3.mono b2.size)
  have hl3 := hl2.below hb3
  have ht3 := ht2.below hb3
  clear hl2 ht2 hb3
  have HRI : Hid (∀ u W bs', Rd W u bs' → Calls Try.prog 21 #[u] W fun e W' => TextsPost W (fin bs' (rdAll bs')) e W') := fun u W bs' h => implReadTexts_any u bs' W h
  have HRS : Hid (∀ u W, Rd W u ys → Calls Try.prog 22 #[u] W fun e W' => TextsPost W (fin ys (rdAll ys)) e W') := fun u W h => specReadTexts_any u ys W h
  obtain ⟨F, hF⟩ : ∃ F, fin ys (rdAll ys) = F := ⟨_, rfl⟩
  have HRI2 : Hid (∀ u W, Rd W u ys → Calls Try.prog 21 #[u] W fun e W' => TextsPost W F e W') := fun u W h => by rw [← hF]; exact HRI.out u W ys h
  rw [hF] at HRS
  obtain ⟨ms, ok⟩ := F
  have Hno : Hid (ok = false → ms = []) := fun e => fin_no ys ms (by rw [hF, e])
  have Hyes : Hid (ok = true → textsOf ms = ys) := fun e => fin_back ys ms (by rw [hF, e])
  have Hsm : Hid (∀ s ∈ ms, s.size ≤ 3000) := fin_small ys ms ok hF
  clear hF
  go_wp2_with fail
  refine (HRI2.out _ _ hd3.rd).mono ?_
  rintro e w4 ⟨vm, rfl, hm4, hb4'⟩
  have b4 := b3.trans (hb4'.mono b3.size)
  have hl4 := hl3.below hb4'
  have ht4 := ht3.below hb4'
  have hd4 := hd3.below hb4'
  clear hl3 ht3 hd3 hb4'
  go_wp2_with fail
  refine (HRS.out _ _ hd4.rd).mono ?_
  rintro e w5 ⟨vx, rfl, hx5, hb5⟩
  have b5 := b4.trans (hb5.mono b4.size)
  have hl5 := hl4.below hb5
  have ht5 := ht4.below hb5
  have hd5 := hd4.below hb5
  have hm5 := hm4.below hb5
  clear hl4 ht4 hd4 hm4 hb5 HRI2 HRS
  have hok : (ok != ok) = false := by cases ok <;> rfl
  have hcv0 := conv_own ht5
  have hcv1 : (convert 22 9 vb).run Try.prog w5.drew = .ok (.string ⟨T.toArray⟩) w5.drew := conv_own (show Own w5.drew _ vb _ from ht5)
  have hcv2 : ∀ q, (convert 22 9 vb).run Try.prog (w5.drewN q) = .ok (.string ⟨T.toArray⟩) (w5.drewN q) := fun q => conv_own (ht5.drewN q)
  go_wp2
  go_region_with (first
    | (go_at_call 23; refine (like_same _ _ ms _ (by exact hm5.rd) (by exact hx5.rd)).mono ?_; rintro e w' ⟨rfl, q, rfl⟩)
    | (go_at_call 24; refine (HS.out _ _ (by exact hl5.rd)).mono ?_; rintro e w6 ⟨t, rfl, ht6, hb6⟩; have hcvt := conv_own ht6; have hcvb : (convert 22 9 vb).run Try.prog w6 = .ok (.string ⟨T.toArray⟩) w6 := conv_own (Own.below (by exact ht5) hb6)))
  all_goals
    have b6 := (below_drewN b5 _).trans (hb6.mono (by simpa using b5.size))
    have hl6 : OwnS w6 _ vl ss := OwnS.below (by exact hl5) hb6
    have ht6b : Own w6 _ vb T := Own.below (by exact ht5) hb6
    have hd6 : Wr w6 _ vd ys := Wr.below (by exact hd5) hb6
    have hm6 : OwnS w6 _ vm ms := OwnS.below (by exact hm5) hb6
    clear hcv0 hcv1 hcv2 hcvt hcvb hl5 ht5 hd5 hm5 hx5 hb6 ht6 b5
    by_cases hT : T = []
    · obtain ⟨ab, cb, hvb, _⟩ := ht6b.rd
      subst hT
      subst hvb
      clear ht6b hl6 HRt HRp HI HS HRI
      go_wp2
      have HIm : Hid (ok = true → ∀ u W, RdS W u ms → Calls Try.prog 19 #[u] W fun e W' => ∃ t, e = .returned t ∧ Own W' W.heap.size t ys ∧ Below W.heap.size W W') := fun e u W h => by have := implTexts_any u ms W h (fun s hs => by have := Hsm.out s hs; omega); rwa [Hyes.out e] at this
      have hdz : Wr (w6) w2.heap.size vd ys := by exact hd6
      have hmz : OwnS (w6) w3.heap.size vm ms := by exact hm6
      have bz : Below w0.heap.size w0 (w6) := b6
      clear hd6 hm6
      cases ok
      · have hms := Hno.out rfl
        subst hms
        obtain ⟨am, cm, hvm⟩ := ownS_shape hmz
        subst hvm
        clear hdz HIm Hyes Hno Hsm hmz
        go_quiet (fail)
        go_wp2
        go_ret
        exact ⟨rfl, below_drewN bz _⟩
      · have HIy : Hid (∀ u W, RdS W u ms → Calls Try.prog 19 #[u] W fun e W' => ∃ t, e = .returned t ∧ Own W' W.heap.size t ys ∧ Below W.heap.size W W') := HIm.out rfl
        have hcd1 : (convert 22 9 vd).run Try.prog (w6.drew) = .ok (.string ⟨ys.toArray⟩) (w6.drew) := Wr.conv (show Wr (w6.drew) w2.heap.size vd ys from hdz)
        clear HIm Hyes Hno Hsm
        refine wp_region_any (by kernel_rfl) ?_
        change wpAny _ _ _ _ _ _ _ (World.drew _)
        refine wpAny_take (i := 0) (v := .bool true) rfl (by kernel_rfl) (by kernel_rfl) (by kernel_rfl) (fun _ _ _ h => h) (Or.inl ⟨by kernel_rfl, by intro w; go_simp⟩) ?_
        refine wpAny_take (i := 1) (v := .bool false) rfl (by kernel_rfl) (by kernel_rfl) (by kernel_rfl) (fun _ _ _ h => h) (Or.inl ⟨by kernel_rfl, by intro w; go_simp⟩) ?_
        refine wpAny_take (i := 2) (v := .bool false) rfl (by kernel_rfl) (by kernel_rfl) (by kernel_rfl) (fun _ _ _ h => h) (Or.inl ⟨by kernel_rfl, by intro w; go_simp⟩) ?_
        refine wpAny_take (i := 3) (v := undef) rfl (by kernel_rfl) (by kernel_rfl) (by kernel_rfl) (fun _ _ _ h => h) (Or.inr ⟨by kernel_rfl, rfl⟩) ?_
        refine wpAny_take (i := 4) (v := undef) rfl (by kernel_rfl) (by kernel_rfl) (by kernel_rfl) (fun _ _ _ h => h) (Or.inr ⟨by kernel_rfl, rfl⟩) ?_
        refine wpAny_take (i := 5) (v := undef) rfl (by kernel_rfl) (by kernel_rfl) (by kernel_rfl) (fun _ _ _ h => h) (Or.inr ⟨by kernel_rfl, rfl⟩) ?_
        refine wpAny_take (i := 6) (v := .bool false) rfl (by kernel_rfl) (by kernel_rfl) (by kernel_rfl) (fun _ _ _ h => h) (Or.inl ⟨by kernel_rfl, by intro w; go_simp⟩) ?_
        refine wpAny_take (i := 7) (v := .bool false) rfl (by kernel_rfl) (by kernel_rfl) (by kernel_rfl) (fun _ _ _ h => h) (Or.inl ⟨by kernel_rfl, by intro w; go_simp⟩) ?_
        refine wpAny_take (i := 8) (v := .bool true) rfl (by kernel_rfl) (by kernel_rfl) (by kernel_rfl) (fun _ _ _ h => h) (Or.inl ⟨by kernel_rfl, by intro w; go_simp⟩) ?_
        refine wpAny_take (i := 9) (v := .bool true) rfl (by kernel_rfl) (by kernel_rfl) (by kernel_rfl) (fun _ _ _ h => h) (Or.inl ⟨by kernel_rfl, by intro w; go_simp⟩) ?_
        refine wpAny_take (i := 10) (v := vm) rfl (by kernel_rfl) (by kernel_rfl) (by kernel_rfl) (fun _ _ _ h => h) (Or.inl ⟨by kernel_rfl, by intro w; go_simp⟩) ?_
        refine wpAny_take (i := 13) (v := vd) rfl (by kernel_rfl) (by kernel_rfl) (by kernel_rfl) (fun _ _ _ h => h) (Or.inl ⟨by kernel_rfl, by intro w; go_simp⟩) ?_
        refine wpAny_ready (rs := [11, 14]) (by kernel_rfl) (by simp) ?_
        refine AllReady.cons rfl (fun K hK => ?_) (AllReady.cons rfl (fun K hK => ?_) AllReady.nil)
        · go_simp
          go_wp2_with (go_at_call 19; refine (HIy.out _ _ (by exact hmz.rd)).mono ?_; rintro e w11 ⟨t11, rfl, ht11, hb11⟩; have hcvt := conv_own ht11; have hcvd : (convert 22 9 vd).run Try.prog w11 = .ok (.string ⟨ys.toArray⟩) w11 := Wr.conv (Wr.below (by exact hdz) hb11))
          first | (refine hK _ _ ?_; clear hK K) | skip
          refine wpAny_ready (rs := [12, 14]) (by kernel_rfl) (by simp) ?_
          refine AllReady.cons rfl (fun K hK => ?_) (AllReady.cons rfl (fun K hK => ?_) AllReady.nil)
          · go_simp
            refine hK _ _ ?_
            clear hK K
            refine wpAny_ready (rs := [14]) (by kernel_rfl) (by simp) ?_
            refine AllReady.cons rfl (fun K hK => ?_) AllReady.nil
            go_simp
            refine hK _ _ ?_
            clear hK K
            refine wpAny_take (i := 15) (v := .bool true) rfl (by kernel_rfl) (by kernel_rfl) (by kernel_rfl) (fun _ _ _ h => h) (Or.inl ⟨by kernel_rfl, by intro w; go_simp⟩) ?_
            refine wpAny_take (i := 16) (v := .bool true) rfl (by kernel_rfl) (by kernel_rfl) (by kernel_rfl) (fun _ _ _ h => h) (Or.inl ⟨by kernel_rfl, by intro w; go_simp⟩) ?_
            refine wpAny_take (i := 17) (v := .bool true) rfl (by kernel_rfl) (by kernel_rfl) (by kernel_rfl) (fun _ _ _ h => h) (Or.inl ⟨by kernel_rfl, by intro w; go_simp⟩) ?_
            refine wpAny_take (i := 18) (v := .bool true) rfl (by kernel_rfl) (by kernel_rfl) (by kernel_rfl) (fun _ _ _ h => h) (Or.inl ⟨by kernel_rfl, by intro w; go_simp⟩) ?_
            refine wpAny_done (by kernel_rfl) ?_ _
            have b11 := (below_drewN bz 1).trans (hb11.mono (by simpa using bz.size))
            clear hcd1 hcvt hcvd ht11 hb11 hdz hmz
            go_wp2
            go_ret
            exact ⟨rfl, b11⟩
          · go_simp
            refine hK _ _ ?_
            clear hK K
            refine wpAny_ready (rs := [12]) (by kernel_rfl) (by simp) ?_
            refine AllReady.cons rfl (fun K hK => ?_) AllReady.nil
            go_simp
            refine hK _ _ ?_
            clear hK K
            refine wpAny_take (i := 15) (v := .bool true) rfl (by kernel_rfl) (by kernel_rfl) (by kernel_rfl) (fun _ _ _ h => h) (Or.inl ⟨by kernel_rfl, by intro w; go_simp⟩) ?_
            refine wpAny_take (i := 16) (v := .bool true) rfl (by kernel_rfl) (by kernel_rfl) (by kernel_rfl) (fun _ _ _ h => h) (Or.inl ⟨by kernel_rfl, by intro w; go_simp⟩) ?_
            refine wpAny_take (i := 17) (v := .bool true) rfl (by kernel_rfl) (by kernel_rfl) (by kernel_rfl) (fun _ _ _ h => h) (Or.inl ⟨by kernel_rfl, by intro w; go_simp⟩) ?_
            refine wpAny_take (i := 18) (v := .bool true) rfl (by kernel_rfl) (by kernel_rfl) (by kernel_rfl) (fun _ _ _ h => h) (Or.inl ⟨by kernel_rfl, by intro w; go_simp⟩) ?_
            refine wpAny_done (by kernel_rfl) ?_ _
            have b11 := (below_drewN bz 1).trans (hb11.mono (by simpa using bz.size))
            clear hcd1 hcvt hcvd ht11 hb11 hdz hmz
            go_wp2
            go_ret
            exact ⟨rfl, b11⟩
        · go_simp
          refine hK _ _ ?_
          clear hK K
          refine wpAny_ready (rs := [11]) (by kernel_rfl) (by simp) ?_
          refine AllReady.cons rfl (fun K hK => ?_) AllReady.nil
          go_simp
          go_wp2_with (go_at_call 19; refine (HIy.out _ _ (by exact hmz.rd)).mono ?_; rintro e w11 ⟨t11, rfl, ht11, hb11⟩; have hcvt := conv_own ht11; have hcvd : (convert 22 9 vd).run Try.prog w11 = .ok (.string ⟨ys.toArray⟩) w11 := Wr.conv (Wr.below (by exact hdz) hb11))
          first | (refine hK _ _ ?_; clear hK K) | skip
          refine wpAny_ready (rs := [12]) (by kernel_rfl) (by simp) ?_
          refine AllReady.cons rfl (fun K hK => ?_) AllReady.nil
          go_simp
          refine hK _ _ ?_
          clear hK K
          refine wpAny_take (i := 15) (v := .bool true) rfl (by kernel_rfl) (by kernel_rfl) (by kernel_rfl) (fun _ _ _ h => h) (Or.inl ⟨by kernel_rfl, by intro w; go_simp⟩) ?_
          refine wpAny_take (i := 16) (v := .bool true) rfl (by kernel_rfl) (by kernel_rfl) (by kernel_rfl) (fun _ _ _ h => h) (Or.inl ⟨by kernel_rfl, by intro w; go_simp⟩) ?_
          refine wpAny_take (i := 17) (v := .bool true) rfl (by kernel_rfl) (by kernel_rfl) (by kernel_rfl) (fun _ _ _ h => h) (Or.inl ⟨by kernel_rfl, by intro w; go_simp⟩) ?_
          refine wpAny_take (i := 18) (v := .bool true) rfl (by kernel_rfl) (by kernel_rfl) (by kernel_rfl) (fun _ _ _ h => h) (Or.inl ⟨by kernel_rfl, by intro w; go_simp⟩) ?_
          refine wpAny_done (by kernel_rfl) ?_ _
          have b11 := (below_drewN bz 1).trans (hb11.mono (by simpa using bz.size))
          clear hcd1 hcvt hcvd ht11 hb11 hdz hmz
          go_wp2
          go_ret
          exact ⟨rfl, b11⟩
    · obtain ⟨gb, cb, hvb, _⟩ := own_some ht6b hT
      have hTp : 0 < T.length := List.length_pos_iff.2 hT
      have HRt' := HRt.out hT
      have HRth : Hid (∀ u W, Rd W u T → Calls Try.prog 21 #[u] W fun e W' => TextsPost W (ss, true) e W') := HRt'
      clear hT HRt HRt'
      subst hvb
      go_wp2_with fail
      refine (HRth.out _ _ ht6b.rd).mono ?_
      rintro e w7 ⟨vr, rfl, hr7, hb7⟩
      have b7 := b6.trans (hb7.mono b6.size)
      have hl7 := hl6.below hb7
      have ht7 := ht6b.below hb7
      have hd7 := hd6.below hb7
      have hm7 := hm6.below hb7
      clear hl6 ht6b hd6 hm6 hb7 b6
      go_wp2_with fail
      refine (pick_any v bs _ _ (hr.below b7) hb4 (by omega) (by omega)).mono ?_
      rintro e w8 ⟨rfl, x, rfl, hx0, hx1⟩
      obtain ⟨k, rfl⟩ := Int.eq_ofNat_of_zero_le hx0
      have hk : k < T.length := by omega
      obtain ⟨_, cap', hcb, hcb1, hcb2, _⟩ := ht7.rd
      have hcc : k ≤ cb := by cases hcb; omega
      clear hcb hcb1 hcb2
      go_wp2_with fail
      refine (HRp.out k hk _ _ (rd_prefix ht7.rd hk)).mono ?_
      rintro e w9 ⟨vp, rfl, hp9, hb9⟩
      have b9 := b7.trans (hb9.mono b7.size)
      have hl9 := hl7.below hb9
      have hd9 := hd7.below hb9
      have hm9 := hm7.below hb9
      have hr9 := hr7.below hb9
      clear hl7 ht7 hd7 hm7 hr7 hb9 b7 hp9
      go_wp2_with fail
      refine (like_same _ _ ss _ hr9.rd hl9.rd).mono ?_
      rintro e w10 ⟨rfl, q10, rfl⟩
      go_wp2
      clear HRth HRp hr9 hl9 HI HS HRI
      have HIm : Hid (ok = true → ∀ u W, RdS W u ms → Calls Try.prog 19 #[u] W fun e W' => ∃ t, e = .returned t ∧ Own W' W.heap.size t ys ∧ Below W.heap.size W W') := fun e u W h => by have := implTexts_any u ms W h (fun s hs => by have := Hsm.out s hs; omega); rwa [Hyes.out e] at this
      have hdz : Wr (w9.drewN q10) w2.heap.size vd ys := by exact hd9
      have hmz : OwnS (w9.drewN q10) w3.heap.size vm ms := by exact hm9
      have bz : Below w0.heap.size w0 (w9.drewN q10) := below_drewN b9 q10
      clear hd9 hm9
      cases ok
      · have hms := Hno.out rfl
        subst hms
        obtain ⟨am, cm, hvm⟩ := ownS_shape hmz
        subst hvm
        clear hdz HIm Hyes Hno Hsm hmz
        go_quiet (fail)
        go_wp2
        go_ret
        exact ⟨rfl, below_drewN bz _⟩
      · have HIy : Hid (∀ u W, RdS W u ms → Calls Try.prog 19 #[u] W fun e W' => ∃ t, e = .returned t ∧ Own W' W.heap.size t ys ∧ Below W.heap.size W W') := HIm.out rfl
        have hcd1 : (convert 22 9 vd).run Try.prog (w9.drewN (q10 + 1)) = .ok (.string ⟨ys.toArray⟩) (w9.drewN (q10 + 1)) := Wr.conv (show Wr (w9.drewN (q10 + 1)) w2.heap.size vd ys from hdz)
        clear HIm Hyes Hno Hsm
        refine wp_region_any (by kernel_rfl) ?_
        change wpAny _ _ _ _ _ _ _ (World.drew _)
        refine wpAny_take (i := 0) (v := .bool true) rfl (by kernel_rfl) (by kernel_rfl) (by kernel_rfl) (fun _ _ _ h => h) (Or.inl ⟨by kernel_rfl, by intro w; go_simp⟩) ?_
        refine wpAny_take (i := 1) (v := .bool false) rfl (by kernel_rfl) (by kernel_rfl) (by kernel_rfl) (fun _ _ _ h => h) (Or.inl ⟨by kernel_rfl, by intro w; go_simp⟩) ?_
        refine wpAny_take (i := 2) (v := .bool false) rfl (by kernel_rfl) (by kernel_rfl) (by kernel_rfl) (fun _ _ _ h => h) (Or.inl ⟨by kernel_rfl, by intro w; go_simp⟩) ?_
        refine wpAny_take (i := 3) (v := undef) rfl (by kernel_rfl) (by kernel_rfl) (by kernel_rfl) (fun _ _ _ h => h) (Or.inr ⟨by kernel_rfl, rfl⟩) ?_
        refine wpAny_take (i := 4) (v := undef) rfl (by kernel_rfl) (by kernel_rfl) (by kernel_rfl) (fun _ _ _ h => h) (Or.inr ⟨by kernel_rfl, rfl⟩) ?_
        refine wpAny_take (i := 5) (v := undef) rfl (by kernel_rfl) (by kernel_rfl) (by kernel_rfl) (fun _ _ _ h => h) (Or.inr ⟨by kernel_rfl, rfl⟩) ?_
        refine wpAny_take (i := 6) (v := .bool false) rfl (by kernel_rfl) (by kernel_rfl) (by kernel_rfl) (fun _ _ _ h => h) (Or.inl ⟨by kernel_rfl, by intro w; go_simp⟩) ?_
        refine wpAny_take (i := 7) (v := .bool false) rfl (by kernel_rfl) (by kernel_rfl) (by kernel_rfl) (fun _ _ _ h => h) (Or.inl ⟨by kernel_rfl, by intro w; go_simp⟩) ?_
        refine wpAny_take (i := 8) (v := .bool true) rfl (by kernel_rfl) (by kernel_rfl) (by kernel_rfl) (fun _ _ _ h => h) (Or.inl ⟨by kernel_rfl, by intro w; go_simp⟩) ?_
        refine wpAny_take (i := 9) (v := .bool true) rfl (by kernel_rfl) (by kernel_rfl) (by kernel_rfl) (fun _ _ _ h => h) (Or.inl ⟨by kernel_rfl, by intro w; go_simp⟩) ?_
        refine wpAny_take (i := 10) (v := vm) rfl (by kernel_rfl) (by kernel_rfl) (by kernel_rfl) (fun _ _ _ h => h) (Or.inl ⟨by kernel_rfl, by intro w; go_simp⟩) ?_
        refine wpAny_take (i := 13) (v := vd) rfl (by kernel_rfl) (by kernel_rfl) (by kernel_rfl) (fun _ _ _ h => h) (Or.inl ⟨by kernel_rfl, by intro w; go_simp⟩) ?_
        refine wpAny_ready (rs := [11, 14]) (by kernel_rfl) (by simp) ?_
        refine AllReady.cons rfl (fun K hK => ?_) (AllReady.cons rfl (fun K hK => ?_) AllReady.nil)
        · go_simp
          go_wp2_with (go_at_call 19; refine (HIy.out _ _ (by exact hmz.rd)).mono ?_; rintro e w11 ⟨t11, rfl, ht11, hb11⟩; have hcvt := conv_own ht11; have hcvd : (convert 22 9 vd).run Try.prog w11 = .ok (.string ⟨ys.toArray⟩) w11 := Wr.conv (Wr.below (by exact hdz) hb11))
          first | (refine hK _ _ ?_; clear hK K) | skip
          refine wpAny_ready (rs := [12, 14]) (by kernel_rfl) (by simp) ?_
          refine AllReady.cons rfl (fun K hK => ?_) (AllReady.cons rfl (fun K hK => ?_) AllReady.nil)
          · go_simp
            refine hK _ _ ?_
            clear hK K
            refine wpAny_ready (rs := [14]) (by kernel_rfl) (by simp) ?_
            refine AllReady.cons rfl (fun K hK => ?_) AllReady.nil
            go_simp
            refine hK _ _ ?_
            clear hK K
            refine wpAny_take (i := 15) (v := .bool true) rfl (by kernel_rfl) (by kernel_rfl) (by kernel_rfl) (fun _ _ _ h => h) (Or.inl ⟨by kernel_rfl, by intro w; go_simp⟩) ?_
            refine wpAny_take (i := 16) (v := .bool true) rfl (by kernel_rfl) (by kernel_rfl) (by kernel_rfl) (fun _ _ _ h => h) (Or.inl ⟨by kernel_rfl, by intro w; go_simp⟩) ?_
            refine wpAny_take (i := 17) (v := .bool true) rfl (by kernel_rfl) (by kernel_rfl) (by kernel_rfl) (fun _ _ _ h => h) (Or.inl ⟨by kernel_rfl, by intro w; go_simp⟩) ?_
            refine wpAny_take (i := 18) (v := .bool true) rfl (by kernel_rfl) (by kernel_rfl) (by kernel_rfl) (fun _ _ _ h => h) (Or.inl ⟨by kernel_rfl, by intro w; go_simp⟩) ?_
            refine wpAny_done (by kernel_rfl) ?_ _
            have b11 := (below_drewN bz 1).trans (hb11.mono (by simpa using bz.size))
            clear hcd1 hcvt hcvd ht11 hb11 hdz hmz
            go_wp2
            go_ret
            exact ⟨rfl, b11⟩
          · go_simp
            refine hK _ _ ?_
            clear hK K
            refine wpAny_ready (rs := [12]) (by kernel_rfl) (by simp) ?_
            refine AllReady.cons rfl (fun K hK => ?_) AllReady.nil
            go_simp
            refine hK _ _ ?_
            clear hK K
            refine wpAny_take (i := 15) (v := .bool true) rfl (by kernel_rfl) (by kernel_rfl) (by kernel_rfl) (fun _ _ _ h => h) (Or.inl ⟨by kernel_rfl, by intro w; go_simp⟩) ?_
            refine wpAny_take (i := 16) (v := .bool true) rfl (by kernel_rfl) (by kernel_rfl) (by kernel_rfl) (fun _ _ _ h => h) (Or.inl ⟨by kernel_rfl, by intro w; go_simp⟩) ?_
            refine wpAny_take (i := 17) (v := .bool true) rfl (by kernel_rfl) (by kernel_rfl) (by kernel_rfl) (fun _ _ _ h => h) (Or.inl ⟨by kernel_rfl, by intro w; go_simp⟩) ?_
            refine wpAny_take (i := 18) (v := .bool true) rfl (by kernel_rfl) (by kernel_rfl) (by kernel_rfl) (fun _ _ _ h => h) (Or.inl ⟨by kernel_rfl, by intro w; go_simp⟩) ?_
            refine wpAny_done (by kernel_rfl) ?_ _
            have b11 := (below_drewN bz 1).trans (hb11.mono (by simpa using bz.size))
            clear hcd1 hcvt hcvd ht11 hb11 hdz hmz
            go_wp2
            go_ret
            exact ⟨rfl, b11⟩
        · go_simp
          refine hK _ _ ?_
          clear hK K
          refine wpAny_ready (rs := [11]) (by kernel_rfl) (by simp) ?_
          refine AllReady.cons rfl (fun K hK => ?_) AllReady.nil
          go_simp
          go_wp2_with (go_at_call 19; refine (HIy.out _ _ (by exact hmz.rd)).mono ?_; rintro e w11 ⟨t11, rfl, ht11, hb11⟩; have hcvt := conv_own ht11; have hcvd : (convert 22 9 vd).run Try.prog w11 = .ok (.string ⟨ys.toArray⟩) w11 := Wr.conv (Wr.below (by exact hdz) hb11))
          first | (refine hK _ _ ?_; clear hK K) | skip
          refine wpAny_ready (rs := [12]) (by kernel_rfl) (by simp) ?_
          refine AllReady.cons rfl (fun K hK => ?_) AllReady.nil
          go_simp
          refine hK _ _ ?_
          clear hK K
          refine wpAny_take (i := 15) (v := .bool true) rfl (by kernel_rfl) (by kernel_rfl) (by kernel_rfl) (fun _ _ _ h => h) (Or.inl ⟨by kernel_rfl, by intro w; go_simp⟩) ?_
          refine wpAny_take (i := 16) (v := .bool true) rfl (by kernel_rfl) (by kernel_rfl) (by kernel_rfl) (fun _ _ _ h => h) (Or.inl ⟨by kernel_rfl, by intro w; go_simp⟩) ?_
          refine wpAny_take (i := 17) (v := .bool true) rfl (by kernel_rfl) (by kernel_rfl) (by kernel_rfl) (fun _ _ _ h => h) (Or.inl ⟨by kernel_rfl, by intro w; go_simp⟩) ?_
          refine wpAny_take (i := 18) (v := .bool true) rfl (by kernel_rfl) (by kernel_rfl) (by kernel_rfl) (fun _ _ _ h => h) (Or.inl ⟨by kernel_rfl, by intro w; go_simp⟩) ?_
          refine wpAny_done (by kernel_rfl) ?_ _
          have b11 := (below_drewN bz 1).trans (hb11.mono (by simpa using bz.size))
          clear hcd1 hcvt hcvd ht11 hb11 hdz hmz
          go_wp2
          go_ret
          exact ⟨rfl, b11⟩
theorem own_fnTexts : ownKnob Try.prog.godebug = none := by kernel_rfl
theorem laidOut_fnTexts : laidOutB Try.prog = true := by kernel_rfl
set_option maxRecDepth 100000 in
theorem lifted_fnTexts (os : Os) (started : os.Started) (H : Type) (enc : TypeId × Value → H) :
    ReturnsInHanded {} Try.checked os 4 .any (Rows.fnTextsSpec.pre6 enc Try.prog Try.f4 Rows.fnTextsRow.domain false) (Rows.fnTextsSpec.post enc Try.prog Try.f4 false true false false) := by
  refine returnsInHanded_of_change (C := Try.checked) own_fnTexts started (by kernel_rfl) Try.func4
    (ChangeSpec.witness6 (enc := enc) (C := Try.checked) false ⟨#[], #[.slice none 0 0], []⟩ 8 (by kernel_rfl) (by kernel_rfl) (by kernel_rfl) (by kernel_rfl)) ?_
  intro W base args ds gs before hval0 hW hcnd _
  have hval : ∀ (j : Nat) t v, Try.f4.params[j]? = some t → args[j]? = some v → Value.okWide Try.prog W .any base t v := hval0
  have hW' := hW
  obtain ⟨p, q, hA0, hV, rfl, hfz, hnd⟩ := hW
  have hA : DataW.TrodAll enc Try.prog W 0 (fun _ => true) true Try.f4.params.toList args.toList ds p := hA0
  rw [Try.params4] at hA hval
  obtain ⟨v0, vs0, d0, ds0, p0, q0, hargs, rfl, rfl, h0, r0⟩ := trodAll_cons hA
  obtain ⟨rfl, rfl, rfl⟩ := trodAll_nil r0
  obtain rfl : args = #[v0] := by cases args; simp_all
  obtain ⟨rfl, rfl⟩ := trodVars_none hV
  obtain ⟨a0, len0, cap0, rfl⟩ := okWide_slice Try.underlying22 (hval 0 22 v0 rfl rfl)
  have k0 := h0
  have lt0 : ∀ x ∈ p0, x.block < W.heap.size := by obtain ⟨m, hm⟩ := k0; exact DataW.trod_lt m _ _ _ hm
  obtain ⟨bs, hr⟩ : ∃ bs, Rd W (.slice a0 len0 cap0) bs := by
    obtain ⟨fuel, hf⟩ := h0
    rcases open_ints Try.underlying22 Try.underlying5 (by kernel_rfl) hf with ⟨hcs, _⟩ | ⟨x, l, c, zs, hcs, _, hl, hm, hz, _, hcell, hwz⟩
    · simp [Value.cells] at hcs
      obtain ⟨rfl, rfl, rfl⟩ := hcs
      exact ⟨[], rd_nil W⟩
    · simp [Value.cells] at hcs
      obtain ⟨rfl, rfl, rfl⟩ := hcs
      exact rd_of hl hm (by simpa using hz) hcell hwz
  clear hA0 hval0
  refine (lawTexts _ bs W hr).mono fun e W' ⟨he, bel⟩ => ?_
  subst he
  exact ⟨_, rfl, _, _, _, [], _, [], hW', trodAll_mk1 (shut_bool Try.underlying4 _), (trodAll_cons_mk (Below.trod laidOut_fnTexts (by kernel_rfl) (of_decide_eq_true (by kernel_rfl)) k0 bel lt0) trodAll_mk0), rfl, bel.frame _, fun h => by cases h⟩
theorem over_fnTexts : Rows.fnTextsRow.holds Try.pinned (OpenSpec.ofChange Rows.fnTextsSpec) :=
  OpenClaim.holds_of_wide 4 Try.f4 rfl rfl rfl rfl rfl rfl rfl ⟨rfl, rfl, rfl, rfl, rfl⟩ rfl rfl rfl rfl rfl (by kernel_rfl) Try.func4 (by kernel_rfl)
    (of_decide_eq_true (by kernel_rfl)) (by unfold Func.isWrapper; first | (rw [if_pos (by decide +kernel)]; kernel_rfl) | (rw [if_neg (by decide +kernel)]; exact ⟨rfl, rfl⟩))
    (fun os started H enc _ => lifted_fnTexts os started H enc)
theorem fnTexts_holds : Rows.FnTextsSaid := over_fnTexts
#print axioms fnTexts_holds

end Go.Proofs.Ytbldoeadmnepkaa
