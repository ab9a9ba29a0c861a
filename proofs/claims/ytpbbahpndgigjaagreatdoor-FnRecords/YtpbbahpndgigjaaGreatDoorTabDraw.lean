/- The draw of a table. -/
import Derived.Test.YtpbbahpndgigjaaGreatDoorG39
import Derived.Deep.DeepCutAuto
namespace Go.Proofs.YtpbbahpndgigjaaGreatDoor
set_option maxHeartbeats 16000000
set_option maxRecDepth 100000
open Go.RowKit
theorem l1From_any (w0 w : World) (g : Nat) (lo hi : Int) (h : DCur w0 w g) (h0 : lo ≤ hi) (h1 : -1000000 ≤ lo) (h2 : hi ≤ 1000000) :
    Calls Tryz.prog 67 #[.pointer (some ⟨g, 0, none⟩), .int .i64 lo, .int .i64 hi] w fun e w' => ∃ x : Int, e = .returned (.int .i64 x) ∧ lo ≤ x ∧ x ≤ hi ∧ DCur w0 w' g ∧ w.grownBy w' (some g) := by
  go_enter Tryz.func67, Tryz.ntmps67
  go_wp2_with fail
  refine (l1Below_any w0 _ g _ h (by omega) (by omega)).mono ?_
  rintro e w1 ⟨x, rfl, hx0, hx1, hc, hg⟩
  go_wp2
  go_ret
  exact ⟨_, rfl, by omega, by omega, hc, hg⟩
theorem l5DrawAny_any (w0 w : World) (g : Nat) (h : DCur w0 w g) :
    Calls Tryz.prog 68 #[.pointer (some ⟨g, 0, none⟩)] w fun e w' => TabD w0 w g e w' := by
  have hgl := h.lt
  have hz := boxT_new w ⟨#[]⟩ ⟨#[]⟩ (.slice none 0 0) (.slice none 0 0)
  have hc1 := h.alloc (.cells #[.string ⟨#[]⟩, .string ⟨#[]⟩, .slice none 0 0, .slice none 0 0] 95)
  have hg1 := gr_alloc (gr_refl w (some g)) (.cells #[.string ⟨#[]⟩, .string ⟨#[]⟩, .slice none 0 0, .slice none 0 0] 95)
  go_enter Tryz.func68, Tryz.ntmps68
  go_wp2_with fail
  refine (l3DrawFrom_gen _ _ g 1 20 hc1 (by omega) (by omega) (by omega)).mono ?_
  rintro e w2 ⟨vL, es, rfl, ho2, hl2, hsm, hc2, hg2⟩
  have hz2 := hz.block (hg2.block _ hz.lt (by simp; omega))
  have hr2 := ho2.rd
  have hw2 := gr_trans hg1 hg2
  have HS : Hid (∀ x ∈ es, Small x) := hsm
  clear hsm hz hc1 hg1 ho2 hg2 h
  obtain ⟨aL, cL, hvL, hL1, hL2, _⟩ := id hr2
  subst hvL
  go_upto_if 9 with fail
  go_cut [3] (fun v W => ∃ fs : List Ent, RdE W v fs ∧ 0 < fs.length ∧ fs.length ≤ 20 ∧ Hid (∀ x ∈ fs, Small x) ∧ BoxT W w.heap.size ⟨#[]⟩ ⟨#[]⟩ (.slice none 0 0) (.slice none 0 0) ∧ DCur w0 W g ∧ w.grownBy W (some g))
  case first =>
    by_cases hn : es.length = 0
    · have hd : decide ((es.length : Int) = 0) = true := by simp [hn]
      have e0 : EntAt (w2.alloc (.cells #[.string ⟨#[113]⟩, .string ⟨#[]⟩, .int .i64 2, .bool false] 71)) w2.heap.size 0 ⟨⟨#[113]⟩, ⟨#[]⟩, 2, false⟩ := ⟨by simp [World.cell?_alloc_at], by simp [World.cell?_alloc_at], by simp [World.cell?_alloc_at], by simp [World.cell?_alloc_at]⟩
      have hzA := hz2.below (below1 w2 (.cells #[.string ⟨#[113]⟩, .string ⟨#[]⟩, .int .i64 2, .bool false] 71))
      have hcA := hc2.alloc (.cells #[.string ⟨#[113]⟩, .string ⟨#[]⟩, .int .i64 2, .bool false] 71)
      have hgA := gr_alloc hw2 (.cells #[.string ⟨#[113]⟩, .string ⟨#[]⟩, .int .i64 2, .bool false] 71)
      go_wp2
      go_meet
      case rel =>
        refine ⟨[⟨⟨#[113]⟩, ⟨#[]⟩, 2, false⟩], ⟨_, _, rfl, Nat.le_refl _, by decide, (fun e => by cases e), .inr ⟨_, 0, rfl, fun i hi => ?_⟩⟩, by decide, by decide, ?_, hzA, hcA, hgA⟩
        · obtain rfl : i = 0 := by simp at hi; omega
          exact e0
        · show ∀ x ∈ _, _
          intro x hx
          simp at hx
          subst hx
          exact ⟨by decide, by decide, by decide, by decide⟩
    · have hd : decide ((es.length : Int) = 0) = false := by simp; intro e; simp [e] at hn
      go_wp2
      go_meet
      case rel => exact ⟨es, hr2, by omega, hl2, HS, hz2, hc2, hw2⟩
  case rest =>
    obtain ⟨fs, hr3, hp3, hl3, HS3, hz3, hc3, hw3⟩ := hcut
    clear hr2 HS hz2 hc2 hw2
    have HPK : Hid (∀ e ∈ fs, PkE e) := fun e he => (HS3.out e he).pk
    go_wp2_with fail
    refine (l5Built_any _ fs _ hr3 HPK.out (by omega) hp3).mono ?_
    rintro e w4 ⟨vb, vk, rfl, hi4, hk4, hb4⟩
    have hz4 := hz3.below hb4
    have hc4 := hc3.below hb4
    have hw4 := gr_below hw3 hb4
    have hwl : w.heap.size < wc.heap.size := hz3.lt
    have HB0 : Hid (0 < (builtT fs).bits.length) := bitsL_pos hp3
    have HB1 : Hid ((builtT fs).bits.length ≤ 40) := by have := bitsL_len fs; show (bitsL fs).length ≤ 40; omega
    have HK0 : Hid (0 < (builtT fs).blocks.length) := blksL_pos hp3
    have HK1 : Hid (∀ s ∈ (builtT fs).blocks, s.size ≤ 20000) := blksL_size HPK.out
    generalize builtT fs = T at hi4 hk4 HB0 HB1 HK0 HK1 ⊢
    clear hr3 HS3 hz3 hc3 hw3 hb4 HPK hp3 hl3
    generalize wc.heap.size = B at hi4 hk4 hwl
    rcases id hi4.2 with ⟨_, h0⟩ | ⟨gb, cb, _, rfl, hgb, _⟩
    · have := HB0.out; omega
    rcases id hk4.2 with ⟨_, h0⟩ | ⟨gk, ck, _, rfl, hgk, _, hnk, hck, _⟩
    · have := HK0.out; omega
    have hT5 := boxT_new w4 T.first T.last (.slice (some ⟨gb, 0, none⟩) T.bits.length cb) (.slice (some ⟨gk, 0, none⟩) T.blocks.length ck)
    have bl := below1 w4 (.cells #[.string T.first, .string T.last, .slice (some ⟨gb, 0, none⟩) T.bits.length cb, .slice (some ⟨gk, 0, none⟩) T.blocks.length ck] 95)
    have hz5 := hz4.below bl
    have hc5 := hc4.below bl
    have hw5 := gr_below hw4 bl
    have hi5 := hi4.below bl
    have hk5 := hk4.below bl
    have hwl4 := hz4.lt
    have hgk4 : gk < w4.heap.size := (World.ownsRow.lt hk4 gk rfl).2
    clear bl hz4 hc4 hw4 hi4 hk4
    go_wp2_with fail
    generalize w4.alloc (.cells #[.string T.first, .string T.last, .slice (some ⟨gb, 0, none⟩) T.bits.length cb, .slice (some ⟨gk, 0, none⟩) T.blocks.length ck] 95) = W5 at hT5 hz5 hc5 hw5 hi5 hk5 ⊢
    refine (l1Once_any _ _ g 12 hc5 (by omega) (by omega)).mono ?_
    rintro e w6 ⟨b, rfl, hc6, hg6⟩
    have hz6 := hz5.block (hg6.block _ hz5.lt (by simp; omega))
    have hT6 := hT5.block (hg6.block _ hT5.lt (by simp; omega))
    have hi6 := ownI_g hi5 hg6 (by omega)
    have hk6 := ownS_g hk5 hg6 (by omega)
    have hw6 := gr_trans hw5 hg6
    clear hz5 hT5 hc5 hi5 hk5 hw5 hg6
    go_upto_if 15 with fail
    go_cut [] (fun W => ∃ (f l : ByteArray) (ns : List Int) (ss : List ByteArray) (ab ak : Option Addr) (cb ck : Nat), BoxT W w4.heap.size f l (.slice ab ns.length cb) (.slice ak ss.length ck) ∧ OwnI W B (.slice ab ns.length cb) ns ∧ YS W B (.slice ak ss.length ck) ss ∧ Hid (∀ s ∈ ss, s.size ≤ 1000000) ∧ BoxT W w.heap.size ⟨#[]⟩ ⟨#[]⟩ (.slice none 0 0) (.slice none 0 0) ∧ DCur w0 W g ∧ w.grownBy W (some g))
    case first =>
      cases b with
      | false =>
        go_wp2
        go_meet
        case rel => exact ⟨_, _, _, _, _, _, _, _, hT6, hi6, hk6.young, fun s hs => Nat.le_trans (HK1.out s hs) (by omega), hz6, hc6, hw6⟩
      | true =>
        go_wp2_with fail
        refine (l1Below_any _ _ g 4 hc6 (by omega) (by omega)).mono ?_
        rintro e w7 ⟨x, rfl, hx0, hx1, hc7, hg7⟩
        have hz7 := hz6.block (hg7.block _ hz6.lt (by simp; omega))
        have hT7 := hT6.block (hg7.block _ hT6.lt (by simp; omega))
        have hi7 := ownI_g hi6 hg7 (by omega)
        have hk7 := ownS_g hk6 hg7 (by omega)
        have hw7 := gr_trans hw6 hg7
        clear hz6 hT6 hc6 hi6 hk6 hw6 hg7
        obtain rfl | rfl | rfl | rfl : x = 0 ∨ x = 1 ∨ x = 2 ∨ x = 3 := by omega
        · skip
          go_wp2_with fail
          refine (l3DrawKey_any _ _ g hc7).mono ?_
          rintro e w8 ⟨key, rfl, hks, hc8, hg8⟩
          have hz8 := hz7.block (hg8.block _ hz7.lt (by simp; omega))
          have hT8 := hT7.block (hg8.block _ hT7.lt (by simp; omega))
          have hi8 := ownI_g hi7 hg8 (by omega)
          have hk8 := ownS_g hk7 hg8 (by omega)
          have hw8 := gr_trans hw7 hg8
          clear hz7 hT7 hc7 hi7 hk7 hw7 hg8
          obtain ⟨c0, c1, c2, c3, f0, f1, f2, f3⟩ := hT8.facts
          have nb := boxT_row hT8 hi8 (by decide)
          have nk := boxT_row hT8 hk8 (by decide)
          go_wp2
          go_meet
          case rel => exact ⟨_, _, _, _, _, _, _, _, boxT_set0 hT8, row_set hi8 nb, OwnS.young (row_set hk8 nk), fun s hs => Nat.le_trans (HK1.out s hs) (by omega), boxT_other hz8 (by omega), hc8.set (by omega), gr_set hw8 (by omega)⟩
        · skip
          go_wp2_with fail
          refine wp_region_noPanic ?_
          refine wp_region_held_drew (S := fun _ => True) (by kernel_rfl) trivial (fun hH => ?_)
          have qT : BoxT w7.drew _ _ _ _ _ := hT7
          have qz : BoxT w7.drew _ _ _ _ _ := hz7
          have qi : OwnI w7.drew _ _ _ := hi7
          have qk : OwnS w7.drew _ _ _ := hk7
          have qc : DCur w0 w7.drew g := hc7.drewN 1
          have qw : w.grownBy w7.drew (some g) := gr_drewN hw7 1
          clear hT7 hz7 hi7 hk7 hc7 hw7 hH
          revert qT qz qi qk qc qw
          generalize w7.drew = W0
          intro qT qz qi qk qc qw
          have hH : True := trivial
          refine tkA 0 25 hH ?_; try simp only [Act.put, sA, sZ, sS]
          refine tkA 2 27 hH ?_; try simp only [Act.put, sA, sZ, sS]
          obtain ⟨c0, c1, c2, c3, f0, f1, f2, f3⟩ := qT.facts
          refine wpAnyH_ready (rs := [1, 3]) (by kernel_rfl) (by simp) ?_
          refine AllReadyH.cons rfl (fun K hK => ?_) ?_
          · go_simp
            refine hK.out _ _ trivial (fun hH => ?_)
            clear hK K
            try simp only [Act.put, sA, sZ, sS]
            refine wpAnyH_ready (rs := [3]) (by kernel_rfl) (by simp) ?_
            refine AllReadyH.cons rfl (fun K hK => ?_) AllReadyH.nil
            go_simp
            refine (l1From_any _ _ g (-1) 257 qc (by omega) (by omega) (by omega)).mono ?_
            rintro e w8 ⟨y, rfl, hy0, hy1, hc8, hg8⟩
            have hz8 := qz.block (hg8.block _ qz.lt (by simp; omega))
            have hT8 := qT.block (hg8.block _ qT.lt (by simp; omega))
            have hi8 := ownI_g qi hg8 (by omega)
            have hk8 := ownS_g qk hg8 (by omega)
            have hw8 := gr_trans qw hg8
            refine hK.out _ _ trivial (fun hH => ?_)
            clear hK K
            try simp only [Act.put, sA, sZ, sS]
            clear qT qz qi qk qc qw hg8 c0 c1 c2 c3 f0 f1 f2 f3
            refine wpAnyH_ready (rs := [4]) (by kernel_rfl) (by simp) ?_
            refine AllReadyH.cons rfl (fun K hK => ?_) AllReadyH.nil
            go_simp
            refine (l5Put_any gb cb T.bits y B w8 hi8 (by have := HB1.out; omega) (by have := hT8.lt; omega)).mono ?_
            rintro e w9 ⟨u9, rfl, hi9, hb9⟩
            have hz9 := hz8.below hb9
            have hT9 := hT8.below hb9
            have hk9 := hk8.below hb9
            have hc9 := hc8.below hb9
            have hw9 := gr_below hw8 hb9
            obtain ⟨a9, k9, rfl, _⟩ := id hi9.rd
            clear hz8 hT8 hi8 hk8 hc8 hw8 hb9
            refine hK.out _ _ trivial (fun hH => ?_)
            clear hK K
            try simp only [Act.put, sA, sZ, sS]
            refine tkA 5 30 hH ?_; try simp only [Act.put, sA, sZ, sS]
            obtain ⟨c0, c1, c2, c3, f0, f1, f2, f3⟩ := hT9.facts
            have nb := boxT_row hT9 hi9 (by decide)
            have nk := boxT_row hT9 hk9 (by decide)
            refine wpAnyH_ready (rs := [6]) (by kernel_rfl) (by simp) ?_
            refine AllReadyH.cons rfl (fun K hK => ?_) AllReadyH.nil
            go_simp
            refine hK.out _ _ trivial (fun hH => ?_)
            clear hK K
            try simp only [Act.put, sA, sZ, sS]
            refine wpAnyH_done (by kernel_rfl) ?_ _
            refine NoPanic.normal ?_
            go_wp2
            go_meet
            case rel => exact ⟨_, _, _, _, _, _, _, _, boxT_set2 hT9, row_set hi9 nb, OwnS.young (row_set hk9 nk), fun s hs => Nat.le_trans (HK1.out s hs) (by omega), boxT_other hz9 (by omega), hc9.set (by omega), gr_set hw9 (by omega)⟩
          · refine AllReadyH.cons rfl (fun K hK => ?_) AllReadyH.nil
            go_simp
            refine (l1From_any _ _ g (-1) 257 qc (by omega) (by omega) (by omega)).mono ?_
            rintro e w8 ⟨y, rfl, hy0, hy1, hc8, hg8⟩
            have hz8 := qz.block (hg8.block _ qz.lt (by simp; omega))
            have hT8 := qT.block (hg8.block _ qT.lt (by simp; omega))
            have hi8 := ownI_g qi hg8 (by omega)
            have hk8 := ownS_g qk hg8 (by omega)
            have hw8 := gr_trans qw hg8
            refine hK.out _ _ trivial (fun hH => ?_)
            clear hK K
            try simp only [Act.put, sA, sZ, sS]
            obtain ⟨_, _, d2, _⟩ := hT8.facts
            refine wpAnyH_ready (rs := [1]) (by kernel_rfl) (by simp) ?_
            refine AllReadyH.cons rfl (fun K hK => ?_) AllReadyH.nil
            go_simp
            refine hK.out _ _ trivial (fun hH => ?_)
            clear hK K d2
            try simp only [Act.put, sA, sZ, sS]
            clear qT qz qi qk qc qw hg8 c0 c1 c2 c3 f0 f1 f2 f3
            refine wpAnyH_ready (rs := [4]) (by kernel_rfl) (by simp) ?_
            refine AllReadyH.cons rfl (fun K hK => ?_) AllReadyH.nil
            go_simp
            refine (l5Put_any gb cb T.bits y B w8 hi8 (by have := HB1.out; omega) (by have := hT8.lt; omega)).mono ?_
            rintro e w9 ⟨u9, rfl, hi9, hb9⟩
            have hz9 := hz8.below hb9
            have hT9 := hT8.below hb9
            have hk9 := hk8.below hb9
            have hc9 := hc8.below hb9
            have hw9 := gr_below hw8 hb9
            obtain ⟨a9, k9, rfl, _⟩ := id hi9.rd
            clear hz8 hT8 hi8 hk8 hc8 hw8 hb9
            refine hK.out _ _ trivial (fun hH => ?_)
            clear hK K
            try simp only [Act.put, sA, sZ, sS]
            refine tkA 5 30 hH ?_; try simp only [Act.put, sA, sZ, sS]
            obtain ⟨c0, c1, c2, c3, f0, f1, f2, f3⟩ := hT9.facts
            have nb := boxT_row hT9 hi9 (by decide)
            have nk := boxT_row hT9 hk9 (by decide)
            refine wpAnyH_ready (rs := [6]) (by kernel_rfl) (by simp) ?_
            refine AllReadyH.cons rfl (fun K hK => ?_) AllReadyH.nil
            go_simp
            refine hK.out _ _ trivial (fun hH => ?_)
            clear hK K
            try simp only [Act.put, sA, sZ, sS]
            refine wpAnyH_done (by kernel_rfl) ?_ _
            refine NoPanic.normal ?_
            go_wp2
            go_meet
            case rel => exact ⟨_, _, _, _, _, _, _, _, boxT_set2 hT9, row_set hi9 nb, OwnS.young (row_set hk9 nk), fun s hs => Nat.le_trans (HK1.out s hs) (by omega), boxT_other hz9 (by omega), hc9.set (by omega), gr_set hw9 (by omega)⟩
        · skip
          have hk0 := HK0.out
          go_wp2_with fail
          obtain ⟨c0, c1, c2, c3, f0, f1, f2, f3⟩ := hT7.facts
          refine wp_region_noPanic ?_
          refine wp_region_held_drew (S := fun W => W.cell? ⟨w4.heap.size, 3, none⟩ = some (.slice (some ⟨gk, 0, none⟩) T.blocks.length ck)) (by kernel_rfl) c3 (fun hH => ?_)
          clear c0 c1 c2 c3 f0 f1 f2 f3
          have qT : BoxT w7.drew _ _ _ _ _ := hT7
          have qz : BoxT w7.drew _ _ _ _ _ := hz7
          have qi : OwnI w7.drew _ _ _ := hi7
          have qk : OwnS w7.drew _ _ _ := hk7
          have qc : DCur w0 w7.drew g := hc7.drewN 1
          have qw : w.grownBy w7.drew (some g) := gr_drewN hw7 1
          clear hT7 hz7 hi7 hk7 hc7 hw7
          revert hH qT qz qi qk qc qw
          generalize w7.drew = W0
          intro hH qT qz qi qk qc qw
          refine tkA 0 33 hH ?_; try simp only [Act.put, sA, sZ, sS]
          refine tkA 1 34 hH ?_; try simp only [Act.put, sA, sZ, sS]
          refine tkA 2 35 hH ?_; try simp only [Act.put, sA, sZ, sS]
          refine tkA 3 36 hH ?_; try simp only [Act.put, sA, sZ, sS]
          refine tkA 4 37 hH ?_; try simp only [Act.put, sA, sZ, sS]
          refine tkA 5 38 hH ?_; try simp only [Act.put, sA, sZ, sS]
          have hcell := (World.ownsRow.cellAt qk 0 (by omega)).trans (SV_get _ 0 hk0)
          have hs0 : (T.blocks[0]).size ≤ 20000 := HK1.out _ (List.getElem_mem hk0)
          generalize T.blocks[0] = s0 at hcell hs0
          refine wpAnyH_ready (rs := [6]) (by kernel_rfl) (by simp) ?_
          refine AllReadyH.cons rfl (fun K hK => ?_) AllReadyH.nil
          go_simp
          refine hK.out _ _ hH (fun hH => ?_)
          clear hK K
          try simp only [Act.put, sA, sZ, sS]
          clear hcell
          refine wpAnyH_ready (rs := [7]) (by kernel_rfl) (by simp) ?_
          refine AllReadyH.cons rfl (fun K hK => ?_) AllReadyH.nil
          go_simp
          refine (l1Bend_any _ _ g s0 ⟨#[0, 1, 8, 97]⟩ qc (by omega) (by decide) (by decide)).mono ?_
          rintro e w8 ⟨s8, rfl, hs8, hc8, hg8⟩
          have hz8 := qz.block (hg8.block _ qz.lt (by simp; omega))
          have hT8 := qT.block (hg8.block _ qT.lt (by simp; omega))
          have hi8 := ownI_g qi hg8 (by omega)
          have hk8 := ownS_g qk hg8 (by omega)
          have hw8 := gr_trans qw hg8
          have hS8 := hT8.facts.2.2.2.1
          clear qT qz qi qk qc qw hg8
          refine hK.out _ _ hS8 (fun hA => ?_)
          clear hK K
          try simp only [Act.put, sA, sZ, sS]
          refine tkA 8 41 hA ?_; try simp only [Act.put, sA, sZ, sS]
          have hcell := (World.ownsRow.cellAt hk8 0 (by omega)).trans (SV_get _ 0 hk0)
          have hfr := World.ownsRow.frozenAt hk8 0
          generalize T.blocks[0] = s1 at hcell
          have nk := boxT_row hT8 hk8 (by decide)
          have nz := boxT_row hz8 hk8 (by decide)
          have hgT : w4.heap.size ≠ gk := nk gk rfl
          have hgz : w.heap.size ≠ gk := nz gk rfl
          have hni : ∀ k, (Value.slice (some ⟨gb, 0, none⟩) T.bits.length cb).ownBlock = some k → gk ≠ k := fun k hk e => rows_apart hk8 hi8 (by decide) gk rfl (hk.trans (by rw [e]))
          have hT9 := boxT_other (j := 0) (u := .string s8) hT8 hgT
          have hS9 := hT9.facts.2.2.2.1
          refine wpAnyH_ready (rs := [9]) (by kernel_rfl) (by simp) ?_
          refine AllReadyH.cons rfl (fun K hK => ?_) AllReadyH.nil
          go_simp
          refine hK.out _ _ hS9 (fun hB => ?_)
          clear hK K
          try simp only [Act.put, sA, sZ, sS]
          refine wpAnyH_done (by kernel_rfl) ?_ _
          refine NoPanic.normal ?_
          have hl9 : (T.blocks.set 0 s8).length = T.blocks.length := List.length_set
          go_wp2
          go_meet
          case rel => exact ⟨_, _, _, T.blocks.set 0 s8, _, _, _, _, by rw [hl9]; exact hT9, row_set hi8 hni, OwnS.young (ownS_stored hk8 0 s8), set_sizes (fun s hs => Nat.le_trans (HK1.out s hs) (by omega)) (by omega), boxT_other hz8 hgz, hc8.set (by omega), gr_set hw8 (by omega)⟩
        · skip
          obtain ⟨c0, c1, c2, c3, f0, f1, f2, f3⟩ := hT7.facts
          have nb := boxT_row hT7 hi7 (by decide)
          have nk := boxT_row hT7 hk7 (by decide)
          have hk0 := HK0.out
          unfold maxLen at hck
          by_cases hc1 : ck = 1
          · subst hc1
            have hl1 : T.blocks.length = 1 := by omega
            go_wp2
            go_meet
            case rel => exact ⟨_, _, _, [], _, _, _, 0, boxT_set3 hT7, row_set hi7 nb, ⟨_, _, rfl, Nat.le_refl _, Nat.zero_le _, .inl rfl⟩, (fun s hs => by cases hs), boxT_other hz7 (by omega), hc7.set (by omega), gr_set hw7 (by omega)⟩
          · go_wp2
            go_meet
            case rel =>
              rw [show T.blocks.length - 1 = (T.blocks.drop 1).length by simp]
              exact ⟨_, _, _, _, _, _, _, _, boxT_set3 hT7, row_set hi7 nb, YS.tail2 (OwnS.young (row_set hk7 nk)) hk0 (by omega), fun s hs => Nat.le_trans (HK1.out s (List.mem_of_mem_drop hs)) (by omega), boxT_other hz7 (by omega), hc7.set (by omega), gr_set hw7 (by omega)⟩
    case rest =>
      obtain ⟨f, l, ns, ss, ab, ak, cb', ck', hT7, hi7, hk7, HS7, hz7, hc7, hw7⟩ := hcut
      clear hT6 hi6 hk6 hz6 hc6 hw6
      obtain ⟨c0, c1, c2, c3, _⟩ := hT7.facts
      obtain ⟨z0, z1, z2, z3, f0, f1, f2, f3⟩ := hz7.facts
      have z8 := boxT_set4 (f' := f) (l' := l) (vb' := .slice ab ns.length cb') (vk' := .slice ak ss.length ck') hz7
      obtain ⟨x0, x1, x2, x3, _⟩ := z8.facts
      have nb := boxT_row hz7 hi7 (by decide)
      clear hT7
      go_wp2
      exact bodyPost_ret (v := .agg #[.string f, .string l, .slice ab ns.length cb', .slice ak ss.length ck']) (by simp [results, Tryz.results68, go_sem, x0, x1, x2, x3]) rfl ⟨⟨f, l, ns, ss⟩, _, _, rfl, OwnI.mono (row_set (row_set (row_set (row_set hi7 nb) nb) nb) nb) (by omega), ((((hk7.set hwl).set hwl).set hwl).set hwl).mono (by omega), HS7.out, (((hc7.set hgl).set hgl).set hgl).set hgl, gr_set (gr_set (gr_set (gr_set hw7 (Nat.le_refl _)) (Nat.le_refl _)) (Nat.le_refl _)) (Nat.le_refl _)⟩
end Go.Proofs.YtpbbahpndgigjaaGreatDoor
