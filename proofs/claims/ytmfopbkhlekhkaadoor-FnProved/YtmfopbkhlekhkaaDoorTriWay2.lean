/- The contract of the program's Way. -/
-- UNF Gen
import Derived.Test.YtmfopbkhlekhkaaDoorTriWay
namespace Go.Proofs.YtmfopbkhlekhkaaDoor
open Go.RowKit
set_option maxHeartbeats 4000000 in
set_option maxRecDepth 100000 in
theorem implWay_any (v : Value) (es : List Lef) (p : Int) (w : World) (hr : RdL w v es) (ht : Tab w) :
    Calls Tryd.prog 20 #[v, .int .i64 p] w fun e w' => ∃ u, e = .returned u ∧ OwnI w' w.heap.size u (wayR es p) ∧ Below w.heap.size w w' := by
  have HP1 := fun W => trieAtOk_any p W
  cases hk : lefOk es with
  | false =>
    have RES : Hid (wayR es p = []) := by unfold Hid wayR; rw [hk]; simp
    have HL : ∀ u w', RdL w' u es → Calls Tryd.prog 22 #[u] w' fun e w'' => e = .returned (.bool false) ∧ Below w'.heap.size w' w'' := fun u w' h => by rw [← hk]; exact implLeavesOk_any u es w' h
    clear hk
    go_enter Tryd.func20, Tryd.ntmps20
    go_wp2_with (go_at_call 22; refine (HL _ _ hr).mono ?_; rintro e w1 ⟨rfl, hd1⟩)
    go_ret
    exact ⟨_, rfl, by rw [RES.out]; exact (ownI_none w1).mono hd1.size, hd1.alloc hd1.size _⟩
  | true =>
    have HO : Hid (LefOk es) := lefOk_iff.1 hk
    have HL : ∀ u w', RdL w' u es → Calls Tryd.prog 22 #[u] w' fun e w'' => e = .returned (.bool true) ∧ Below w'.heap.size w' w'' := fun u w' h => by rw [← hk]; exact implLeavesOk_any u es w' h
    by_cases hp : 0 ≤ p ∧ p ≤ 255
    · rw [show decide (0 ≤ p ∧ p ≤ 255) = true from decide_eq_true hp] at HP1
      have RES : Hid (wayR es p = wayL es p.toNat 8) := by unfold Hid wayR; rw [if_pos ⟨hk, hp.1, hp.2⟩]
      obtain ⟨A, rfl⟩ : ∃ A : Nat, p = (A : Int) := ⟨p.toNat, by omega⟩
      rw [Int.toNat_natCast] at RES
      have hA : A ≤ 255 := by omega
      clear hk hp
      go_enter Tryd.func20, Tryd.ntmps20
      go_wp2_with fail
      refine (HL _ _ hr).mono ?_
      rintro e w1 ⟨rfl, b1⟩
      go_wp2_with (go_at_call 37; refine (HP1 _).mono ?_; rintro e wa ⟨rfl, rfl⟩)
      refine (numbersOfEmpty_any _ (ht.on b1)).mono ?_
      rintro e w2 ⟨rfl, hb2⟩
      have b2 := b1.trans (hb2.mono b1.size)
      have qa := empA_new w2
      have ba := b2.trans ((below1 w2 (.cells #[.int .i64 (emp 0), .int .i64 (emp 1), .int .i64 (emp 2), .int .i64 (emp 3), .int .i64 (emp 4), .int .i64 (emp 5), .int .i64 (emp 6), .int .i64 (emp 7), .int .i64 (emp 8)] 77)).mono b2.size)
      have h2s := b2.size
      clear hb2 b1 b2 HL HP1
      unfold EArr
      have qa1 := qa.below (below1 _ (.cells #[] 2))
      have bb := ba.trans ((below1 (w2.alloc (.cells #[.int .i64 (emp 0), .int .i64 (emp 1), .int .i64 (emp 2), .int .i64 (emp 3), .int .i64 (emp 4), .int .i64 (emp 5), .int .i64 (emp 6), .int .i64 (emp 7), .int .i64 (emp 8)] 77)) (.cells #[] 2)).mono ba.size)
      have o1 := (ownI_none (w2.alloc (.cells #[.int .i64 (emp 0), .int .i64 (emp 1), .int .i64 (emp 2), .int .i64 (emp 3), .int .i64 (emp 4), .int .i64 (emp 5), .int .i64 (emp 6), .int .i64 (emp 7), .int .i64 (emp 8)] 77))).mono ba.size
      have hsz : (w2.alloc (.cells #[.int .i64 (emp 0), .int .i64 (emp 1), .int .i64 (emp 2), .int .i64 (emp 3), .int .i64 (emp 4), .int .i64 (emp 5), .int .i64 (emp 6), .int .i64 (emp 7), .int .i64 (emp 8)] 77)).heap.size = w2.heap.size + 1 := by simp
      rw [hsz] at o1
      obtain ⟨BX, hBX⟩ : ∃ BX, BX = w2.heap.size := ⟨_, rfl⟩
      have HBX : Hid (w.heap.size ≤ BX) := by unfold Hid; rw [hBX]; exact h2s
      rw [← hBX] at qa1 o1
      clear qa ba hsz
      go_wp2
      rw [← hBX]
      clear hBX h2s
      go_loopw [6, 20] (fun s6 s20 wr => ∃ (k : Nat) (u : Value), k ≤ 8 ∧ s6 = u ∧ s20 = .int .i64 k ∧ OwnI wr w.heap.size u (wayL es A k) ∧ ArrAt wr BX BX empA ∧ Below w.heap.size w wr) (fun _ s20 _ => 8 - (intOf s20).toNat)
      case atStart => exact ⟨0, _, by omega, rfl, rfl, o1, qa1, bb⟩
      case round =>
        obtain ⟨k, u, hk, rfl, rfl, ho, hq, hb⟩ := hrel
        clear o1 qa1 bb
        have hwl := wayL_len es A k
        have hr1 := hr.below hb
        have ht1 := ht.on hb
        obtain ⟨c0, c1, c2, c3, c4, c5, c6, c7, c8⟩ := hq.all
        have h8 : k = 0 ∨ k = 1 ∨ k = 2 ∨ k = 3 ∨ k = 4 ∨ k = 5 ∨ k = 6 ∨ k = 7 ∨ k = 8 := by omega
        rcases h8 with rfl | rfl | rfl | rfl | rfl | rfl | rfl | rfl | rfl
        · obtain ⟨j, hj⟩ : ∃ j, j = A ^^^ 1 := ⟨_, rfl⟩
          have hB255 : A ≤ 255 := by omega
          have hjl : A ^^^ 1 < 2 * 128 := xor1_lt (by omega)
          have hxor : bits .xor .i64 (A : Int) 1 = (j : Int) := by rw [hj]; exact xor1_bits A hB255
          have hjb : (j + 1) * 1 ≤ 256 := by rw [hj]; omega
          have hsl : IntKind.i64.wrap (j : Int) = (j : Int) := by rw [IntKind.wrap_i64]; omega
          have hpow : A / 2 ^ 0 ^^^ 1 = j := by
            rw [hj]; simp
          have HG : Hid (besL es A 0 = grp (fL es) 0 j) := by unfold Hid besL; rw [hpow]
          have e5 : Hid (wayL es A 1 = wayL es A 0 ++ [besL es A 0]) := wayL_succ es A 0
          rw [HG.out] at e5
          have HC := fun W h t => grpC0 j hjb v es W h HO.out t
          have HX := i64_small (grp_lo (fL_lo es) 0 j) (grp_hi (fL_hi es) 0 j)
          rw [Nat.mul_one] at HC
          clear HX hjl hjb hj hpow
          unfold EArr at HC
          generalize grp (fL es) 0 j = x at HC e5
          generalize wayL es A 0 = ys at ho e5 hwl
          have hyl : ys.length ≤ 8 := by omega
          clear HG hwl
          go_wp2_with fail
          refine wp_region_noPanic ?_
          refine wp_region_held_drew (S := fun w' => w'.cell? ⟨BX, 0, none⟩ = some (.int .i64 (emp 0)) ∧ w'.cell? ⟨BX, 1, none⟩ = some (.int .i64 (emp 1)) ∧ w'.cell? ⟨BX, 2, none⟩ = some (.int .i64 (emp 2)) ∧ w'.cell? ⟨BX, 3, none⟩ = some (.int .i64 (emp 3)) ∧ w'.cell? ⟨BX, 4, none⟩ = some (.int .i64 (emp 4)) ∧ w'.cell? ⟨BX, 5, none⟩ = some (.int .i64 (emp 5)) ∧ w'.cell? ⟨BX, 6, none⟩ = some (.int .i64 (emp 6)) ∧ w'.cell? ⟨BX, 7, none⟩ = some (.int .i64 (emp 7)) ∧ w'.cell? ⟨BX, 8, none⟩ = some (.int .i64 (emp 8))) (by kernel_rfl) ⟨c0, c1, c2, c3, c4, c5, c6, c7, c8⟩ (fun hH => ?_)
          have qo : OwnI wr.drew _ _ ys := ho.drewN 1
          have qq : ArrAt wr.drew BX BX empA := hq
          have qb := hb.drew
          have qr : RdL wr.drew v es := hr.below qb
          have qt := ht.on qb
          clear ho hq hb hr1 ht1 c0 c1 c2 c3 c4 c5 c6 c7 c8
          refine tkG 0 27 hH ?_
          try simp only [Act.put, List.setIfInBounds_toArray, List.set_cons_zero, List.set_cons_succ]
          refine tkG 1 28 hH ?_
          try simp only [Act.put, List.setIfInBounds_toArray, List.set_cons_zero, List.set_cons_succ]
          refine tkG 2 29 hH ?_
          try simp only [Act.put, List.setIfInBounds_toArray, List.set_cons_zero, List.set_cons_succ]
          refine tkG 3 30 hH ?_
          try simp only [Act.put, List.setIfInBounds_toArray, List.set_cons_zero, List.set_cons_succ]
          refine tkG 4 31 hH ?_
          try simp only [Act.put, List.setIfInBounds_toArray, List.set_cons_zero, List.set_cons_succ]
          refine tkG 5 32 hH ?_
          try simp only [Act.put, List.setIfInBounds_toArray, List.set_cons_zero, List.set_cons_succ]
          refine tkG 6 33 hH ?_
          try simp only [Act.put, List.setIfInBounds_toArray, List.set_cons_zero, List.set_cons_succ]
          refine wpAnyH_ready (rs := [7]) (by kernel_rfl) (by simp) ?_
          refine AllReadyH.cons rfl (fun K hK => ?_) AllReadyH.nil
          go_simp
          refine (HC _ qr qt).mono ?_
          rintro e w3 ⟨rfl, hb3⟩
          replace qo := qo.below hb3
          replace qq := qq.below hb3
          replace qb := qb.trans (hb3.mono qb.size)
          refine hK.out _ _ qq.all (fun hA => ?_)
          clear hK K
          try simp only [Act.put, List.setIfInBounds_toArray, List.set_cons_zero, List.set_cons_succ]
          have r3 := (ownI_one w3 x).rd
          have o3 := qo.below (below1 w3 (.cells #[.int .i64 x] 2))
          have q3 := qq.below (below1 w3 (.cells #[.int .i64 x] 2))
          have b3 := qb.trans ((below1 w3 (.cells #[.int .i64 x] 2)).mono qb.size)
          refine wpAnyH_ready (rs := [8]) (by kernel_rfl) (by simp) ?_
          refine AllReadyH.cons rfl (fun K hK => ?_) AllReadyH.nil
          go_simp
          refine hK.out _ _ q3.all (fun hC => ?_)
          clear hK K
          try simp only [Act.put, List.setIfInBounds_toArray, List.set_cons_zero, List.set_cons_succ]
          generalize hW3 : w3.alloc (.cells #[.int .i64 x] 2) = W3 at r3 o3 q3 b3 hC ⊢
          refine wpAnyH_ready (rs := [9]) (by kernel_rfl) (by simp) ?_
          refine AllReadyH.cons rfl (fun K hK => ?_) AllReadyH.nil
          refine step_append_ints rfl 36 rfl _ _ rfl w.heap.size _ _ ys [x] rfl rfl o3 r3 (by simp; omega) b3.size ?_
          intro v4 w4 ho4 hg4
          have b4 : Below w.heap.size w w4 := b3.grown hg4 b3.size (fun k hk => (World.ownsRow.lt o3 k hk).1)
          have q4 : ArrAt w4 BX BX empA := row_kept q3 hg4 (fun k hk e => rows_apart o3 q3 (by decide) k e hk)
          refine hK.out _ _ q4.all (fun hD => ?_)
          clear hK K
          try simp only [Act.put, List.setIfInBounds_toArray, List.set_cons_zero, List.set_cons_succ]
          refine tkG 10 6 hD ?_
          try simp only [Act.put, List.setIfInBounds_toArray, List.set_cons_zero, List.set_cons_succ]
          refine wpAnyH_done (by kernel_rfl) ?_ _
          refine NoPanic.normal ?_
          clear hH hA hC hD hg4 o3 r3 b3 qo qq qb q3 hW3 qr qt hb3
          rw [← e5.out] at ho4
          go_wp2
          go_roundw
          case rel => exact ⟨1, _, by omega, rfl, by go_num, ho4, q4, b4⟩
          case measure => simp [intOf]
        · obtain ⟨B, hB⟩ : ∃ B, B = A / 2 := ⟨_, rfl⟩
          obtain ⟨j, hj⟩ : ∃ j, j = B ^^^ 1 := ⟨_, rfl⟩
          have hB255 : B ≤ 255 := by omega
          have hjl : B ^^^ 1 < 2 * 64 := xor1_lt (by omega)
          have hxor : bits .xor .i64 (B : Int) 1 = (j : Int) := by rw [hj]; exact xor1_bits B hB255
          have hsr : (A : Int) / 2 = (B : Int) := by omega
          have hjb : (j + 1) * 2 ≤ 256 := by rw [hj]; omega
          have hsl : IntKind.i64.wrap ((j : Int) * 2) = ((j * 2 : Nat) : Int) := by rw [IntKind.wrap_i64]; omega
          have hpow : A / 2 ^ 1 ^^^ 1 = j := by
            rw [hj, hB]
          have HG : Hid (besL es A 1 = grp (fL es) 1 j) := by unfold Hid besL; rw [hpow]
          have e5 : Hid (wayL es A 2 = wayL es A 1 ++ [besL es A 1]) := wayL_succ es A 1
          rw [HG.out] at e5
          have HC := fun W h t => grpC1 j hjb v es W h HO.out t
          have HX := i64_small (grp_lo (fL_lo es) 1 j) (grp_hi (fL_hi es) 1 j)
          clear HX hjl hjb hj hB hpow
          unfold EArr at HC
          generalize grp (fL es) 1 j = x at HC e5
          generalize wayL es A 1 = ys at ho e5 hwl
          have hyl : ys.length ≤ 8 := by omega
          clear HG hwl
          go_wp2_with fail
          refine wp_region_noPanic ?_
          refine wp_region_held_drew (S := fun w' => w'.cell? ⟨BX, 0, none⟩ = some (.int .i64 (emp 0)) ∧ w'.cell? ⟨BX, 1, none⟩ = some (.int .i64 (emp 1)) ∧ w'.cell? ⟨BX, 2, none⟩ = some (.int .i64 (emp 2)) ∧ w'.cell? ⟨BX, 3, none⟩ = some (.int .i64 (emp 3)) ∧ w'.cell? ⟨BX, 4, none⟩ = some (.int .i64 (emp 4)) ∧ w'.cell? ⟨BX, 5, none⟩ = some (.int .i64 (emp 5)) ∧ w'.cell? ⟨BX, 6, none⟩ = some (.int .i64 (emp 6)) ∧ w'.cell? ⟨BX, 7, none⟩ = some (.int .i64 (emp 7)) ∧ w'.cell? ⟨BX, 8, none⟩ = some (.int .i64 (emp 8))) (by kernel_rfl) ⟨c0, c1, c2, c3, c4, c5, c6, c7, c8⟩ (fun hH => ?_)
          have qo : OwnI wr.drew _ _ ys := ho.drewN 1
          have qq : ArrAt wr.drew BX BX empA := hq
          have qb := hb.drew
          have qr : RdL wr.drew v es := hr.below qb
          have qt := ht.on qb
          clear ho hq hb hr1 ht1 c0 c1 c2 c3 c4 c5 c6 c7 c8
          refine tkG 0 27 hH ?_
          try simp only [Act.put, List.setIfInBounds_toArray, List.set_cons_zero, List.set_cons_succ]
          refine tkG 1 28 hH ?_
          try simp only [Act.put, List.setIfInBounds_toArray, List.set_cons_zero, List.set_cons_succ]
          refine tkG 2 29 hH ?_
          try simp only [Act.put, List.setIfInBounds_toArray, List.set_cons_zero, List.set_cons_succ]
          refine tkG 3 30 hH ?_
          try simp only [Act.put, List.setIfInBounds_toArray, List.set_cons_zero, List.set_cons_succ]
          refine tkG 4 31 hH ?_
          try simp only [Act.put, List.setIfInBounds_toArray, List.set_cons_zero, List.set_cons_succ]
          refine tkG 5 32 hH ?_
          try simp only [Act.put, List.setIfInBounds_toArray, List.set_cons_zero, List.set_cons_succ]
          refine tkG 6 33 hH ?_
          try simp only [Act.put, List.setIfInBounds_toArray, List.set_cons_zero, List.set_cons_succ]
          refine wpAnyH_ready (rs := [7]) (by kernel_rfl) (by simp) ?_
          refine AllReadyH.cons rfl (fun K hK => ?_) AllReadyH.nil
          go_simp
          refine (HC _ qr qt).mono ?_
          rintro e w3 ⟨rfl, hb3⟩
          replace qo := qo.below hb3
          replace qq := qq.below hb3
          replace qb := qb.trans (hb3.mono qb.size)
          refine hK.out _ _ qq.all (fun hA => ?_)
          clear hK K
          try simp only [Act.put, List.setIfInBounds_toArray, List.set_cons_zero, List.set_cons_succ]
          have r3 := (ownI_one w3 x).rd
          have o3 := qo.below (below1 w3 (.cells #[.int .i64 x] 2))
          have q3 := qq.below (below1 w3 (.cells #[.int .i64 x] 2))
          have b3 := qb.trans ((below1 w3 (.cells #[.int .i64 x] 2)).mono qb.size)
          refine wpAnyH_ready (rs := [8]) (by kernel_rfl) (by simp) ?_
          refine AllReadyH.cons rfl (fun K hK => ?_) AllReadyH.nil
          go_simp
          refine hK.out _ _ q3.all (fun hC => ?_)
          clear hK K
          try simp only [Act.put, List.setIfInBounds_toArray, List.set_cons_zero, List.set_cons_succ]
          generalize hW3 : w3.alloc (.cells #[.int .i64 x] 2) = W3 at r3 o3 q3 b3 hC ⊢
          refine wpAnyH_ready (rs := [9]) (by kernel_rfl) (by simp) ?_
          refine AllReadyH.cons rfl (fun K hK => ?_) AllReadyH.nil
          refine step_append_ints rfl 36 rfl _ _ rfl w.heap.size _ _ ys [x] rfl rfl o3 r3 (by simp; omega) b3.size ?_
          intro v4 w4 ho4 hg4
          have b4 : Below w.heap.size w w4 := b3.grown hg4 b3.size (fun k hk => (World.ownsRow.lt o3 k hk).1)
          have q4 : ArrAt w4 BX BX empA := row_kept q3 hg4 (fun k hk e => rows_apart o3 q3 (by decide) k e hk)
          refine hK.out _ _ q4.all (fun hD => ?_)
          clear hK K
          try simp only [Act.put, List.setIfInBounds_toArray, List.set_cons_zero, List.set_cons_succ]
          refine tkG 10 6 hD ?_
          try simp only [Act.put, List.setIfInBounds_toArray, List.set_cons_zero, List.set_cons_succ]
          refine wpAnyH_done (by kernel_rfl) ?_ _
          refine NoPanic.normal ?_
          clear hH hA hC hD hg4 o3 r3 b3 qo qq qb q3 hW3 qr qt hb3
          rw [← e5.out] at ho4
          go_wp2
          go_roundw
          case rel => exact ⟨2, _, by omega, rfl, by go_num, ho4, q4, b4⟩
          case measure => simp [intOf]
        · obtain ⟨B, hB⟩ : ∃ B, B = A / 4 := ⟨_, rfl⟩
          obtain ⟨j, hj⟩ : ∃ j, j = B ^^^ 1 := ⟨_, rfl⟩
          have hB255 : B ≤ 255 := by omega
          have hjl : B ^^^ 1 < 2 * 32 := xor1_lt (by omega)
          have hxor : bits .xor .i64 (B : Int) 1 = (j : Int) := by rw [hj]; exact xor1_bits B hB255
          have hsr : (A : Int) / 4 = (B : Int) := by omega
          have hjb : (j + 1) * 4 ≤ 256 := by rw [hj]; omega
          have hsl : IntKind.i64.wrap ((j : Int) * 4) = ((j * 4 : Nat) : Int) := by rw [IntKind.wrap_i64]; omega
          have hpow : A / 2 ^ 2 ^^^ 1 = j := by
            rw [hj, hB]
          have HG : Hid (besL es A 2 = grp (fL es) 2 j) := by unfold Hid besL; rw [hpow]
          have e5 : Hid (wayL es A 3 = wayL es A 2 ++ [besL es A 2]) := wayL_succ es A 2
          rw [HG.out] at e5
          have HC := fun W h t => grpC2 j hjb v es W h HO.out t
          have HX := i64_small (grp_lo (fL_lo es) 2 j) (grp_hi (fL_hi es) 2 j)
          clear HX hjl hjb hj hB hpow
          unfold EArr at HC
          generalize grp (fL es) 2 j = x at HC e5
          generalize wayL es A 2 = ys at ho e5 hwl
          have hyl : ys.length ≤ 8 := by omega
          clear HG hwl
          go_wp2_with fail
          refine wp_region_noPanic ?_
          refine wp_region_held_drew (S := fun w' => w'.cell? ⟨BX, 0, none⟩ = some (.int .i64 (emp 0)) ∧ w'.cell? ⟨BX, 1, none⟩ = some (.int .i64 (emp 1)) ∧ w'.cell? ⟨BX, 2, none⟩ = some (.int .i64 (emp 2)) ∧ w'.cell? ⟨BX, 3, none⟩ = some (.int .i64 (emp 3)) ∧ w'.cell? ⟨BX, 4, none⟩ = some (.int .i64 (emp 4)) ∧ w'.cell? ⟨BX, 5, none⟩ = some (.int .i64 (emp 5)) ∧ w'.cell? ⟨BX, 6, none⟩ = some (.int .i64 (emp 6)) ∧ w'.cell? ⟨BX, 7, none⟩ = some (.int .i64 (emp 7)) ∧ w'.cell? ⟨BX, 8, none⟩ = some (.int .i64 (emp 8))) (by kernel_rfl) ⟨c0, c1, c2, c3, c4, c5, c6, c7, c8⟩ (fun hH => ?_)
          have qo : OwnI wr.drew _ _ ys := ho.drewN 1
          have qq : ArrAt wr.drew BX BX empA := hq
          have qb := hb.drew
          have qr : RdL wr.drew v es := hr.below qb
          have qt := ht.on qb
          clear ho hq hb hr1 ht1 c0 c1 c2 c3 c4 c5 c6 c7 c8
          refine tkG 0 27 hH ?_
          try simp only [Act.put, List.setIfInBounds_toArray, List.set_cons_zero, List.set_cons_succ]
          refine tkG 1 28 hH ?_
          try simp only [Act.put, List.setIfInBounds_toArray, List.set_cons_zero, List.set_cons_succ]
          refine tkG 2 29 hH ?_
          try simp only [Act.put, List.setIfInBounds_toArray, List.set_cons_zero, List.set_cons_succ]
          refine tkG 3 30 hH ?_
          try simp only [Act.put, List.setIfInBounds_toArray, List.set_cons_zero, List.set_cons_succ]
          refine tkG 4 31 hH ?_
          try simp only [Act.put, List.setIfInBounds_toArray, List.set_cons_zero, List.set_cons_succ]
          refine tkG 5 32 hH ?_
          try simp only [Act.put, List.setIfInBounds_toArray, List.set_cons_zero, List.set_cons_succ]
          refine tkG 6 33 hH ?_
          try simp only [Act.put, List.setIfInBounds_toArray, List.set_cons_zero, List.set_cons_succ]
          refine wpAnyH_ready (rs := [7]) (by kernel_rfl) (by simp) ?_
          refine AllReadyH.cons rfl (fun K hK => ?_) AllReadyH.nil
          go_simp
          refine (HC _ qr qt).mono ?_
          rintro e w3 ⟨rfl, hb3⟩
          replace qo := qo.below hb3
          replace qq := qq.below hb3
          replace qb := qb.trans (hb3.mono qb.size)
          refine hK.out _ _ qq.all (fun hA => ?_)
          clear hK K
          try simp only [Act.put, List.setIfInBounds_toArray, List.set_cons_zero, List.set_cons_succ]
          have r3 := (ownI_one w3 x).rd
          have o3 := qo.below (below1 w3 (.cells #[.int .i64 x] 2))
          have q3 := qq.below (below1 w3 (.cells #[.int .i64 x] 2))
          have b3 := qb.trans ((below1 w3 (.cells #[.int .i64 x] 2)).mono qb.size)
          refine wpAnyH_ready (rs := [8]) (by kernel_rfl) (by simp) ?_
          refine AllReadyH.cons rfl (fun K hK => ?_) AllReadyH.nil
          go_simp
          refine hK.out _ _ q3.all (fun hC => ?_)
          clear hK K
          try simp only [Act.put, List.setIfInBounds_toArray, List.set_cons_zero, List.set_cons_succ]
          generalize hW3 : w3.alloc (.cells #[.int .i64 x] 2) = W3 at r3 o3 q3 b3 hC ⊢
          refine wpAnyH_ready (rs := [9]) (by kernel_rfl) (by simp) ?_
          refine AllReadyH.cons rfl (fun K hK => ?_) AllReadyH.nil
          refine step_append_ints rfl 36 rfl _ _ rfl w.heap.size _ _ ys [x] rfl rfl o3 r3 (by simp; omega) b3.size ?_
          intro v4 w4 ho4 hg4
          have b4 : Below w.heap.size w w4 := b3.grown hg4 b3.size (fun k hk => (World.ownsRow.lt o3 k hk).1)
          have q4 : ArrAt w4 BX BX empA := row_kept q3 hg4 (fun k hk e => rows_apart o3 q3 (by decide) k e hk)
          refine hK.out _ _ q4.all (fun hD => ?_)
          clear hK K
          try simp only [Act.put, List.setIfInBounds_toArray, List.set_cons_zero, List.set_cons_succ]
          refine tkG 10 6 hD ?_
          try simp only [Act.put, List.setIfInBounds_toArray, List.set_cons_zero, List.set_cons_succ]
          refine wpAnyH_done (by kernel_rfl) ?_ _
          refine NoPanic.normal ?_
          clear hH hA hC hD hg4 o3 r3 b3 qo qq qb q3 hW3 qr qt hb3
          rw [← e5.out] at ho4
          go_wp2
          go_roundw
          case rel => exact ⟨3, _, by omega, rfl, by go_num, ho4, q4, b4⟩
          case measure => simp [intOf]
        · obtain ⟨B, hB⟩ : ∃ B, B = A / 8 := ⟨_, rfl⟩
          obtain ⟨j, hj⟩ : ∃ j, j = B ^^^ 1 := ⟨_, rfl⟩
          have hB255 : B ≤ 255 := by omega
          have hjl : B ^^^ 1 < 2 * 16 := xor1_lt (by omega)
          have hxor : bits .xor .i64 (B : Int) 1 = (j : Int) := by rw [hj]; exact xor1_bits B hB255
          have hsr : (A : Int) / 8 = (B : Int) := by omega
          have hjb : (j + 1) * 8 ≤ 256 := by rw [hj]; omega
          have hsl : IntKind.i64.wrap ((j : Int) * 8) = ((j * 8 : Nat) : Int) := by rw [IntKind.wrap_i64]; omega
          have hpow : A / 2 ^ 3 ^^^ 1 = j := by
            rw [hj, hB]
          have HG : Hid (besL es A 3 = grp (fL es) 3 j) := by unfold Hid besL; rw [hpow]
          have e5 : Hid (wayL es A 4 = wayL es A 3 ++ [besL es A 3]) := wayL_succ es A 3
          rw [HG.out] at e5
          have HC := fun W h t => grpC3 j hjb v es W h HO.out t
          have HX := i64_small (grp_lo (fL_lo es) 3 j) (grp_hi (fL_hi es) 3 j)
          clear HX hjl hjb hj hB hpow
          unfold EArr at HC
          generalize grp (fL es) 3 j = x at HC e5
          generalize wayL es A 3 = ys at ho e5 hwl
          have hyl : ys.length ≤ 8 := by omega
          clear HG hwl
          go_wp2_with fail
          refine wp_region_noPanic ?_
          refine wp_region_held_drew (S := fun w' => w'.cell? ⟨BX, 0, none⟩ = some (.int .i64 (emp 0)) ∧ w'.cell? ⟨BX, 1, none⟩ = some (.int .i64 (emp 1)) ∧ w'.cell? ⟨BX, 2, none⟩ = some (.int .i64 (emp 2)) ∧ w'.cell? ⟨BX, 3, none⟩ = some (.int .i64 (emp 3)) ∧ w'.cell? ⟨BX, 4, none⟩ = some (.int .i64 (emp 4)) ∧ w'.cell? ⟨BX, 5, none⟩ = some (.int .i64 (emp 5)) ∧ w'.cell? ⟨BX, 6, none⟩ = some (.int .i64 (emp 6)) ∧ w'.cell? ⟨BX, 7, none⟩ = some (.int .i64 (emp 7)) ∧ w'.cell? ⟨BX, 8, none⟩ = some (.int .i64 (emp 8))) (by kernel_rfl) ⟨c0, c1, c2, c3, c4, c5, c6, c7, c8⟩ (fun hH => ?_)
          have qo : OwnI wr.drew _ _ ys := ho.drewN 1
          have qq : ArrAt wr.drew BX BX empA := hq
          have qb := hb.drew
          have qr : RdL wr.drew v es := hr.below qb
          have qt := ht.on qb
          clear ho hq hb hr1 ht1 c0 c1 c2 c3 c4 c5 c6 c7 c8
          refine tkG 0 27 hH ?_
          try simp only [Act.put, List.setIfInBounds_toArray, List.set_cons_zero, List.set_cons_succ]
          refine tkG 1 28 hH ?_
          try simp only [Act.put, List.setIfInBounds_toArray, List.set_cons_zero, List.set_cons_succ]
          refine tkG 2 29 hH ?_
          try simp only [Act.put, List.setIfInBounds_toArray, List.set_cons_zero, List.set_cons_succ]
          refine tkG 3 30 hH ?_
          try simp only [Act.put, List.setIfInBounds_toArray, List.set_cons_zero, List.set_cons_succ]
          refine tkG 4 31 hH ?_
          try simp only [Act.put, List.setIfInBounds_toArray, List.set_cons_zero, List.set_cons_succ]
          refine tkG 5 32 hH ?_
          try simp only [Act.put, List.setIfInBounds_toArray, List.set_cons_zero, List.set_cons_succ]
          refine tkG 6 33 hH ?_
          try simp only [Act.put, List.setIfInBounds_toArray, List.set_cons_zero, List.set_cons_succ]
          refine wpAnyH_ready (rs := [7]) (by kernel_rfl) (by simp) ?_
          refine AllReadyH.cons rfl (fun K hK => ?_) AllReadyH.nil
          go_simp
          refine (HC _ qr qt).mono ?_
          rintro e w3 ⟨rfl, hb3⟩
          replace qo := qo.below hb3
          replace qq := qq.below hb3
          replace qb := qb.trans (hb3.mono qb.size)
          refine hK.out _ _ qq.all (fun hA => ?_)
          clear hK K
          try simp only [Act.put, List.setIfInBounds_toArray, List.set_cons_zero, List.set_cons_succ]
          have r3 := (ownI_one w3 x).rd
          have o3 := qo.below (below1 w3 (.cells #[.int .i64 x] 2))
          have q3 := qq.below (below1 w3 (.cells #[.int .i64 x] 2))
          have b3 := qb.trans ((below1 w3 (.cells #[.int .i64 x] 2)).mono qb.size)
          refine wpAnyH_ready (rs := [8]) (by kernel_rfl) (by simp) ?_
          refine AllReadyH.cons rfl (fun K hK => ?_) AllReadyH.nil
          go_simp
          refine hK.out _ _ q3.all (fun hC => ?_)
          clear hK K
          try simp only [Act.put, List.setIfInBounds_toArray, List.set_cons_zero, List.set_cons_succ]
          generalize hW3 : w3.alloc (.cells #[.int .i64 x] 2) = W3 at r3 o3 q3 b3 hC ⊢
          refine wpAnyH_ready (rs := [9]) (by kernel_rfl) (by simp) ?_
          refine AllReadyH.cons rfl (fun K hK => ?_) AllReadyH.nil
          refine step_append_ints rfl 36 rfl _ _ rfl w.heap.size _ _ ys [x] rfl rfl o3 r3 (by simp; omega) b3.size ?_
          intro v4 w4 ho4 hg4
          have b4 : Below w.heap.size w w4 := b3.grown hg4 b3.size (fun k hk => (World.ownsRow.lt o3 k hk).1)
          have q4 : ArrAt w4 BX BX empA := row_kept q3 hg4 (fun k hk e => rows_apart o3 q3 (by decide) k e hk)
          refine hK.out _ _ q4.all (fun hD => ?_)
          clear hK K
          try simp only [Act.put, List.setIfInBounds_toArray, List.set_cons_zero, List.set_cons_succ]
          refine tkG 10 6 hD ?_
          try simp only [Act.put, List.setIfInBounds_toArray, List.set_cons_zero, List.set_cons_succ]
          refine wpAnyH_done (by kernel_rfl) ?_ _
          refine NoPanic.normal ?_
          clear hH hA hC hD hg4 o3 r3 b3 qo qq qb q3 hW3 qr qt hb3
          rw [← e5.out] at ho4
          go_wp2
          go_roundw
          case rel => exact ⟨4, _, by omega, rfl, by go_num, ho4, q4, b4⟩
          case measure => simp [intOf]
        · obtain ⟨B, hB⟩ : ∃ B, B = A / 16 := ⟨_, rfl⟩
          obtain ⟨j, hj⟩ : ∃ j, j = B ^^^ 1 := ⟨_, rfl⟩
          have hB255 : B ≤ 255 := by omega
          have hjl : B ^^^ 1 < 2 * 8 := xor1_lt (by omega)
          have hxor : bits .xor .i64 (B : Int) 1 = (j : Int) := by rw [hj]; exact xor1_bits B hB255
          have hsr : (A : Int) / 16 = (B : Int) := by omega
          have hjb : (j + 1) * 16 ≤ 256 := by rw [hj]; omega
          have hsl : IntKind.i64.wrap ((j : Int) * 16) = ((j * 16 : Nat) : Int) := by rw [IntKind.wrap_i64]; omega
          have hpow : A / 2 ^ 4 ^^^ 1 = j := by
            rw [hj, hB]
          have HG : Hid (besL es A 4 = grp (fL es) 4 j) := by unfold Hid besL; rw [hpow]
          have e5 : Hid (wayL es A 5 = wayL es A 4 ++ [besL es A 4]) := wayL_succ es A 4
          rw [HG.out] at e5
          have HC := fun W h t => grpC4 j hjb v es W h HO.out t
          have HX := i64_small (grp_lo (fL_lo es) 4 j) (grp_hi (fL_hi es) 4 j)
          clear HX hjl hjb hj hB hpow
          unfold EArr at HC
          generalize grp (fL es) 4 j = x at HC e5
          generalize wayL es A 4 = ys at ho e5 hwl
          have hyl : ys.length ≤ 8 := by omega
          clear HG hwl
          go_wp2_with fail
          refine wp_region_noPanic ?_
          refine wp_region_held_drew (S := fun w' => w'.cell? ⟨BX, 0, none⟩ = some (.int .i64 (emp 0)) ∧ w'.cell? ⟨BX, 1, none⟩ = some (.int .i64 (emp 1)) ∧ w'.cell? ⟨BX, 2, none⟩ = some (.int .i64 (emp 2)) ∧ w'.cell? ⟨BX, 3, none⟩ = some (.int .i64 (emp 3)) ∧ w'.cell? ⟨BX, 4, none⟩ = some (.int .i64 (emp 4)) ∧ w'.cell? ⟨BX, 5, none⟩ = some (.int .i64 (emp 5)) ∧ w'.cell? ⟨BX, 6, none⟩ = some (.int .i64 (emp 6)) ∧ w'.cell? ⟨BX, 7, none⟩ = some (.int .i64 (emp 7)) ∧ w'.cell? ⟨BX, 8, none⟩ = some (.int .i64 (emp 8))) (by kernel_rfl) ⟨c0, c1, c2, c3, c4, c5, c6, c7, c8⟩ (fun hH => ?_)
          have qo : OwnI wr.drew _ _ ys := ho.drewN 1
          have qq : ArrAt wr.drew BX BX empA := hq
          have qb := hb.drew
          have qr : RdL wr.drew v es := hr.below qb
          have qt := ht.on qb
          clear ho hq hb hr1 ht1 c0 c1 c2 c3 c4 c5 c6 c7 c8
          refine tkG 0 27 hH ?_
          try simp only [Act.put, List.setIfInBounds_toArray, List.set_cons_zero, List.set_cons_succ]
          refine tkG 1 28 hH ?_
          try simp only [Act.put, List.setIfInBounds_toArray, List.set_cons_zero, List.set_cons_succ]
          refine tkG 2 29 hH ?_
          try simp only [Act.put, List.setIfInBounds_toArray, List.set_cons_zero, List.set_cons_succ]
          refine tkG 3 30 hH ?_
          try simp only [Act.put, List.setIfInBounds_toArray, List.set_cons_zero, List.set_cons_succ]
          refine tkG 4 31 hH ?_
          try simp only [Act.put, List.setIfInBounds_toArray, List.set_cons_zero, List.set_cons_succ]
          refine tkG 5 32 hH ?_
          try simp only [Act.put, List.setIfInBounds_toArray, List.set_cons_zero, List.set_cons_succ]
          refine tkG 6 33 hH ?_
          try simp only [Act.put, List.setIfInBounds_toArray, List.set_cons_zero, List.set_cons_succ]
          refine wpAnyH_ready (rs := [7]) (by kernel_rfl) (by simp) ?_
          refine AllReadyH.cons rfl (fun K hK => ?_) AllReadyH.nil
          go_simp
          refine (HC _ qr qt).mono ?_
          rintro e w3 ⟨rfl, hb3⟩
          replace qo := qo.below hb3
          replace qq := qq.below hb3
          replace qb := qb.trans (hb3.mono qb.size)
          refine hK.out _ _ qq.all (fun hA => ?_)
          clear hK K
          try simp only [Act.put, List.setIfInBounds_toArray, List.set_cons_zero, List.set_cons_succ]
          have r3 := (ownI_one w3 x).rd
          have o3 := qo.below (below1 w3 (.cells #[.int .i64 x] 2))
          have q3 := qq.below (below1 w3 (.cells #[.int .i64 x] 2))
          have b3 := qb.trans ((below1 w3 (.cells #[.int .i64 x] 2)).mono qb.size)
          refine wpAnyH_ready (rs := [8]) (by kernel_rfl) (by simp) ?_
          refine AllReadyH.cons rfl (fun K hK => ?_) AllReadyH.nil
          go_simp
          refine hK.out _ _ q3.all (fun hC => ?_)
          clear hK K
          try simp only [Act.put, List.setIfInBounds_toArray, List.set_cons_zero, List.set_cons_succ]
          generalize hW3 : w3.alloc (.cells #[.int .i64 x] 2) = W3 at r3 o3 q3 b3 hC ⊢
          refine wpAnyH_ready (rs := [9]) (by kernel_rfl) (by simp) ?_
          refine AllReadyH.cons rfl (fun K hK => ?_) AllReadyH.nil
          refine step_append_ints rfl 36 rfl _ _ rfl w.heap.size _ _ ys [x] rfl rfl o3 r3 (by simp; omega) b3.size ?_
          intro v4 w4 ho4 hg4
          have b4 : Below w.heap.size w w4 := b3.grown hg4 b3.size (fun k hk => (World.ownsRow.lt o3 k hk).1)
          have q4 : ArrAt w4 BX BX empA := row_kept q3 hg4 (fun k hk e => rows_apart o3 q3 (by decide) k e hk)
          refine hK.out _ _ q4.all (fun hD => ?_)
          clear hK K
          try simp only [Act.put, List.setIfInBounds_toArray, List.set_cons_zero, List.set_cons_succ]
          refine tkG 10 6 hD ?_
          try simp only [Act.put, List.setIfInBounds_toArray, List.set_cons_zero, List.set_cons_succ]
          refine wpAnyH_done (by kernel_rfl) ?_ _
          refine NoPanic.normal ?_
          clear hH hA hC hD hg4 o3 r3 b3 qo qq qb q3 hW3 qr qt hb3
          rw [← e5.out] at ho4
          go_wp2
          go_roundw
          case rel => exact ⟨5, _, by omega, rfl, by go_num, ho4, q4, b4⟩
          case measure => simp [intOf]
        · obtain ⟨B, hB⟩ : ∃ B, B = A / 32 := ⟨_, rfl⟩
          obtain ⟨j, hj⟩ : ∃ j, j = B ^^^ 1 := ⟨_, rfl⟩
          have hB255 : B ≤ 255 := by omega
          have hjl : B ^^^ 1 < 2 * 4 := xor1_lt (by omega)
          have hxor : bits .xor .i64 (B : Int) 1 = (j : Int) := by rw [hj]; exact xor1_bits B hB255
          have hsr : (A : Int) / 32 = (B : Int) := by omega
          have hjb : (j + 1) * 32 ≤ 256 := by rw [hj]; omega
          have hsl : IntKind.i64.wrap ((j : Int) * 32) = ((j * 32 : Nat) : Int) := by rw [IntKind.wrap_i64]; omega
          have hpow : A / 2 ^ 5 ^^^ 1 = j := by
            rw [hj, hB]
          have HG : Hid (besL es A 5 = grp (fL es) 5 j) := by unfold Hid besL; rw [hpow]
          have e5 : Hid (wayL es A 6 = wayL es A 5 ++ [besL es A 5]) := wayL_succ es A 5
          rw [HG.out] at e5
          have HC := fun W h t => grpC5 j hjb v es W h HO.out t
          have HX := i64_small (grp_lo (fL_lo es) 5 j) (grp_hi (fL_hi es) 5 j)
          clear HX hjl hjb hj hB hpow
          unfold EArr at HC
          generalize grp (fL es) 5 j = x at HC e5
          generalize wayL es A 5 = ys at ho e5 hwl
          have hyl : ys.length ≤ 8 := by omega
          clear HG hwl
          go_wp2_with fail
          refine wp_region_noPanic ?_
          refine wp_region_held_drew (S := fun w' => w'.cell? ⟨BX, 0, none⟩ = some (.int .i64 (emp 0)) ∧ w'.cell? ⟨BX, 1, none⟩ = some (.int .i64 (emp 1)) ∧ w'.cell? ⟨BX, 2, none⟩ = some (.int .i64 (emp 2)) ∧ w'.cell? ⟨BX, 3, none⟩ = some (.int .i64 (emp 3)) ∧ w'.cell? ⟨BX, 4, none⟩ = some (.int .i64 (emp 4)) ∧ w'.cell? ⟨BX, 5, none⟩ = some (.int .i64 (emp 5)) ∧ w'.cell? ⟨BX, 6, none⟩ = some (.int .i64 (emp 6)) ∧ w'.cell? ⟨BX, 7, none⟩ = some (.int .i64 (emp 7)) ∧ w'.cell? ⟨BX, 8, none⟩ = some (.int .i64 (emp 8))) (by kernel_rfl) ⟨c0, c1, c2, c3, c4, c5, c6, c7, c8⟩ (fun hH => ?_)
          have qo : OwnI wr.drew _ _ ys := ho.drewN 1
          have qq : ArrAt wr.drew BX BX empA := hq
          have qb := hb.drew
          have qr : RdL wr.drew v es := hr.below qb
          have qt := ht.on qb
          clear ho hq hb hr1 ht1 c0 c1 c2 c3 c4 c5 c6 c7 c8
          refine tkG 0 27 hH ?_
          try simp only [Act.put, List.setIfInBounds_toArray, List.set_cons_zero, List.set_cons_succ]
          refine tkG 1 28 hH ?_
          try simp only [Act.put, List.setIfInBounds_toArray, List.set_cons_zero, List.set_cons_succ]
          refine tkG 2 29 hH ?_
          try simp only [Act.put, List.setIfInBounds_toArray, List.set_cons_zero, List.set_cons_succ]
          refine tkG 3 30 hH ?_
          try simp only [Act.put, List.setIfInBounds_toArray, List.set_cons_zero, List.set_cons_succ]
          refine tkG 4 31 hH ?_
          try simp only [Act.put, List.setIfInBounds_toArray, List.set_cons_zero, List.set_cons_succ]
          refine tkG 5 32 hH ?_
          try simp only [Act.put, List.setIfInBounds_toArray, List.set_cons_zero, List.set_cons_succ]
          refine tkG 6 33 hH ?_
          try simp only [Act.put, List.setIfInBounds_toArray, List.set_cons_zero, List.set_cons_succ]
          refine wpAnyH_ready (rs := [7]) (by kernel_rfl) (by simp) ?_
          refine AllReadyH.cons rfl (fun K hK => ?_) AllReadyH.nil
          go_simp
          refine (HC _ qr qt).mono ?_
          rintro e w3 ⟨rfl, hb3⟩
          replace qo := qo.below hb3
          replace qq := qq.below hb3
          replace qb := qb.trans (hb3.mono qb.size)
          refine hK.out _ _ qq.all (fun hA => ?_)
          clear hK K
          try simp only [Act.put, List.setIfInBounds_toArray, List.set_cons_zero, List.set_cons_succ]
          have r3 := (ownI_one w3 x).rd
          have o3 := qo.below (below1 w3 (.cells #[.int .i64 x] 2))
          have q3 := qq.below (below1 w3 (.cells #[.int .i64 x] 2))
          have b3 := qb.trans ((below1 w3 (.cells #[.int .i64 x] 2)).mono qb.size)
          refine wpAnyH_ready (rs := [8]) (by kernel_rfl) (by simp) ?_
          refine AllReadyH.cons rfl (fun K hK => ?_) AllReadyH.nil
          go_simp
          refine hK.out _ _ q3.all (fun hC => ?_)
          clear hK K
          try simp only [Act.put, List.setIfInBounds_toArray, List.set_cons_zero, List.set_cons_succ]
          generalize hW3 : w3.alloc (.cells #[.int .i64 x] 2) = W3 at r3 o3 q3 b3 hC ⊢
          refine wpAnyH_ready (rs := [9]) (by kernel_rfl) (by simp) ?_
          refine AllReadyH.cons rfl (fun K hK => ?_) AllReadyH.nil
          refine step_append_ints rfl 36 rfl _ _ rfl w.heap.size _ _ ys [x] rfl rfl o3 r3 (by simp; omega) b3.size ?_
          intro v4 w4 ho4 hg4
          have b4 : Below w.heap.size w w4 := b3.grown hg4 b3.size (fun k hk => (World.ownsRow.lt o3 k hk).1)
          have q4 : ArrAt w4 BX BX empA := row_kept q3 hg4 (fun k hk e => rows_apart o3 q3 (by decide) k e hk)
          refine hK.out _ _ q4.all (fun hD => ?_)
          clear hK K
          try simp only [Act.put, List.setIfInBounds_toArray, List.set_cons_zero, List.set_cons_succ]
          refine tkG 10 6 hD ?_
          try simp only [Act.put, List.setIfInBounds_toArray, List.set_cons_zero, List.set_cons_succ]
          refine wpAnyH_done (by kernel_rfl) ?_ _
          refine NoPanic.normal ?_
          clear hH hA hC hD hg4 o3 r3 b3 qo qq qb q3 hW3 qr qt hb3
          rw [← e5.out] at ho4
          go_wp2
          go_roundw
          case rel => exact ⟨6, _, by omega, rfl, by go_num, ho4, q4, b4⟩
          case measure => simp [intOf]
        · obtain ⟨B, hB⟩ : ∃ B, B = A / 64 := ⟨_, rfl⟩
          obtain ⟨j, hj⟩ : ∃ j, j = B ^^^ 1 := ⟨_, rfl⟩
          have hB255 : B ≤ 255 := by omega
          have hjl : B ^^^ 1 < 2 * 2 := xor1_lt (by omega)
          have hxor : bits .xor .i64 (B : Int) 1 = (j : Int) := by rw [hj]; exact xor1_bits B hB255
          have hsr : (A : Int) / 64 = (B : Int) := by omega
          have hjb : (j + 1) * 64 ≤ 256 := by rw [hj]; omega
          have hsl : IntKind.i64.wrap ((j : Int) * 64) = ((j * 64 : Nat) : Int) := by rw [IntKind.wrap_i64]; omega
          have hpow : A / 2 ^ 6 ^^^ 1 = j := by
            rw [hj, hB]
          have HG : Hid (besL es A 6 = grp (fL es) 6 j) := by unfold Hid besL; rw [hpow]
          have e5 : Hid (wayL es A 7 = wayL es A 6 ++ [besL es A 6]) := wayL_succ es A 6
          rw [HG.out] at e5
          have HC := fun W h t => grpC6 j hjb v es W h HO.out t
          have HX := i64_small (grp_lo (fL_lo es) 6 j) (grp_hi (fL_hi es) 6 j)
          clear HX hjl hjb hj hB hpow
          unfold EArr at HC
          generalize grp (fL es) 6 j = x at HC e5
          generalize wayL es A 6 = ys at ho e5 hwl
          have hyl : ys.length ≤ 8 := by omega
          clear HG hwl
          go_wp2_with fail
          refine wp_region_noPanic ?_
          refine wp_region_held_drew (S := fun w' => w'.cell? ⟨BX, 0, none⟩ = some (.int .i64 (emp 0)) ∧ w'.cell? ⟨BX, 1, none⟩ = some (.int .i64 (emp 1)) ∧ w'.cell? ⟨BX, 2, none⟩ = some (.int .i64 (emp 2)) ∧ w'.cell? ⟨BX, 3, none⟩ = some (.int .i64 (emp 3)) ∧ w'.cell? ⟨BX, 4, none⟩ = some (.int .i64 (emp 4)) ∧ w'.cell? ⟨BX, 5, none⟩ = some (.int .i64 (emp 5)) ∧ w'.cell? ⟨BX, 6, none⟩ = some (.int .i64 (emp 6)) ∧ w'.cell? ⟨BX, 7, none⟩ = some (.int .i64 (emp 7)) ∧ w'.cell? ⟨BX, 8, none⟩ = some (.int .i64 (emp 8))) (by kernel_rfl) ⟨c0, c1, c2, c3, c4, c5, c6, c7, c8⟩ (fun hH => ?_)
          have qo : OwnI wr.drew _ _ ys := ho.drewN 1
          have qq : ArrAt wr.drew BX BX empA := hq
          have qb := hb.drew
          have qr : RdL wr.drew v es := hr.below qb
          have qt := ht.on qb
          clear ho hq hb hr1 ht1 c0 c1 c2 c3 c4 c5 c6 c7 c8
          refine tkG 0 27 hH ?_
          try simp only [Act.put, List.setIfInBounds_toArray, List.set_cons_zero, List.set_cons_succ]
          refine tkG 1 28 hH ?_
          try simp only [Act.put, List.setIfInBounds_toArray, List.set_cons_zero, List.set_cons_succ]
          refine tkG 2 29 hH ?_
          try simp only [Act.put, List.setIfInBounds_toArray, List.set_cons_zero, List.set_cons_succ]
          refine tkG 3 30 hH ?_
          try simp only [Act.put, List.setIfInBounds_toArray, List.set_cons_zero, List.set_cons_succ]
          refine tkG 4 31 hH ?_
          try simp only [Act.put, List.setIfInBounds_toArray, List.set_cons_zero, List.set_cons_succ]
          refine tkG 5 32 hH ?_
          try simp only [Act.put, List.setIfInBounds_toArray, List.set_cons_zero, List.set_cons_succ]
          refine tkG 6 33 hH ?_
          try simp only [Act.put, List.setIfInBounds_toArray, List.set_cons_zero, List.set_cons_succ]
          refine wpAnyH_ready (rs := [7]) (by kernel_rfl) (by simp) ?_
          refine AllReadyH.cons rfl (fun K hK => ?_) AllReadyH.nil
          go_simp
          refine (HC _ qr qt).mono ?_
          rintro e w3 ⟨rfl, hb3⟩
          replace qo := qo.below hb3
          replace qq := qq.below hb3
          replace qb := qb.trans (hb3.mono qb.size)
          refine hK.out _ _ qq.all (fun hA => ?_)
          clear hK K
          try simp only [Act.put, List.setIfInBounds_toArray, List.set_cons_zero, List.set_cons_succ]
          have r3 := (ownI_one w3 x).rd
          have o3 := qo.below (below1 w3 (.cells #[.int .i64 x] 2))
          have q3 := qq.below (below1 w3 (.cells #[.int .i64 x] 2))
          have b3 := qb.trans ((below1 w3 (.cells #[.int .i64 x] 2)).mono qb.size)
          refine wpAnyH_ready (rs := [8]) (by kernel_rfl) (by simp) ?_
          refine AllReadyH.cons rfl (fun K hK => ?_) AllReadyH.nil
          go_simp
          refine hK.out _ _ q3.all (fun hC => ?_)
          clear hK K
          try simp only [Act.put, List.setIfInBounds_toArray, List.set_cons_zero, List.set_cons_succ]
          generalize hW3 : w3.alloc (.cells #[.int .i64 x] 2) = W3 at r3 o3 q3 b3 hC ⊢
          refine wpAnyH_ready (rs := [9]) (by kernel_rfl) (by simp) ?_
          refine AllReadyH.cons rfl (fun K hK => ?_) AllReadyH.nil
          refine step_append_ints rfl 36 rfl _ _ rfl w.heap.size _ _ ys [x] rfl rfl o3 r3 (by simp; omega) b3.size ?_
          intro v4 w4 ho4 hg4
          have b4 : Below w.heap.size w w4 := b3.grown hg4 b3.size (fun k hk => (World.ownsRow.lt o3 k hk).1)
          have q4 : ArrAt w4 BX BX empA := row_kept q3 hg4 (fun k hk e => rows_apart o3 q3 (by decide) k e hk)
          refine hK.out _ _ q4.all (fun hD => ?_)
          clear hK K
          try simp only [Act.put, List.setIfInBounds_toArray, List.set_cons_zero, List.set_cons_succ]
          refine tkG 10 6 hD ?_
          try simp only [Act.put, List.setIfInBounds_toArray, List.set_cons_zero, List.set_cons_succ]
          refine wpAnyH_done (by kernel_rfl) ?_ _
          refine NoPanic.normal ?_
          clear hH hA hC hD hg4 o3 r3 b3 qo qq qb q3 hW3 qr qt hb3
          rw [← e5.out] at ho4
          go_wp2
          go_roundw
          case rel => exact ⟨7, _, by omega, rfl, by go_num, ho4, q4, b4⟩
          case measure => simp [intOf]
        · obtain ⟨B, hB⟩ : ∃ B, B = A / 128 := ⟨_, rfl⟩
          obtain ⟨j, hj⟩ : ∃ j, j = B ^^^ 1 := ⟨_, rfl⟩
          have hB255 : B ≤ 255 := by omega
          have hjl : B ^^^ 1 < 2 * 1 := xor1_lt (by omega)
          have hxor : bits .xor .i64 (B : Int) 1 = (j : Int) := by rw [hj]; exact xor1_bits B hB255
          have hsr : (A : Int) / 128 = (B : Int) := by omega
          have hjb : (j + 1) * 128 ≤ 256 := by rw [hj]; omega
          have hsl : IntKind.i64.wrap ((j : Int) * 128) = ((j * 128 : Nat) : Int) := by rw [IntKind.wrap_i64]; omega
          have hpow : A / 2 ^ 7 ^^^ 1 = j := by
            rw [hj, hB]
          have HG : Hid (besL es A 7 = grp (fL es) 7 j) := by unfold Hid besL; rw [hpow]
          have e5 : Hid (wayL es A 8 = wayL es A 7 ++ [besL es A 7]) := wayL_succ es A 7
          rw [HG.out] at e5
          have HC := fun W h t => grpC7 j hjb v es W h HO.out t
          have HX := i64_small (grp_lo (fL_lo es) 7 j) (grp_hi (fL_hi es) 7 j)
          clear HX hjl hjb hj hB hpow
          unfold EArr at HC
          generalize grp (fL es) 7 j = x at HC e5
          generalize wayL es A 7 = ys at ho e5 hwl
          have hyl : ys.length ≤ 8 := by omega
          clear HG hwl
          go_wp2_with fail
          refine wp_region_noPanic ?_
          refine wp_region_held_drew (S := fun w' => w'.cell? ⟨BX, 0, none⟩ = some (.int .i64 (emp 0)) ∧ w'.cell? ⟨BX, 1, none⟩ = some (.int .i64 (emp 1)) ∧ w'.cell? ⟨BX, 2, none⟩ = some (.int .i64 (emp 2)) ∧ w'.cell? ⟨BX, 3, none⟩ = some (.int .i64 (emp 3)) ∧ w'.cell? ⟨BX, 4, none⟩ = some (.int .i64 (emp 4)) ∧ w'.cell? ⟨BX, 5, none⟩ = some (.int .i64 (emp 5)) ∧ w'.cell? ⟨BX, 6, none⟩ = some (.int .i64 (emp 6)) ∧ w'.cell? ⟨BX, 7, none⟩ = some (.int .i64 (emp 7)) ∧ w'.cell? ⟨BX, 8, none⟩ = some (.int .i64 (emp 8))) (by kernel_rfl) ⟨c0, c1, c2, c3, c4, c5, c6, c7, c8⟩ (fun hH => ?_)
          have qo : OwnI wr.drew _ _ ys := ho.drewN 1
          have qq : ArrAt wr.drew BX BX empA := hq
          have qb := hb.drew
          have qr : RdL wr.drew v es := hr.below qb
          have qt := ht.on qb
          clear ho hq hb hr1 ht1 c0 c1 c2 c3 c4 c5 c6 c7 c8
          refine tkG 0 27 hH ?_
          try simp only [Act.put, List.setIfInBounds_toArray, List.set_cons_zero, List.set_cons_succ]
          refine tkG 1 28 hH ?_
          try simp only [Act.put, List.setIfInBounds_toArray, List.set_cons_zero, List.set_cons_succ]
          refine tkG 2 29 hH ?_
          try simp only [Act.put, List.setIfInBounds_toArray, List.set_cons_zero, List.set_cons_succ]
          refine tkG 3 30 hH ?_
          try simp only [Act.put, List.setIfInBounds_toArray, List.set_cons_zero, List.set_cons_succ]
          refine tkG 4 31 hH ?_
          try simp only [Act.put, List.setIfInBounds_toArray, List.set_cons_zero, List.set_cons_succ]
          refine tkG 5 32 hH ?_
          try simp only [Act.put, List.setIfInBounds_toArray, List.set_cons_zero, List.set_cons_succ]
          refine tkG 6 33 hH ?_
          try simp only [Act.put, List.setIfInBounds_toArray, List.set_cons_zero, List.set_cons_succ]
          refine wpAnyH_ready (rs := [7]) (by kernel_rfl) (by simp) ?_
          refine AllReadyH.cons rfl (fun K hK => ?_) AllReadyH.nil
          go_simp
          refine (HC _ qr qt).mono ?_
          rintro e w3 ⟨rfl, hb3⟩
          replace qo := qo.below hb3
          replace qq := qq.below hb3
          replace qb := qb.trans (hb3.mono qb.size)
          refine hK.out _ _ qq.all (fun hA => ?_)
          clear hK K
          try simp only [Act.put, List.setIfInBounds_toArray, List.set_cons_zero, List.set_cons_succ]
          have r3 := (ownI_one w3 x).rd
          have o3 := qo.below (below1 w3 (.cells #[.int .i64 x] 2))
          have q3 := qq.below (below1 w3 (.cells #[.int .i64 x] 2))
          have b3 := qb.trans ((below1 w3 (.cells #[.int .i64 x] 2)).mono qb.size)
          refine wpAnyH_ready (rs := [8]) (by kernel_rfl) (by simp) ?_
          refine AllReadyH.cons rfl (fun K hK => ?_) AllReadyH.nil
          go_simp
          refine hK.out _ _ q3.all (fun hC => ?_)
          clear hK K
          try simp only [Act.put, List.setIfInBounds_toArray, List.set_cons_zero, List.set_cons_succ]
          generalize hW3 : w3.alloc (.cells #[.int .i64 x] 2) = W3 at r3 o3 q3 b3 hC ⊢
          refine wpAnyH_ready (rs := [9]) (by kernel_rfl) (by simp) ?_
          refine AllReadyH.cons rfl (fun K hK => ?_) AllReadyH.nil
          refine step_append_ints rfl 36 rfl _ _ rfl w.heap.size _ _ ys [x] rfl rfl o3 r3 (by simp; omega) b3.size ?_
          intro v4 w4 ho4 hg4
          have b4 : Below w.heap.size w w4 := b3.grown hg4 b3.size (fun k hk => (World.ownsRow.lt o3 k hk).1)
          have q4 : ArrAt w4 BX BX empA := row_kept q3 hg4 (fun k hk e => rows_apart o3 q3 (by decide) k e hk)
          refine hK.out _ _ q4.all (fun hD => ?_)
          clear hK K
          try simp only [Act.put, List.setIfInBounds_toArray, List.set_cons_zero, List.set_cons_succ]
          refine tkG 10 6 hD ?_
          try simp only [Act.put, List.setIfInBounds_toArray, List.set_cons_zero, List.set_cons_succ]
          refine wpAnyH_done (by kernel_rfl) ?_ _
          refine NoPanic.normal ?_
          clear hH hA hC hD hg4 o3 r3 b3 qo qq qb q3 hW3 qr qt hb3
          rw [← e5.out] at ho4
          go_wp2
          go_roundw
          case rel => exact ⟨8, _, by omega, rfl, by go_num, ho4, q4, b4⟩
          case measure => simp [intOf]
        · clear c0 c1 c2 c3 c4 c5 c6 c7 c8
          go_wp2
          go_ret
          exact ⟨_, rfl, by rw [RES.out]; exact ho, hb⟩
    · have RES : Hid (wayR es p = []) := by unfold Hid wayR; rw [if_neg (fun h => hp h.2)]
      rw [show decide (0 ≤ p ∧ p ≤ 255) = false from decide_eq_false hp] at HP1
      clear hk hp
      go_enter Tryd.func20, Tryd.ntmps20
      go_wp2_with (first
        | (go_at_call 22; refine (HL _ _ hr).mono ?_; rintro e w1 ⟨rfl, hd1⟩)
        | (go_at_call 37; refine (HP1 _).mono ?_; rintro e w2 ⟨rfl, rfl⟩))
      go_ret
      exact ⟨_, rfl, by rw [RES.out]; exact (ownI_none _).mono hd1.size, hd1.alloc hd1.size _⟩
end Go.Proofs.YtmfopbkhlekhkaaDoor
