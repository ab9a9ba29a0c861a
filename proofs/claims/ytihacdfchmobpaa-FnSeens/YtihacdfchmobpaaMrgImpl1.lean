/- The contract of the program's Seens. -/
import Derived.Test.YtihacdfchmobpaaMrgSpec2
import Derived.Test.YtihacdfchmobpaaEntImplShown
import Derived.WalkMore
import Derived.Deep.LoopGhost
namespace Go.Proofs.Ytihacdfchmobpaa
open Go.RowKit
theorem okL_seq {es : List Ent} (hok : okL es = true) {i : Nat} (hi : i < es.length) : (nth es i).seq ≤ 1000000 := by
  have := ((okL_iff es).1 hok).2.1 (nth es i) (by rw [nth_eq hi]; exact List.getElem_mem hi)
  simp only [okE, Bool.and_eq_true, decide_eq_true_eq] at this
  exact this.2
theorem nwAt_shown {es : List Ent} (hok : okL es = true) {i : Nat} (hi : i < es.length) : nwAt es i = isShown es 1000000 i := by
  unfold nwAt isShown
  have h1 := okL_seq hok hi
  rw [decide_eq_true h1, Bool.true_and]
  by_cases h0 : i = 0
  · simp [h0]
  · have h2 := okL_seq hok (show i - 1 < es.length by omega)
    have h3 : decide ((1000000 : Int) < (nth es (i - 1)).seq) = false := decide_eq_false (by omega)
    rw [h3, Bool.or_false]
theorem snAt_shown {es : List Ent} (hok : okL es = true) {i : Nat} (hi : i < es.length) (q : Int) : snAt es i q = isShown es q i := by
  rw [shown_seen hok q i hi]
  unfold snAt
  cases hq : seenL es (nth es i).key q with
  | none => simp
  | some u =>
    have hu : u ∈ es := List.mem_of_find?_eq_some hq
    have hk := (seenL_some hq).1
    have hm : nth es i ∈ es := by rw [nth_eq hi]; exact List.getElem_mem hi
    simp only [Option.isSome_some, Bool.true_and, Option.getD_some, Option.some.injEq]
    apply decide_eq_decide.2
    exact ⟨fun h => ks_eq (okL_sr hok) hu hm hk h, fun h => by rw [h]⟩
theorem kept_any {es : List Ent} (hok : okL es = true) (qs : List Int) {i : Nat} (hi : i < es.length) : kept es qs i = (1000000 :: qs).any (fun q => isShown es q i) := by
  rw [kept_eq, List.any_cons, nwAt_shown hok hi]
  congr 1
  exact congrArg (fun f => qs.any f) (funext fun q => snAt_shown hok hi q)
theorem any_take0 {qs : List Int} {j : Nat} (hj : j < qs.length) (p : Int → Bool) (h : (qs.take j).any p = false) : (p qs[j] = false → (qs.take (j + 1)).any p = false) ∧ (p qs[j] = true → qs.any p = true) := by
  refine ⟨fun h1 => by rw [any_take hj, h, h1]; rfl, fun h1 => List.any_eq_true.2 ⟨_, List.getElem_mem hj, h1⟩⟩
set_option maxHeartbeats 8000000 in
set_option maxRecDepth 100000 in
theorem implSeens_any (v vq : Value) (es : List Ent) (qs : List Int) (w : World) (hr : RdE w v es) (hq : RdI w vq qs) (hf : ∀ e ∈ es, Fits e) :
    Calls Try.prog 16 #[v, vq] w fun e w' => RowPost w (seensR es qs) e w' := by
  obtain ⟨a, cap, hv, hl, hm, _⟩ := id hr
  obtain ⟨nn, hnn⟩ : ∃ nn, nn = es.length := ⟨_, rfl⟩
  have HNN : Hid (nn = es.length) := hnn
  rw [← hnn] at hv hl
  subst hv
  unfold maxLen at hm
  obtain ⟨aq, cq, hvq, hlq, hmq, _⟩ := id hq
  obtain ⟨mm, hmm⟩ : ∃ mm, mm = qs.length := ⟨_, rfl⟩
  have HMM : Hid (mm = qs.length) := hmm
  rw [← hmm] at hvq hlq
  subst hvq
  unfold maxLen at hmq
  clear hnn hmm
  cases hok : okL es with
  | false =>
    have RES : Hid (seensR es qs = []) := by unfold Hid seensR toldS; simp [hok]
    go_enter Try.func16, Try.ntmps16
    go_wp2
    go_step3
    go_wp2_with fail
    refine (implOk_no _ es _ hr hf hok).mono ?_
    rintro e w1 ⟨rfl, hb1⟩
    go_wp2
    try rw [Exit.noGoto_ret]
    go_ret
    refine ⟨_, rfl, ?_, hb1.alloc hb1.size _⟩
    rw [RES.out]
    exact (ownE_none w1).mono hb1.size
  | true =>
    by_cases hm20 : 20 < mm
    · skip
      have RES : Hid (seensR es qs = []) := by
        unfold Hid seensR toldS
        have : decide (qs.length ≤ 20) = false := decide_eq_false (by rw [← HMM.out]; omega)
        simp [hok, this]
      go_enter Try.func16, Try.ntmps16
      go_wp2
      go_step3
      go_wp2_with fail
      refine (implOk_yes _ es _ hr hf hok).mono ?_
      rintro e w1 ⟨rfl, hb1⟩
      go_wp2
      try rw [Exit.noGoto_ret]
      go_ret
      refine ⟨_, rfl, ?_, hb1.alloc hb1.size _⟩
      rw [RES.out]
      exact (ownE_none w1).mono hb1.size
    · skip
      have RES : Hid (seensR es qs = seensL es qs) := by
        unfold Hid seensR toldS
        have : decide (qs.length ≤ 20) = true := decide_eq_true (by rw [← HMM.out]; omega)
        simp [hok, this]
      have hnl : nn ≤ 300 := by have := okL_len hok; rw [HNN.out]; exact this
      have HOK : Hid (okL es = true) := hok
      have HKA : Hid (∀ k, k < nn → kept es qs k = (1000000 :: qs).any (fun q => isShown es q k)) := fun k hk => kept_any HOK.out qs (by rw [← HNN.out]; exact hk)
      go_enter Try.func16, Try.ntmps16
      go_wp2
      go_step3
      go_wp2_with fail
      refine (implOk_yes _ es _ hr hf hok).mono ?_
      rintro e w1 ⟨rfl, hb1⟩
      clear hok hf
      have hoi := ownI_one w1 1000000
      have bi := hb1.alloc hb1.size (.cells #[.int .i64 1000000] 2)
      have hq1 := hq.below bi
      have hs1 := hb1.size
      clear hb1 hq
      go_wp2_with (at_builtin; (refine wpList_append_ints rfl _ _ rfl w1.heap.size _ _ [1000000] qs rfl rfl hoi hq1 (by rw [← HMM.out]; simp; omega) (by simp) ?_))
      intro v2 w2 ho2 hg2
      have b2 : Below w.heap.size w w2 := bi.grown hg2 (by simp; omega) (fun k hk => by cases hk; exact hs1)
      obtain ⟨sq, hsq⟩ : ∃ sq, sq = 1000000 :: qs := ⟨_, rfl⟩
      have ho2' : OwnI w2 w.heap.size v2 sq := by rw [hsq]; exact ho2.mono hs1
      obtain ⟨g2, c2, hv2⟩ := ownI_some ho2' (by rw [hsq]; simp)
      obtain ⟨sn, hsn⟩ : ∃ sn, sn = sq.length := ⟨_, rfl⟩
      have HSN : Hid (sn = sq.length) := hsn
      have hs21 : sn ≤ 21 := by rw [hsn, hsq, List.length_cons, ← HMM.out]; omega
      rw [← hsn] at hv2
      subst hv2
      rw [← hsq] at HKA
      obtain ⟨a2, cc2, hvv, hlc, hmc, _⟩ := id ho2'.rd
      simp only [Value.slice.injEq] at hvv
      obtain ⟨h1x, h2x, rfl⟩ := hvv
      clear h1x h2x
      rw [← hsn] at hlc
      unfold maxLen at hmc
      have ho3 := ho2'.below (below1 w2 (.cells #[] 32))
      have hgB : g2 < w2.heap.size := ownI_lt ho2' g2 rfl
      obtain ⟨B2, hB2⟩ : ∃ B2, B2 = w2.heap.size := ⟨_, rfl⟩
      have hoe : OwnE (w2.alloc (.cells #[] 32)) B2 (.slice (some ⟨w2.heap.size, 0, none⟩) 0 0) [] := by rw [hB2]; exact ownE_none w2
      have hszB : B2 ≤ (w2.alloc (.cells #[] 32)).heap.size := by simp; omega
      have hBw2 : w.heap.size ≤ B2 := by rw [hB2]; exact b2.size
      rw [← hB2] at hgB
      have b3 := b2.alloc b2.size (.cells #[] 32)
      clear hsq hsn ho2 ho2' hg2 b2 bi hoi hq1 hs1 hB2
      go_wp2
      go_step3
      go_wp2
      go_loopg [6, 26] nn (fun gg u i wr => ∃ k : Nat, k + gg = nn ∧ i = .int .i64 k ∧ OwnE wr B2 u (seTo es qs k) ∧ OwnI wr w.heap.size (.slice (some ⟨g2, 0, none⟩) sn c2) sq ∧ B2 ≤ wr.heap.size ∧ Below w.heap.size w wr)
      case atStart => exact ⟨0, by omega, rfl, hoe, ho3, hszB, b3⟩
      case round =>
        obtain ⟨k, hkg, rfl, ho, hoi, hsB, hb⟩ := hrel
        clear ho3 hoe b3 hszB
        by_cases hlt : k < nn
        · cases gk with
          | zero => exfalso; omega
          | succ gg =>
            obtain ⟨b, off, rfl, hc⟩ := (hr.below hb).at HNN.out k (by rw [← HNN.out]; exact hlt)
            obtain ⟨x, hx⟩ : ∃ x, x = nth es k := ⟨_, rfl⟩
            rw [← hx] at hc
            have HX : Hid (x = nth es k) := hx
            obtain ⟨hY, hN⟩ := seTo_at es qs k
            have HYES : Hid (sq.any (fun q => isShown es q k) = true → seTo es qs (k + 1) = seTo es qs k ++ [x]) := fun h => by rw [hx]; exact hY (by rw [HKA.out k hlt]; exact h)
            have HNO : Hid (sq.any (fun q => isShown es q k) = false → seTo es qs (k + 1) = seTo es qs k) := fun h => hN (by rw [HKA.out k hlt]; exact h)
            have hsl : (seTo es qs k).length ≤ 300 := by have := seTo_len es qs k; omega
            clear hx hY hN
            obtain ⟨c0, c1, c2', c3⟩ := id hc
            have hoA := ho.below (below1 wr (.cells #[.string x.key, .string x.val, .int .i64 x.seq, .bool x.gone] 32))
            have hoiA := hoi.below (below1 wr (.cells #[.string x.key, .string x.val, .int .i64 x.seq, .bool x.gone] 32))
            have hbA := hb.alloc hb.size (.cells #[.string x.key, .string x.val, .int .i64 x.seq, .bool x.gone] 32)
            have hxA := entAt_new wr x 32
            have hBw : w.heap.size ≤ wr.heap.size := hb.size
            have hlB : ∀ j, u6.ownBlock = some j → j < wr.heap.size := ownE_lt ho
            have hsBA : B2 ≤ (wr.alloc (.cells #[.string x.key, .string x.val, .int .i64 x.seq, .bool x.gone] 32)).heap.size := by simp; omega
            clear ho hoi hb hsB
            go_wp2
            generalize wr.alloc (.cells #[.string x.key, .string x.val, .int .i64 x.seq, .bool x.gone] 32) = W1 at hoA hoiA hbA hxA hsBA ⊢
            generalize wr.heap.size = B at hxA hBw hlB ⊢
            clear c0 c1 c2' c3 hc wr
            go_loopg [6, 33] sn (fun g3 u j wr => ∃ jn : Nat, jn + g3 = sn ∧ j = .int .i64 jn ∧ Hid ((sq.take jn).any (fun q => isShown es q k) = false) ∧ OwnE wr B2 u (seTo es qs k) ∧ OwnI wr w.heap.size (.slice (some ⟨g2, 0, none⟩) sn c2) sq ∧ EntAt wr B 0 x ∧ B2 ≤ wr.heap.size ∧ Below w.heap.size w wr)
            case atStart => exact ⟨0, by omega, rfl, by unfold Hid; simp, hoA, hoiA, hxA, hsBA, hbA⟩
            case round =>
              obtain ⟨jn, hjg, rfl, HJ, ho, hoi, hxa, hsB, hb⟩ := hrel
              clear hoA hoiA hxA hbA hsBA
              by_cases hjl : jn < sn
              · cases gk with
                | zero => exfalso; omega
                | succ g3 =>
                  obtain ⟨b', o', hbo, hcq⟩ := hoi.rd.at jn (by rw [← HSN.out]; exact hjl)
                  cases hbo
                  obtain ⟨q, hqq⟩ : ∃ q, q = sq[jn]'(by rw [← HSN.out]; exact hjl) := ⟨_, rfl⟩
                  rw [← hqq] at hcq
                  simp only [Nat.zero_add] at hcq
                  obtain ⟨h0, h1⟩ := any_take0 (show jn < sq.length by rw [← HSN.out]; exact hjl) (fun q => isShown es q k) HJ.out
                  rw [← hqq] at h0 h1
                  have hrw := hr.below hb
                  have hjc : jn < c2 := by omega
                  cases hsh : isShown es q k with
                  | false =>
                    have HJ2 : Hid ((sq.take (jn + 1)).any (fun q => isShown es q k) = false) := h0 hsh
                    clear h0 h1 hqq
                    go_wp2_with fail
                    refine (isSeen_at _ es k q false _ hrw (by rw [← HNN.out]; exact hlt) hsh).mono ?_
                    rintro e w3 ⟨rfl, n3, rfl⟩
                    have hb3 := belowN hb n3
                    go_wp2
                    go_roundg g3
                    case rel => exact ⟨jn + 1, by omega, by go_num, HJ2, ho, hoi, hxa, hsB, hb3⟩
                    case measure => omega
                  | true =>
                    have HS : Hid (seTo es qs (k + 1) = seTo es qs k ++ [x]) := HYES.out (h1 hsh)
                    clear h0 h1 hqq
                    go_wp2_with fail
                    refine (isSeen_at _ es k q true _ hrw (by rw [← HNN.out]; exact hlt) hsh).mono ?_
                    rintro e w3 ⟨rfl, n3, rfl⟩
                    have hb3 := belowN hb n3
                    have ho3 := ho.drewN n3
                    have hoi3 := hoi.drewN n3
                    have hxa3 : EntAt (wr.drewN n3) B 0 x := hxa
                    have hsB3 : B2 ≤ (wr.drewN n3).heap.size := hsB
                    generalize wr.drewN n3 = W3 at hb3 ho3 hoi3 hxa3 hsB3 ⊢
                    clear ho hoi hxa hb hrw hcq hsB
                    obtain ⟨c0, c1, c2', c3⟩ := id hxa3
                    simp only [Nat.zero_add] at c1 c2' c3
                    have hb4 := hb3.alloc hb3.size (.cells #[.string x.key, .string x.val, .int .i64 x.seq, .bool x.gone] 32)
                    have ho4 := ho3.below (below1 W3 (.cells #[.string x.key, .string x.val, .int .i64 x.seq, .bool x.gone] 32))
                    have hoi4 := hoi3.below (below1 W3 (.cells #[.string x.key, .string x.val, .int .i64 x.seq, .bool x.gone] 32))
                    have h14 := ownE_1 W3 x
                    clear ho3 hoi3 hb3
                    go_wp2_with (at_builtin; (refine wpList_append_ents rfl _ _ rfl B2 _ _ (seTo es qs k) [x] rfl rfl ho4 h14.rd (by simp; omega) (by simp; omega) ?_))
                    intro v5 w5 ho5 hg5
                    have hb5 := hb4.grown hg5 hb4.size (fun j hj => by have := (World.ownsRow.lt ho4 j hj).1; omega)
                    have hoi5 : OwnI w5 w.heap.size (.slice (some ⟨g2, 0, none⟩) sn c2) sq := row_kept hoi4 hg5 (fun j hj e => by have h1 := (World.ownsRow.lt ho4 j e).1; have hj2 : g2 = j := Option.some.inj hj; omega)
                    have hsB5 : B2 ≤ w5.heap.size := Nat.le_trans (by simp; omega) hg5.size
                    rw [← HS.out] at ho5
                    clear hb4 ho4 hoi4 h14 hg5 c0 c1 c2' c3 hxa3
                    go_wp2
                    go_roundg gg
                    case rel => exact ⟨k + 1, by omega, by go_num, ho5, hoi5, hsB5, hb5⟩
                    case measure => omega
              · skip
                have hje : jn = sn := by omega
                have HS : Hid (seTo es qs (k + 1) = seTo es qs k) := HNO.out (by have := HJ.out; rw [hje, HSN.out, List.take_length] at this; exact this)
                rw [← HS.out] at ho
                clear hje
                go_wp2
                go_roundg gg
                case rel => exact ⟨k + 1, by omega, by go_num, ho, hoi, hsB, hb⟩
                case measure => omega
        · skip
          have hke : k = nn := by omega
          have HE : Hid (seTo es qs k = seensR es qs) := by unfold Hid; rw [RES.out, hke, HNN.out]; rfl
          rw [HE.out] at ho
          clear hke
          go_wp2
          try rw [Exit.noGoto_ret]
          go_ret
          exact ⟨_, rfl, ho.mono hBw2, hb⟩
end Go.Proofs.Ytihacdfchmobpaa
