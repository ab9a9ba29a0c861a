/- The contract of the program's Seens. The contracts of the program's endOfKey, withoutGoneEnd, Bottom. The contract of the program's Bottom. -/
import Derived.Test.YtbefmbjlogkmbaaGreatMrgSpec2
import Derived.Test.YtbefmbjlogkmbaaGreatG25
import Derived.WalkMore
import Derived.Deep.LoopGhost
namespace Go.Proofs.YtbefmbjlogkmbaaGreat
set_option maxHeartbeats 16000000
set_option maxRecDepth 100000
open Go.RowKit
theorem okL_seq {es : List Ent} (hok : okL es = true) {i : Nat} (hi : i < es.length) : (nth es i).seq ≤ 1000000 := by
  have := ((okL_iff es).1 hok).2.1 (nth es i) (by rw [nth_eq hi]; exact List.getElem_mem hi)
  simp only [okE, Bool.and_eq_true, decide_eq_true_eq] at this
  exact this.2
theorem nwAt_shown {es : List Ent} (hok : okL es = true) {i : Nat} (hi : i < es.length) : nwAt es i = isShown es 1000000 i := by
  unfold nwAt isShown
  have h1 := okL_seq hok hi
  rw [decide_eq_true h1, Bool.true_and]
  by_cases h0 : i = 0
  · simp [h0]
  · have h2 := okL_seq hok (show i - 1 < es.length by omega)
    have h3 : decide ((1000000 : Int) < (nth es (i - 1)).seq) = false := decide_eq_false (by omega)
    rw [h3, Bool.or_false]
theorem snAt_shown {es : List Ent} (hok : okL es = true) {i : Nat} (hi : i < es.length) (q : Int) : snAt es i q = isShown es q i := by
  rw [shown_seen hok q i hi]
  unfold snAt
  cases hq : seenL es (nth es i).key q with
  | none => simp
  | some u =>
    have hu : u ∈ es := List.mem_of_find?_eq_some hq
    have hk := (seenL_some hq).1
    have hm : nth es i ∈ es := by rw [nth_eq hi]; exact List.getElem_mem hi
    simp only [Option.isSome_some, Bool.true_and, Option.getD_some, Option.some.injEq]
    apply decide_eq_decide.2
    exact ⟨fun h => ks_eq (okL_sr hok) hu hm hk h, fun h => by rw [h]⟩
theorem kept_any {es : List Ent} (hok : okL es = true) (qs : List Int) {i : Nat} (hi : i < es.length) : kept es qs i = (1000000 :: qs).any (fun q => isShown es q i) := by
  rw [kept_eq, List.any_cons, nwAt_shown hok hi]
  congr 1
  exact congrArg (fun f => qs.any f) (funext fun q => snAt_shown hok hi q)
theorem any_take0 {qs : List Int} {j : Nat} (hj : j < qs.length) (p : Int → Bool) (h : (qs.take j).any p = false) : (p qs[j] = false → (qs.take (j + 1)).any p = false) ∧ (p qs[j] = true → qs.any p = true) := by
  refine ⟨fun h1 => by rw [any_take hj, h, h1]; rfl, fun h1 => List.any_eq_true.2 ⟨_, List.getElem_mem hj, h1⟩⟩
theorem implSeens_any (v vq : Value) (es : List Ent) (qs : List Int) (w : World) (hr : RdE w v es) (hq : RdI w vq qs) (hf : ∀ e ∈ es, Fits e) :
    Calls Tryz.prog 90 #[v, vq] w fun e w' => RowPost w (seensR es qs) e w' := by
  obtain ⟨a, cap, hv, hl, hm, _⟩ := id hr
  obtain ⟨nn, hnn⟩ : ∃ nn, nn = es.length := ⟨_, rfl⟩
  have HNN : Hid (nn = es.length) := hnn
  rw [← hnn] at hv hl
  subst hv
  unfold maxLen at hm
  obtain ⟨aq, cq, hvq, hlq, hmq, _⟩ := id hq
  obtain ⟨mm, hmm⟩ : ∃ mm, mm = qs.length := ⟨_, rfl⟩
  have HMM : Hid (mm = qs.length) := hmm
  rw [← hmm] at hvq hlq
  subst hvq
  unfold maxLen at hmq
  clear hnn hmm
  cases hok : okL es with
  | false =>
    have RES : Hid (seensR es qs = []) := by unfold Hid seensR toldS; simp [hok]
    go_enter Tryz.func90, Tryz.ntmps90
    go_wp2
    go_step3
    go_wp2_with fail
    refine (implOk_no _ es _ hr hf hok).mono ?_
    rintro e w1 ⟨rfl, hb1⟩
    go_wp2
    try rw [Exit.noGoto_ret]
    go_ret
    refine ⟨_, rfl, ?_, hb1.alloc hb1.size _⟩
    rw [RES.out]
    exact (ownE_none w1).mono hb1.size
  | true =>
    by_cases hm20 : 20 < mm
    · skip
      have RES : Hid (seensR es qs = []) := by
        unfold Hid seensR toldS
        have : decide (qs.length ≤ 20) = false := decide_eq_false (by rw [← HMM.out]; omega)
        simp [hok, this]
      go_enter Tryz.func90, Tryz.ntmps90
      go_wp2
      go_step3
      go_wp2_with fail
      refine (implOk_yes _ es _ hr hf hok).mono ?_
      rintro e w1 ⟨rfl, hb1⟩
      go_wp2
      try rw [Exit.noGoto_ret]
      go_ret
      refine ⟨_, rfl, ?_, hb1.alloc hb1.size _⟩
      rw [RES.out]
      exact (ownE_none w1).mono hb1.size
    · skip
      have RES : Hid (seensR es qs = seensL es qs) := by
        unfold Hid seensR toldS
        have : decide (qs.length ≤ 20) = true := decide_eq_true (by rw [← HMM.out]; omega)
        simp [hok, this]
      have hnl : nn ≤ 300 := by have := okL_len hok; rw [HNN.out]; exact this
      have HOK : Hid (okL es = true) := hok
      have HKA : Hid (∀ k, k < nn → kept es qs k = (1000000 :: qs).any (fun q => isShown es q k)) := fun k hk => kept_any HOK.out qs (by rw [← HNN.out]; exact hk)
      go_enter Tryz.func90, Tryz.ntmps90
      go_wp2
      go_step3
      go_wp2_with fail
      refine (implOk_yes _ es _ hr hf hok).mono ?_
      rintro e w1 ⟨rfl, hb1⟩
      clear hok hf
      have hoi := ownI_one w1 1000000
      have bi := hb1.alloc hb1.size (.cells #[.int .i64 1000000] 2)
      have hq1 := hq.below bi
      have hs1 := hb1.size
      clear hb1 hq
      go_wp2_with (at_builtin; (refine wpList_append_ints rfl _ _ rfl w1.heap.size _ _ [1000000] qs rfl rfl hoi hq1 (by rw [← HMM.out]; simp; omega) (by simp) ?_))
      intro v2 w2 ho2 hg2
      have b2 : Below w.heap.size w w2 := bi.grown hg2 (by simp; omega) (fun k hk => by cases hk; exact hs1)
      obtain ⟨sq, hsq⟩ : ∃ sq, sq = 1000000 :: qs := ⟨_, rfl⟩
      have ho2' : OwnI w2 w.heap.size v2 sq := by rw [hsq]; exact ho2.mono hs1
      obtain ⟨g2, c2, hv2⟩ := ownI_some ho2' (by rw [hsq]; simp)
      obtain ⟨sn, hsn⟩ : ∃ sn, sn = sq.length := ⟨_, rfl⟩
      have HSN : Hid (sn = sq.length) := hsn
      have hs21 : sn ≤ 21 := by rw [hsn, hsq, List.length_cons, ← HMM.out]; omega
      rw [← hsn] at hv2
      subst hv2
      rw [← hsq] at HKA
      obtain ⟨a2, cc2, hvv, hlc, hmc, _⟩ := id ho2'.rd
      simp only [Value.slice.injEq] at hvv
      obtain ⟨h1x, h2x, rfl⟩ := hvv
      clear h1x h2x
      rw [← hsn] at hlc
      unfold maxLen at hmc
      have ho3 := ho2'.below (below1 w2 (.cells #[] 89))
      have hgB : g2 < w2.heap.size := ownI_lt ho2' g2 rfl
      obtain ⟨B2, hB2⟩ : ∃ B2, B2 = w2.heap.size := ⟨_, rfl⟩
      have hoe : OwnE (w2.alloc (.cells #[] 89)) B2 (.slice (some ⟨w2.heap.size, 0, none⟩) 0 0) [] := by rw [hB2]; exact ownE_none w2
      have hszB : B2 ≤ (w2.alloc (.cells #[] 89)).heap.size := by simp; omega
      have hBw2 : w.heap.size ≤ B2 := by rw [hB2]; exact b2.size
      rw [← hB2] at hgB
      have b3 := b2.alloc b2.size (.cells #[] 89)
      clear hsq hsn ho2 ho2' hg2 b2 bi hoi hq1 hs1 hB2
      go_wp2
      go_step3
      go_wp2
      go_loopg [6, 26] nn (fun gg u i wr => ∃ k : Nat, k + gg = nn ∧ i = .int .i64 k ∧ OwnE wr B2 u (seTo es qs k) ∧ OwnI wr w.heap.size (.slice (some ⟨g2, 0, none⟩) sn c2) sq ∧ B2 ≤ wr.heap.size ∧ Below w.heap.size w wr)
      case atStart => exact ⟨0, by omega, rfl, hoe, ho3, hszB, b3⟩
      case round =>
        obtain ⟨k, hkg, rfl, ho, hoi, hsB, hb⟩ := hrel
        clear ho3 hoe b3 hszB
        by_cases hlt : k < nn
        · cases gk with
          | zero => exfalso; omega
          | succ gg =>
            obtain ⟨b, off, rfl, hc⟩ := (hr.below hb).at HNN.out k (by rw [← HNN.out]; exact hlt)
            obtain ⟨x, hx⟩ : ∃ x, x = nth es k := ⟨_, rfl⟩
            rw [← hx] at hc
            have HX : Hid (x = nth es k) := hx
            obtain ⟨hY, hN⟩ := seTo_at es qs k
            have HYES : Hid (sq.any (fun q => isShown es q k) = true → seTo es qs (k + 1) = seTo es qs k ++ [x]) := fun h => by rw [hx]; exact hY (by rw [HKA.out k hlt]; exact h)
            have HNO : Hid (sq.any (fun q => isShown es q k) = false → seTo es qs (k + 1) = seTo es qs k) := fun h => hN (by rw [HKA.out k hlt]; exact h)
            have hsl : (seTo es qs k).length ≤ 300 := by have := seTo_len es qs k; omega
            clear hx hY hN
            obtain ⟨c0, c1, c2', c3⟩ := id hc
            have hoA := ho.below (below1 wr (.cells #[.string x.key, .string x.val, .int .i64 x.seq, .bool x.gone] 89))
            have hoiA := hoi.below (below1 wr (.cells #[.string x.key, .string x.val, .int .i64 x.seq, .bool x.gone] 89))
            have hbA := hb.alloc hb.size (.cells #[.string x.key, .string x.val, .int .i64 x.seq, .bool x.gone] 89)
            have hxA := entAt_new wr x 89
            have hBw : w.heap.size ≤ wr.heap.size := hb.size
            have hlB : ∀ j, u6.ownBlock = some j → j < wr.heap.size := ownE_lt ho
            have hsBA : B2 ≤ (wr.alloc (.cells #[.string x.key, .string x.val, .int .i64 x.seq, .bool x.gone] 89)).heap.size := by simp; omega
            clear ho hoi hb hsB
            go_wp2
            generalize wr.alloc (.cells #[.string x.key, .string x.val, .int .i64 x.seq, .bool x.gone] 89) = W1 at hoA hoiA hbA hxA hsBA ⊢
            generalize wr.heap.size = B at hxA hBw hlB ⊢
            clear c0 c1 c2' c3 hc wr
            go_loopg [6, 33] sn (fun g3 u j wr => ∃ jn : Nat, jn + g3 = sn ∧ j = .int .i64 jn ∧ Hid ((sq.take jn).any (fun q => isShown es q k) = false) ∧ OwnE wr B2 u (seTo es qs k) ∧ OwnI wr w.heap.size (.slice (some ⟨g2, 0, none⟩) sn c2) sq ∧ EntAt wr B 0 x ∧ B2 ≤ wr.heap.size ∧ Below w.heap.size w wr)
            case atStart => exact ⟨0, by omega, rfl, by unfold Hid; simp, hoA, hoiA, hxA, hsBA, hbA⟩
            case round =>
              obtain ⟨jn, hjg, rfl, HJ, ho, hoi, hxa, hsB, hb⟩ := hrel
              clear hoA hoiA hxA hbA hsBA
              by_cases hjl : jn < sn
              · cases gk with
                | zero => exfalso; omega
                | succ g3 =>
                  obtain ⟨b', o', hbo, hcq⟩ := hoi.rd.at jn (by rw [← HSN.out]; exact hjl)
                  cases hbo
                  obtain ⟨q, hqq⟩ : ∃ q, q = sq[jn]'(by rw [← HSN.out]; exact hjl) := ⟨_, rfl⟩
                  rw [← hqq] at hcq
                  simp only [Nat.zero_add] at hcq
                  obtain ⟨h0, h1⟩ := any_take0 (show jn < sq.length by rw [← HSN.out]; exact hjl) (fun q => isShown es q k) HJ.out
                  rw [← hqq] at h0 h1
                  have hrw := hr.below hb
                  have hjc : jn < c2 := by omega
                  cases hsh : isShown es q k with
                  | false =>
                    have HJ2 : Hid ((sq.take (jn + 1)).any (fun q => isShown es q k) = false) := h0 hsh
                    clear h0 h1 hqq
                    go_wp2_with fail
                    refine (isSeen_at _ es k q false _ hrw (by rw [← HNN.out]; exact hlt) hsh).mono ?_
                    rintro e w3 ⟨rfl, n3, rfl⟩
                    have hb3 := belowN hb n3
                    go_wp2
                    go_roundg g3
                    case rel => exact ⟨jn + 1, by omega, by go_num, HJ2, ho, hoi, hxa, hsB, hb3⟩
                    case measure => omega
                  | true =>
                    have HS : Hid (seTo es qs (k + 1) = seTo es qs k ++ [x]) := HYES.out (h1 hsh)
                    clear h0 h1 hqq
                    go_wp2_with fail
                    refine (isSeen_at _ es k q true _ hrw (by rw [← HNN.out]; exact hlt) hsh).mono ?_
                    rintro e w3 ⟨rfl, n3, rfl⟩
                    have hb3 := belowN hb n3
                    have ho3 := ho.drewN n3
                    have hoi3 := hoi.drewN n3
                    have hxa3 : EntAt (wr.drewN n3) B 0 x := hxa
                    have hsB3 : B2 ≤ (wr.drewN n3).heap.size := hsB
                    generalize wr.drewN n3 = W3 at hb3 ho3 hoi3 hxa3 hsB3 ⊢
                    clear ho hoi hxa hb hrw hcq hsB
                    obtain ⟨c0, c1, c2', c3⟩ := id hxa3
                    simp only [Nat.zero_add] at c1 c2' c3
                    have hb4 := hb3.alloc hb3.size (.cells #[.string x.key, .string x.val, .int .i64 x.seq, .bool x.gone] 89)
                    have ho4 := ho3.below (below1 W3 (.cells #[.string x.key, .string x.val, .int .i64 x.seq, .bool x.gone] 89))
                    have hoi4 := hoi3.below (below1 W3 (.cells #[.string x.key, .string x.val, .int .i64 x.seq, .bool x.gone] 89))
                    have h14 := ownE_1 W3 x
                    clear ho3 hoi3 hb3
                    go_wp2_with (at_builtin; (refine wpList_append_ents rfl _ _ rfl B2 _ _ (seTo es qs k) [x] rfl rfl ho4 h14.rd (by simp; omega) (by simp; omega) ?_))
                    intro v5 w5 ho5 hg5
                    have hb5 := hb4.grown hg5 hb4.size (fun j hj => by have := (World.ownsRow.lt ho4 j hj).1; omega)
                    have hoi5 : OwnI w5 w.heap.size (.slice (some ⟨g2, 0, none⟩) sn c2) sq := row_kept hoi4 hg5 (fun j hj e => by have h1 := (World.ownsRow.lt ho4 j e).1; have hj2 : g2 = j := Option.some.inj hj; omega)
                    have hsB5 : B2 ≤ w5.heap.size := Nat.le_trans (by simp; omega) hg5.size
                    rw [← HS.out] at ho5
                    clear hb4 ho4 hoi4 h14 hg5 c0 c1 c2' c3 hxa3
                    go_wp2
                    go_roundg gg
                    case rel => exact ⟨k + 1, by omega, by go_num, ho5, hoi5, hsB5, hb5⟩
                    case measure => omega
              · skip
                have hje : jn = sn := by omega
                have HS : Hid (seTo es qs (k + 1) = seTo es qs k) := HNO.out (by have := HJ.out; rw [hje, HSN.out, List.take_length] at this; exact this)
                rw [← HS.out] at ho
                clear hje
                go_wp2
                go_roundg gg
                case rel => exact ⟨k + 1, by omega, by go_num, ho, hoi, hsB, hb⟩
                case measure => omega
        · skip
          have hke : k = nn := by omega
          have HE : Hid (seTo es qs k = seensR es qs) := by unfold Hid; rw [RES.out, hke, HNN.out]; rfl
          rw [HE.out] at ho
          clear hke
          go_wp2
          try rw [Exit.noGoto_ret]
          go_ret
          exact ⟨_, rfl, ho.mono hBw2, hb⟩
open Go.RowKit
def stripG : List Ent → List Ent
  | [] => []
  | x :: r => if (stripG r).isEmpty && x.gone then [] else x :: stripG r
theorem stripG_sub : ∀ es : List Ent, (stripG es).Sublist es
  | [] => List.Sublist.slnil
  | x :: r => by
    rw [stripG]
    split
    · exact List.nil_sublist _
    · exact (stripG_sub r).cons_cons x
theorem stripG_gone : ∀ (l : List Ent) (x : Ent), x.gone = true → stripG (l ++ [x]) = stripG l
  | [], x, h => by simp [stripG, h]
  | y :: r, x, h => by rw [List.cons_append, stripG, stripG_gone r x h, stripG]
theorem stripG_stay : ∀ (l : List Ent) (x : Ent), x.gone = false → stripG (l ++ [x]) = l ++ [x]
  | [], x, h => by simp [stripG, h]
  | y :: r, x, h => by
    rw [List.cons_append, stripG, stripG_stay r x h]
    simp
theorem bottom_cons (x : Ent) (r : List Ent) : bottomOf (x :: r) = botS x (bottomOf r) := rfl
theorem bottom_group : ∀ (g rest : List Ent) (K : ByteArray), (∀ x ∈ g, x.key = K) → (∀ x ∈ rest, x.key ≠ K) → bottomOf (g ++ rest) = stripG g ++ bottomOf rest
  | [], rest, K, _, _ => by simp [stripG]
  | x :: r, rest, K, h1, h2 => by
    have ih := bottom_group r rest K (fun y hy => h1 y (List.mem_cons_of_mem _ hy)) h2
    have hx := h1 x List.mem_cons_self
    rw [List.cons_append, bottom_cons, ih, stripG]
    cases hs : stripG r with
    | nil =>
      have hla : (decide ((bottomOf rest).length = 0) || !kEq (nth (bottomOf rest) 0).key x.key) = true := by
        cases hb : bottomOf rest with
        | nil => rfl
        | cons z s =>
          have : z ∈ rest := (bottom_sub rest).subset (by rw [hb]; exact List.mem_cons_self)
          have := h2 z this
          rw [nth_zero, hx]
          simp [kEq, this]
      unfold botS
      rw [List.nil_append, hla, Bool.true_and, List.isEmpty_nil, Bool.true_and]
      cases x.gone <;> simp
    | cons y s =>
      have : y ∈ r := (stripG_sub r).subset (by rw [hs]; exact List.mem_cons_self)
      have hy := h1 y (List.mem_cons_of_mem _ this)
      unfold botS
      rw [List.cons_append, nth_zero, hx, hy]
      simp [kEq]
theorem bottom_step {al : List Ent} (hok : okL al = true) {k t : Nat} (hkt : k < t) (ht : t ≤ al.length) (h1 : ∀ j, k ≤ j → j < t → (nth al j).key = (nth al k).key) (h2 : t < al.length → (nth al t).key ≠ (nth al k).key) :
    bottomOf (al.drop k) = stripG ((al.take t).drop k) ++ bottomOf (al.drop t) := by
  have hd : al.drop k = (al.take t).drop k ++ al.drop t := by
    have := congrArg (List.drop k) (List.take_append_drop t al)
    rw [← this, List.drop_append, List.length_take, Nat.min_eq_left ht, show k - t = 0 by omega, List.drop_zero]
  rw [hd]
  refine bottom_group _ _ (nth al k).key (fun x hx => ?_) (fun x hx => ?_)
  · obtain ⟨i, hi, rfl⟩ := List.getElem_of_mem hx
    rw [List.length_drop, List.length_take, Nat.min_eq_left ht] at hi
    have e := h1 (k + i) (by omega) (by omega)
    rw [← e, ← nth_eq (es := (al.take t).drop k), nth_drop (by rw [List.length_take]; omega), nth_take (by omega) (by omega)]
  · obtain ⟨i, hi, rfl⟩ := List.getElem_of_mem hx
    rw [List.length_drop] at hi
    rw [← nth_eq (es := al.drop t), nth_drop (by omega)]
    intro he
    refine h2 (by omega) ?_
    by_cases hi0 : i = 0
    · subst hi0; exact he
    · exact key_mid (okL_ij hok hkt (by omega)) (okL_ij hok (show t < t + i by omega) (by omega)) he.symm
def EndPost (w : World) (es : List Ent) (k : Nat) (e : Ending) (w' : World) : Prop :=
  ∃ t : Nat, e = .returned (.int .i64 t) ∧ k < t ∧ t ≤ es.length ∧ (∀ j, k ≤ j → j < t → (nth es j).key = (nth es k).key) ∧ (t < es.length → (nth es t).key ≠ (nth es k).key) ∧ ∃ n, w' = w.drewN n
theorem endOfKey_any (v : Value) (es : List Ent) (k : Nat) (w : World) (hr : RdE w v es) (hk : k < es.length) :
    Calls Tryz.prog 91 #[v, .int .i64 k] w fun e w' => EndPost w es k e w' := by
  obtain ⟨a, cap, hv, hl, hm, _⟩ := id hr
  obtain ⟨nn, hnn⟩ : ∃ nn, nn = es.length := ⟨_, rfl⟩
  have HNN : Hid (nn = es.length) := hnn
  rw [← hnn] at hv hl hk
  subst hv
  unfold maxLen at hm
  obtain ⟨b, off, rfl, hck⟩ := hr.at hnn k (by rw [← hnn]; exact hk)
  obtain ⟨x, hx⟩ : ∃ x, x = nth es k := ⟨_, rfl⟩
  rw [← hx] at hck
  have HX : Hid (x = nth es k) := hx
  clear hx hnn
  go_enter Tryz.func91, Tryz.ntmps91
  go_wp2
  go_loopw [5] (fun i wr => ∃ t : Nat, k ≤ t ∧ t ≤ nn ∧ i = .int .i64 t ∧ Hid (∀ j, k ≤ j → j < t → (nth es j).key = x.key) ∧ ∃ n, wr = w.drewN n) (fun i _ => nn - (intOf i).toNat)
  case atStart => exact ⟨k, Nat.le_refl _, by omega, rfl, (fun j h1 h2 => by omega), 0, rfl⟩
  case round =>
    obtain ⟨t, hkt, htn, rfl, HJ, n, rfl⟩ := hrel
    by_cases hlt : t < nn
    · obtain ⟨b2, off2, ha2, hd⟩ := (hr.drewN n).at HNN.out t (by rw [← HNN.out]; exact hlt)
      cases ha2
      obtain ⟨y, hy⟩ : ∃ y, y = nth es t := ⟨_, rfl⟩
      rw [← hy] at hd
      have hkb := beq_kEq y.key x.key
      have htl : decide (t < nn) = true := decide_eq_true hlt
      have hck2 : EntAt (w.drewN n) b (off + k * 4) x := hck
      have htc : t < cap := by omega
      have hkc : k < cap := by omega
      cases hke : kEq y.key x.key with
      | true =>
        rw [hke] at hkb
        have HJ2 : Hid (∀ j, k ≤ j → j < t + 1 → (nth es j).key = x.key) := fun j h1 h2 => by
          by_cases hjt : j = t
          · rw [hjt, ← hy]; exact of_decide_eq_true hke
          · exact HJ.out j h1 (by omega)
        clear hy
        go_wp2_with fail
        refine wp_region_noPanic ?_
        refine wp_region_held_drew (S := fun w' => EntAt w' b (off + t * 4) y ∧ EntAt w' b (off + k * 4) x) (by kernel_rfl) ⟨hd, hck2⟩ (fun hH => ?_)
        refine tkA 0 7 hH ?_; try simp only [Act.put, sA, sZ, sS]
        refine tkA 1 8 hH ?_; try simp only [Act.put, sA, sZ, sS]
        refine tkA 2 9 hH ?_; try simp only [Act.put, sA, sZ, sS]
        refine tkA 3 10 hH ?_; try simp only [Act.put, sA, sZ, sS]
        refine tkA 4 11 hH ?_; try simp only [Act.put, sA, sZ, sS]
        refine tkA 5 12 hH ?_; try simp only [Act.put, sA, sZ, sS]
        refine tkA 6 13 hH ?_; try simp only [Act.put, sA, sZ, sS]
        refine tkA 7 14 hH ?_; try simp only [Act.put, sA, sZ, sS]
        refine tkA 8 15 hH ?_; try simp only [Act.put, sA, sZ, sS]
        refine tkA 9 16 hH ?_; try simp only [Act.put, sA, sZ, sS]
        refine tkA 10 17 hH ?_; try simp only [Act.put, sA, sZ, sS]
        refine tkA 11 18 hH ?_; try simp only [Act.put, sA, sZ, sS]
        refine tkA 12 19 hH ?_; try simp only [Act.put, sA, sZ, sS]
        refine tkA 13 20 hH ?_; try simp only [Act.put, sA, sZ, sS]
        refine tkA 14 21 hH ?_; try simp only [Act.put, sA, sZ, sS]
        refine tkA 15 22 hH ?_; try simp only [Act.put, sA, sZ, sS]
        refine tkA 16 23 hH ?_; try simp only [Act.put, sA, sZ, sS]
        refine wpAnyH_done (by kernel_rfl) ?_ _
        refine NoPanic.normal ?_
        go_wp2
        go_roundw
        case rel => exact ⟨t + 1, by omega, by omega, by go_num, HJ2, n + 1, rfl⟩
        case measure => simp [intOf]; omega
      | false =>
        rw [hke] at hkb
        have hne : y.key ≠ x.key := of_decide_eq_false hke
        have HE : Hid (EndPost w es k (.returned (.int .i64 t)) (w.drewN (n + 1))) := by
          refine ⟨t, rfl, ?_, by rw [← HNN.out]; omega, fun j h1 h2 => by rw [← HX.out]; exact HJ.out j h1 h2, fun _ => by rw [← HX.out, ← hy]; exact hne, n + 1, rfl⟩
          rcases Nat.lt_or_ge k t with h | h
          · exact h
          · have : t = k := by omega
            subst this
            rw [hy, ← HX.out] at hne; exact absurd rfl hne
        clear hne hy
        go_wp2_with fail
        refine wp_region_noPanic ?_
        refine wp_region_held_drew (S := fun w' => EntAt w' b (off + t * 4) y ∧ EntAt w' b (off + k * 4) x) (by kernel_rfl) ⟨hd, hck2⟩ (fun hH => ?_)
        refine tkA 0 7 hH ?_; try simp only [Act.put, sA, sZ, sS]
        refine tkA 1 8 hH ?_; try simp only [Act.put, sA, sZ, sS]
        refine tkA 2 9 hH ?_; try simp only [Act.put, sA, sZ, sS]
        refine tkA 3 10 hH ?_; try simp only [Act.put, sA, sZ, sS]
        refine tkA 4 11 hH ?_; try simp only [Act.put, sA, sZ, sS]
        refine tkA 5 12 hH ?_; try simp only [Act.put, sA, sZ, sS]
        refine tkA 6 13 hH ?_; try simp only [Act.put, sA, sZ, sS]
        refine tkA 7 14 hH ?_; try simp only [Act.put, sA, sZ, sS]
        refine tkA 8 15 hH ?_; try simp only [Act.put, sA, sZ, sS]
        refine tkA 9 16 hH ?_; try simp only [Act.put, sA, sZ, sS]
        refine tkA 10 17 hH ?_; try simp only [Act.put, sA, sZ, sS]
        refine tkA 11 18 hH ?_; try simp only [Act.put, sA, sZ, sS]
        refine tkA 12 19 hH ?_; try simp only [Act.put, sA, sZ, sS]
        refine tkA 13 20 hH ?_; try simp only [Act.put, sA, sZ, sS]
        refine tkA 14 21 hH ?_; try simp only [Act.put, sA, sZ, sS]
        refine tkA 15 22 hH ?_; try simp only [Act.put, sA, sZ, sS]
        refine tkA 16 23 hH ?_; try simp only [Act.put, sA, sZ, sS]
        refine wpAnyH_done (by kernel_rfl) ?_ _
        refine NoPanic.normal ?_
        go_wp2
        go_ret
        exact HE.out
    · skip
      have hte : t = nn := by omega
      have htl : decide (t < nn) = false := decide_eq_false hlt
      have HE : Hid (EndPost w es k (.returned (.int .i64 t)) (w.drewN (n + 1))) := ⟨t, rfl, by omega, by rw [← HNN.out]; omega, fun j h1 h2 => by rw [← HX.out]; exact HJ.out j h1 h2, fun h => absurd h (by rw [← HNN.out]; omega), n + 1, rfl⟩
      clear hte
      go_wp2_with fail
      refine wp_region_noPanic ?_
      refine wp_region_held_drew (S := fun _ => True) (by kernel_rfl) trivial (fun hH => ?_)
      refine tkA 0 7 hH ?_; try simp only [Act.put, sA, sZ, sS]
      refine tkA 1 8 hH ?_; try simp only [Act.put, sA, sZ, sS]
      refine tkA 2 9 hH ?_; try simp only [Act.put, sA, sZ, sS]
      refine tkA 3 10 hH ?_; try simp only [Act.put, sA, sZ, sS]
      refine tkA 4 11 hH ?_; try simp only [Act.put, sA, sZ, sS]
      refine tkS 5 12 hH ?_; try simp only [Act.put, sA, sZ, sS]
      refine tkS 6 13 hH ?_; try simp only [Act.put, sA, sZ, sS]
      refine tkS 7 14 hH ?_; try simp only [Act.put, sA, sZ, sS]
      refine tkS 8 15 hH ?_; try simp only [Act.put, sA, sZ, sS]
      refine tkS 9 16 hH ?_; try simp only [Act.put, sA, sZ, sS]
      refine tkS 10 17 hH ?_; try simp only [Act.put, sA, sZ, sS]
      refine tkS 11 18 hH ?_; try simp only [Act.put, sA, sZ, sS]
      refine tkS 12 19 hH ?_; try simp only [Act.put, sA, sZ, sS]
      refine tkS 13 20 hH ?_; try simp only [Act.put, sA, sZ, sS]
      refine tkS 14 21 hH ?_; try simp only [Act.put, sA, sZ, sS]
      refine tkS 15 22 hH ?_; try simp only [Act.put, sA, sZ, sS]
      refine tkA 16 23 hH ?_; try simp only [Act.put, sA, sZ, sS]
      refine wpAnyH_done (by kernel_rfl) ?_ _
      refine NoPanic.normal ?_
      go_wp2
      go_ret
      exact HE.out
theorem strip_down {g : List Ent} {n : Nat} (hn : n < g.length) (h : (nth g n).gone = true) : stripG (g.take (n + 1)) = stripG (g.take n) := by
  rw [List.take_succ_eq_append_getElem hn, ← nth_eq hn]; exact stripG_gone _ _ h
theorem strip_stop {g : List Ent} {n : Nat} (hn : n < g.length) (h : (nth g n).gone = false) : stripG (g.take (n + 1)) = g.take (n + 1) := by
  rw [List.take_succ_eq_append_getElem hn, ← nth_eq hn]; exact stripG_stay _ _ h
theorem withoutGone_any (v : Value) (g : List Ent) (w : World) (hr : RdE w v g) :
    Calls Tryz.prog 92 #[v] w fun e w' => ∃ u, e = .returned u ∧ (∀ W, RdE W v g → RdE W u (stripG g)) ∧ w' = w := by
  obtain ⟨a, cap, hv, hl, hm, _⟩ := id hr
  obtain ⟨nn, hnn⟩ : ∃ nn, nn = g.length := ⟨_, rfl⟩
  have HNN : Hid (nn = g.length) := hnn
  rw [← hnn] at hv hl
  subst hv
  unfold maxLen at hm
  have HS0 : Hid (stripG g = stripG (g.take nn)) := by unfold Hid; rw [hnn, List.take_length]
  clear hnn
  go_enter Tryz.func92, Tryz.ntmps92
  go_wp2
  go_loop [3] (fun i => ∃ n : Nat, n ≤ nn ∧ i = .int .i64 n ∧ Hid (stripG g = stripG (g.take n))) (fun i => (intOf i).toNat)
  case atStart => exact ⟨nn, Nat.le_refl _, rfl, HS0⟩
  case round =>
    obtain ⟨n, hnn, rfl, HS⟩ := hrel
    clear HS0
    cases n with
    | zero =>
      have HE : Hid ((g.take 0).drop 0 = stripG g) := by unfold Hid; rw [HS.out]; rfl
      go_wp2_with fail
      refine (cut_at _ g 0 0 _ _ _ rfl rfl hr (Nat.le_refl _) (Nat.zero_le _)).mono ?_
      rintro e w3 ⟨u, rfl, hu, rfl⟩
      rw [HE.out] at hu
      have HU : Hid (∀ W, RdE W (.slice a nn cap) g → RdE W u (stripG g)) := hu
      clear hu
      go_wp2
      go_ret
      exact ⟨u, rfl, HU.out, rfl⟩
    | succ m =>
      have hml : m < g.length := by rw [← HNN.out]; omega
      obtain ⟨b, off, rfl, hc⟩ := hr.at HNN.out m hml
      obtain ⟨x, hx⟩ : ∃ x, x = nth g m := ⟨_, rfl⟩
      rw [← hx] at hc
      obtain ⟨c0, c1, c2, c3⟩ := id hc
      have hmc : m < cap := by omega
      have hmi : ((m + 1 : Nat) : Int) - 1 = (m : Int) := by omega
      cases hg : x.gone with
      | true =>
        rw [hg] at c3
        have HS2 : Hid (stripG g = stripG (g.take m)) := by unfold Hid; rw [HS.out, strip_down hml (by rw [← hx]; exact hg)]
        clear hx HS
        go_wp2
        go_round
        case rel => exact ⟨m, by omega, by go_num, HS2⟩
        case measure => simp [intOf]
      | false =>
        rw [hg] at c3
        have HE : Hid ((g.take (m + 1)).drop 0 = stripG g) := by unfold Hid; rw [HS.out, strip_stop hml (by rw [← hx]; exact hg), List.drop_zero]
        clear hx HS
        go_wp2_with fail
        refine (cut_at _ g 0 (m + 1) _ _ _ rfl (by omega) hr (Nat.zero_le _) (by omega)).mono ?_
        rintro e w3 ⟨u, rfl, hu, rfl⟩
        rw [HE.out] at hu
        have HU : Hid (∀ W, RdE W (.slice (some ⟨b, off, none⟩) nn cap) g → RdE W u (stripG g)) := hu
        clear hu
        go_wp2
        go_ret
        exact ⟨u, rfl, HU.out, rfl⟩
open Go.RowKit
theorem bottomR_eq (es : List Ent) (qs : List Int) : bottomR es qs = bottomOf (seensR es qs) := by
  unfold bottomR seensR
  split
  · rfl
  · rfl
theorem seensR_ok (es : List Ent) (qs : List Int) : okL (seensR es qs) = true := by
  unfold seensR
  split
  · rename_i h; exact seens_ok (told_ok h) qs
  · rfl
theorem implBottom_any (v vq : Value) (es : List Ent) (qs : List Int) (w : World) (hr : RdE w v es) (hq : RdI w vq qs) (hf : ∀ e ∈ es, Fits e) :
    Calls Tryz.prog 52 #[v, vq] w fun e w' => RowPost w (bottomR es qs) e w' := by
  have HC : Hid (Calls _ _ _ _ _) := implSeens_any v vq es qs w hr hq hf
  have hok := seensR_ok es qs
  rw [bottomR_eq]
  generalize seensR es qs = al at HC hok
  have hsl := okL_len hok
  have HOK : Hid (okL al = true) := hok
  obtain ⟨i0, hi, hz0, hz1, hz2⟩ := info_parts Tryz.info30
  clear hr hq hf hok
  go_enter Tryz.func52, Tryz.ntmps52
  go_wp2_with fail
  refine HC.out.mono ?_
  rintro e w1 ⟨ua, rfl, hoa, hba⟩
  obtain ⟨nn, hnn⟩ : ∃ nn, nn = al.length := ⟨_, rfl⟩
  have HNN : Hid (nn = al.length) := hnn
  have hra := hoa.rd
  obtain ⟨aa, ca, hva, hla, hma, _⟩ := id hra
  rw [← hnn] at hva hla hsl
  subst hva
  unfold maxLen at hma
  have hp1 := ownP_none w1
  have b1 := below1 w1 (.cells #[] 30)
  clear hnn HC hoa
  go_wp2
  go_loopw [6, 7] (fun o i wr => ∃ (k : Nat) (ps : List (Value × List Ent)), k ≤ nn ∧ i = .int .i64 k ∧ ps.length ≤ k ∧ OwnP wr w1.heap.size o ps ∧ Hid (∀ p ∈ ps, RdE w1 p.1 p.2) ∧ Hid (bottomOf al = joinE ps ++ bottomOf (al.drop k)) ∧ Below w1.heap.size w1 wr) (fun _ i _ => nn - (intOf i).toNat)
  case atStart => exact ⟨0, [], Nat.zero_le _, rfl, Nat.le_refl _, hp1, (fun p hp => by cases hp), rfl, b1⟩
  case round =>
    obtain ⟨k, ps, hk, rfl, hpk, ho, HP, HJ, hb⟩ := hrel
    clear hp1 b1
    have hrw := hra.below hb
    by_cases hlt : k < nn
    · skip
      go_wp2_with fail
      refine (endOfKey_any _ al k _ hrw (by rw [← HNN.out]; exact hlt)).mono ?_
      rintro e w2 ⟨t, rfl, hkt, htn, h1, h2, n2, rfl⟩
      have HST : Hid (bottomOf (al.drop k) = stripG ((al.take t).drop k) ++ bottomOf (al.drop t)) := bottom_step HOK.out hkt htn h1 h2
      rw [← HNN.out] at htn
      clear h1 h2
      have hrw2 := hrw.drewN n2
      have ho2 := ho
      have hb2 := belowN hb n2
      have hp2 : OwnP (wr.drewN n2) w1.heap.size u6 ps := ho
      generalize wr.drewN n2 = W2 at hrw2 hb2 hp2 ⊢
      clear ho ho2 hb hrw
      go_wp2_with fail
      refine (cut_at _ al k t _ _ _ rfl rfl hrw2 (by omega) (by rw [← HNN.out]; omega)).mono ?_
      rintro e w3 ⟨u, rfl, hu, rfl⟩
      have hu1 := hu _ hrw2
      have hu0 := hu _ hra
      generalize (al.take t).drop k = gr at hu hu1 hu0 HST
      clear hu
      go_wp2_with fail
      refine (withoutGone_any _ gr _ hu1).mono ?_
      rintro e w4 ⟨u4, rfl, hu4, rfl⟩
      have hu40 := hu4 _ hu0
      obtain ⟨zs, hzs⟩ : ∃ zs, zs = stripG gr := ⟨_, rfl⟩
      rw [← hzs] at hu40 HST
      have HP2 : Hid (∀ p ∈ ps ++ [(u4, zs)], RdE w1 p.1 p.2) := by
        intro p hp
        rcases List.mem_append.1 hp with h | h
        · exact HP.out p h
        · simp at h; subst h; exact hu40
      obtain ⟨a4, c4, hua, _⟩ := id hu40
      obtain ⟨z4, hz4⟩ : ∃ z4, z4 = zs.length := ⟨_, rfl⟩
      rw [← hz4] at hua
      subst hua
      have hs := hb2.size
      have HJ2 : Hid (bottomOf al = joinE (ps ++ [(.slice a4 z4 c4, zs)]) ++ bottomOf (al.drop t)) := by unfold Hid; rw [joinE_push, HJ.out, HST.out, List.append_assoc]
      clear hu4 hu40 hu1 hu0 hzs hz4 HST HJ HP
      go_wp2_with (at_builtin; (refine wpList_append_own _ rfl _ _ 76 rfl w1.heap.size 30 i0 (.slice none 0 0) 1 24 Tryz.underlying76 hi hz0 hz1 hz2 rfl (by decide) _ _ _ rfl (World.ownsRow.alloc hp2 _) ⟨w4.heap.size, 0, none⟩ 1 1 [.slice a4 z4 c4] rfl rfl ?c1 ?c2 ?c3 ?c4 ?c5 ?_))
      case c1 => exact one_new_at _ _ _ _ rfl
      case c2 => intro z hz; simp at hz; subst hz; rfl
      case c3 => unfold maxLen; omega
      case c4 => omega
      case c5 => simp; omega
      intro v5 w5 ho5 hg5 _
      have R1 : OwnP w5 w1.heap.size v5 (ps ++ [(.slice a4 z4 c4, zs)]) := ownP_push ho5
      have bz5 : Below w1.heap.size w1 w5 := (hb2.alloc hs _).grown hg5 (by simp; omega) (fun k hk => (World.ownsRow.lt hp2 k hk).1)
      have hpl : (ps ++ [(Value.slice a4 z4 c4, zs)]).length ≤ t := by rw [List.length_append]; simp; omega
      clear ho5 hg5 hb2 hp2 hrw2
      go_wp2
      go_roundw
      case rel => exact ⟨t, _, htn, rfl, hpl, R1, HP2, HJ2, bz5⟩
      case measure => simp [intOf]; omega
    · skip
      have hke : k = nn := by omega
      have HJ2 : Hid (bottomOf al = joinE ps) := by
        unfold Hid
        rw [HJ.out, hke, HNN.out, List.drop_eq_nil_of_le (Nat.le_refl _)]
        exact List.append_nil _
      clear hke
      have hjl : (joinE ps).length ≤ 1000000 := by rw [← HJ2.out]; have := bot_len al; rw [← HNN.out] at this; omega
      go_wp2_with fail
      refine (joined_any _ ps _ (ho.pieces (fun p hp => (HP.out p hp).below hb)) hjl (by omega)).mono ?_
      rintro e w3 ⟨u, rfl, ho3, hb3⟩
      have bz := hba.trans ((hb.trans (hb3.mono hb.size)).mono hba.size)
      have ho4 : OwnE w3 w.heap.size u (bottomOf al) := by rw [HJ2.out]; exact ho3.mono (Nat.le_trans hba.size hb.size)
      clear ho3 hb3
      go_wp2
      go_ret
      exact ⟨_, rfl, ho4, bz⟩
end Go.Proofs.YtbefmbjlogkmbaaGreat
