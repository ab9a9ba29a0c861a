/- The contracts of the model's helpers over rising numbers: l5Put, l5Marks, l5Bits, l5Same, l5Has. The contract of the cursor's method entryBehind: an entry is read where the cursor stands, in the one way in which it is written, and the cursor goes on behind it. The contract of the search for a place among entries. The contract of the program's Seen. The contracts of the cursor's method entries and of the program's Unpacked. -/
import Derived.Test.YtpbbahpndgigjaaGreatDoorG17
import Derived.Deep.LoopGhost
import Derived.WalkMore
namespace Go.Proofs.YtpbbahpndgigjaaGreatDoor
set_option maxHeartbeats 16000000
set_option maxRecDepth 100000
open Go.RowKit
theorem putI_hit {ns : List Int} {n : Int} {k : Nat} (hk : k < ns.length) (h1 : ∀ i (h : i < ns.length), i < k → ns[i] < n) (h2 : ns[k] = n) : putI ns n = ns := by
  have : atI ns n = k := atI_of ns n k (by omega) h1 (fun h => by omega)
  unfold putI
  rw [this, if_pos (by rw [List.getElem?_eq_getElem hk, h2])]
theorem putI_new {ns : List Int} {n : Int} {k : Nat} (hk : k ≤ ns.length) (h1 : ∀ i (h : i < ns.length), i < k → ns[i] < n) (h2 : ∀ (h : k < ns.length), n < ns[k]) : putI ns n = [] ++ ns.take k ++ [n] ++ ns.drop k := by
  have : atI ns n = k := atI_of ns n k hk h1 (fun h => by have := h2 h; omega)
  unfold putI
  rw [this, if_neg]
  · simp
  · intro e
    obtain ⟨h, e⟩ := List.getElem?_eq_some_iff.1 e
    have := h2 h
    omega
theorem rdI_cut0 {w : World} {b n cap k : Nat} {ns : List Int} (h : RdI w (.slice (some ⟨b, 0, none⟩) n cap) ns) (hk : k ≤ ns.length) : RdI w (.slice (if cap = k then some ⟨b, 0, none⟩ else some ⟨b, k, none⟩) (ns.length - k) (cap - k)) (ns.drop k) := by
  have := rdI_cut h hk
  rwa [Nat.zero_add] at this
theorem l5Put_any (g cap : Nat) (ns : List Int) (n : Int) (B : Nat) (w : World) (ho : OwnI w B (.slice (some ⟨g, 0, none⟩) ns.length cap) ns) (hn : ns.length ≤ 1000000) (hB : B ≤ w.heap.size) :
    Calls Tryz.prog 88 #[.slice (some ⟨g, 0, none⟩) ns.length cap, .int .i64 n] w fun e w' => ∃ u, e = .returned u ∧ OwnI w' B u (putI ns n) ∧ Below w.heap.size w w' := by
  obtain ⟨a', cap', hv', hl, hm, _, hcell⟩ := id ho.rd
  simp only [Value.slice.injEq] at hv'
  obtain ⟨rfl, _, rfl⟩ := hv'
  have hgl : g < w.heap.size := ownI_lt ho g rfl
  have hm0 := hm
  unfold maxLen at hm
  have HC : Hid (∀ i (h : i < ns.length), w.cell? ⟨g, 0 + i, none⟩ = some (.int .i64 ns[i])) := fun i hi => by
    obtain ⟨b, off, hb, hc⟩ := ho.rd.at i hi
    cases hb
    exact hc
  clear hcell
  go_enter Tryz.func88, Tryz.ntmps88
  go_wp2
  go_loopw [5] (fun i wr => ∃ k : Nat, k ≤ ns.length ∧ i = .int .i64 k ∧ Hid (∀ j (h : j < ns.length), j < k → ns[j] < n) ∧ wr = w) (fun i _ => ns.length - (intOf i).toNat)
  case atStart => exact ⟨0, Nat.zero_le _, rfl, (fun j _ hj => absurd hj (Nat.not_lt_zero _)), rfl⟩
  case round =>
    obtain ⟨k, hk, rfl, HO, hwr⟩ := hrel
    obtain rfl := hwr.symm
    by_cases hlt : k < ns.length
    · have hc := HC.out k hlt
      rw [Nat.zero_add] at hc
      obtain ⟨y, hy⟩ : ∃ y, y = ns[k] := ⟨_, rfl⟩
      rw [← hy] at hc
      have HY : Hid (y = ns[k]) := hy
      clear hy
      by_cases hyn : y < n
      · skip
        have HO2 : Hid (∀ j (h : j < ns.length), j < k + 1 → ns[j] < n) := by
          intro j h hj
          by_cases hjk : j = k
          · subst hjk; rw [← HY.out]; exact hyn
          · exact HO.out j h (by omega)
        go_wp2
        go_roundw
        case rel => exact ⟨k + 1, by omega, by go_num, HO2, trivial⟩
        case measure => simp [intOf]; omega
      · by_cases hye : y = n
        · skip
          have HP : Hid (putI ns n = ns) := putI_hit hlt HO.out (by rw [← HY.out]; exact hye)
          have hyb : (y == n) = true := by simpa using hye
          go_wp2
          go_ret
          exact ⟨_, rfl, by rw [HP.out]; exact ho, Below.refl _ _⟩
        · skip
          have HP : Hid (putI ns n = [] ++ ns.take k ++ [n] ++ ns.drop k) := putI_new hk HO.out (fun h => by rw [← HY.out]; omega)
          have hyb : (y == n) = false := by simpa using hye
          have hkc : k < cap := by omega
          go_wp2_with (at_builtin; (refine wpList_append_ints rfl _ _ rfl w.heap.size _ _ [] (ns.take k) rfl rfl (ownI_none _) (rdI_take (ho.rd.below (below1 _ _)) hk) (by rw [List.length_take]; simp only [List.length_nil]; omega) (by simp) ?_))
          intro v2 w2 ho2 hg2
          have b2 : Below w.heap.size w w2 := (below1 w (.cells #[] 2)).grown hg2 (by simp) (fun j hj => by simp [Value.ownBlock] at hj; omega)
          have hr2 := ho.rd.below b2
          clear hg2
          go_wp2_with fail
          refine wp_region_noPanic ?_
          refine wp_region_held_drew (S := fun _ => True) (by kernel_rfl) trivial (fun hH => ?_)
          have qo : OwnI w2.drew _ v2 ([] ++ ns.take k) := ho2.drewN 1
          have qb := b2.drew
          have qr : RdI w2.drew _ ns := hr2.drewN 1
          clear ho2 b2 hr2
          revert qo
          revert qb
          revert qr
          revert hH
          generalize w2.drew = W3
          intro hH qr qb qo
          refine tkA 0 39 hH ?_; try simp only [Act.put, sA, sZ, sS]
          refine tkA 1 40 hH ?_; try simp only [Act.put, sA, sZ, sS]
          refine tkA 4 43 hH ?_; try simp only [Act.put, sA, sZ, sS]
          refine tkA 5 44 hH ?_; try simp only [Act.put, sA, sZ, sS]
          refine tkA 6 45 hH ?_; try simp only [Act.put, sA, sZ, sS]
          refine wpAnyH_ready (rs := [2]) (by kernel_rfl) (by simp) ?_
          refine AllReadyH.cons rfl (fun K hK => ?_) AllReadyH.nil
          go_simp
          refine hK.out _ _ trivial (fun h2 => ?_)
          clear hK K
          try simp only [Act.put, sA, sZ, sS]
          refine wpAnyH_ready (rs := [3]) (by kernel_rfl) (by simp) ?_
          refine AllReadyH.cons rfl (fun K hK => ?_) AllReadyH.nil
          refine step_append_ints rfl 42 rfl _ _ rfl w.heap.size v2 _ ([] ++ ns.take k) [n] rfl rfl ?d1 ?d2 ?d3 ?d4 ?_
          case d1 => exact qo.below (below1 _ _)
          case d2 => exact (ownI_one _ _).rd
          case d3 => simp; omega
          case d4 => simp; have := qb.size; omega
          intro v3 w3 ho3 hg3
          have bv2 : ∀ j, v2.ownBlock = some j → w.heap.size ≤ j := fun j hj => (World.ownsRow.lt qo j hj).1
          have b3 : Below w.heap.size w w3 := (qb.alloc qb.size _).grown hg3 (by simp; have := qb.size; omega) (fun j hj => bv2 j hj)
          have hr3 := ho.rd.below b3
          refine hK.out _ _ trivial (fun h3 => ?_)
          clear hK K
          try simp only [Act.put, sA, sZ, sS]
          refine wpAnyH_ready (rs := [7]) (by kernel_rfl) (by simp) ?_
          refine AllReadyH.cons rfl (fun K hK => ?_) AllReadyH.nil
          refine step_append_ints rfl 46 rfl _ _ rfl w.heap.size v3 _ ([] ++ ns.take k ++ [n]) (ns.drop k) rfl rfl ?e1 ?e2 ?e3 ?e4 ?_
          case e1 => exact ho3
          case e2 => exact rdI_cut0 hr3 hk
          case e3 => simp; omega
          case e4 => exact b3.size
          intro v4 w4 ho4 hg4
          have b4 : Below w.heap.size w w4 := b3.grown hg4 b3.size (fun j hj => (World.ownsRow.lt ho3 j hj).1)
          refine hK.out _ _ trivial (fun h4 => ?_)
          clear hK K
          try simp only [Act.put, sA, sZ, sS]
          refine tkA 8 4 h4 ?_; try simp only [Act.put, sA, sZ, sS]
          refine wpAnyH_done (by kernel_rfl) ?_ _
          refine NoPanic.normal ?_
          go_wp2
          all_goals go_ret
          all_goals refine ⟨_, rfl, ?_, b4⟩
          all_goals rw [HP.out]
          all_goals exact ho4.mono hB
    · skip
      have HP : Hid (putI ns n = [] ++ ns.take k ++ [n] ++ ns.drop k) := putI_new hk HO.out (fun h => by omega)
      have hkl : decide ((k : Int) < (ns.length : Int)) = false := by simp; omega
      go_wp2_with (at_builtin; (refine wpList_append_ints rfl _ _ rfl w.heap.size _ _ [] (ns.take k) rfl rfl (ownI_none _) (rdI_take (ho.rd.below (below1 _ _)) hk) (by rw [List.length_take]; simp only [List.length_nil]; omega) (by simp) ?_))
      intro v2 w2 ho2 hg2
      have b2 : Below w.heap.size w w2 := (below1 w (.cells #[] 2)).grown hg2 (by simp) (fun j hj => by simp [Value.ownBlock] at hj; omega)
      have hr2 := ho.rd.below b2
      clear hg2
      go_wp2_with fail
      refine wp_region_noPanic ?_
      refine wp_region_held_drew (S := fun _ => True) (by kernel_rfl) trivial (fun hH => ?_)
      have qo : OwnI w2.drew _ v2 ([] ++ ns.take k) := ho2.drewN 1
      have qb := b2.drew
      have qr : RdI w2.drew _ ns := hr2.drewN 1
      clear ho2 b2 hr2
      revert qo
      revert qb
      revert qr
      revert hH
      generalize w2.drew = W3
      intro hH qr qb qo
      refine tkA 0 39 hH ?_; try simp only [Act.put, sA, sZ, sS]
      refine tkA 1 40 hH ?_; try simp only [Act.put, sA, sZ, sS]
      refine tkA 4 43 hH ?_; try simp only [Act.put, sA, sZ, sS]
      refine tkA 5 44 hH ?_; try simp only [Act.put, sA, sZ, sS]
      refine tkA 6 45 hH ?_; try simp only [Act.put, sA, sZ, sS]
      refine wpAnyH_ready (rs := [2]) (by kernel_rfl) (by simp) ?_
      refine AllReadyH.cons rfl (fun K hK => ?_) AllReadyH.nil
      go_simp
      refine hK.out _ _ trivial (fun h2 => ?_)
      clear hK K
      try simp only [Act.put, sA, sZ, sS]
      refine wpAnyH_ready (rs := [3]) (by kernel_rfl) (by simp) ?_
      refine AllReadyH.cons rfl (fun K hK => ?_) AllReadyH.nil
      refine step_append_ints rfl 42 rfl _ _ rfl w.heap.size v2 _ ([] ++ ns.take k) [n] rfl rfl ?d1 ?d2 ?d3 ?d4 ?_
      case d1 => exact qo.below (below1 _ _)
      case d2 => exact (ownI_one _ _).rd
      case d3 => simp; omega
      case d4 => simp; have := qb.size; omega
      intro v3 w3 ho3 hg3
      have bv2 : ∀ j, v2.ownBlock = some j → w.heap.size ≤ j := fun j hj => (World.ownsRow.lt qo j hj).1
      have b3 : Below w.heap.size w w3 := (qb.alloc qb.size _).grown hg3 (by simp; have := qb.size; omega) (fun j hj => bv2 j hj)
      have hr3 := ho.rd.below b3
      refine hK.out _ _ trivial (fun h3 => ?_)
      clear hK K
      try simp only [Act.put, sA, sZ, sS]
      refine wpAnyH_ready (rs := [7]) (by kernel_rfl) (by simp) ?_
      refine AllReadyH.cons rfl (fun K hK => ?_) AllReadyH.nil
      refine step_append_ints rfl 46 rfl _ _ rfl w.heap.size v3 _ ([] ++ ns.take k ++ [n]) (ns.drop k) rfl rfl ?e1 ?e2 ?e3 ?e4 ?_
      case e1 => exact ho3
      case e2 => exact rdI_cut0 hr3 hk
      case e3 => simp; omega
      case e4 => exact b3.size
      intro v4 w4 ho4 hg4
      have b4 : Below w.heap.size w w4 := b3.grown hg4 b3.size (fun j hj => (World.ownsRow.lt ho3 j hj).1)
      refine hK.out _ _ trivial (fun h4 => ?_)
      clear hK K
      try simp only [Act.put, sA, sZ, sS]
      refine tkA 8 4 h4 ?_; try simp only [Act.put, sA, sZ, sS]
      refine wpAnyH_done (by kernel_rfl) ?_ _
      refine NoPanic.normal ?_
      go_wp2
      all_goals go_ret
      all_goals refine ⟨_, rfl, ?_, b4⟩
      all_goals rw [HP.out]
      all_goals exact ho4.mono hB
theorem star_data (key : ByteArray) : (key ++ ⟨#[42]⟩ : ByteArray).data.toList = key.data.toList ++ [42] := by
  rw [ByteArray.data_append]; simp
theorem l5Marks_any (key : ByteArray) (w : World) (hk : key.size ≤ 1000000000) :
    Calls Tryz.prog 112 #[.string key] w fun e w' => ∃ u, e = .returned u ∧ OwnI w' w.heap.size u (marksL key) ∧ Below w.heap.size w w' := by
  have hs2 : (key ++ ⟨#[42]⟩ : ByteArray).size ≤ 1099511627776 := by rw [ByteArray.size_append]; show key.size + 1 ≤ _; omega
  have HD1 : Hid (∀ W, Calls Tryz.prog 38 #[.string key] W fun e w' => e = .returned (.int .i64 (dig 1 key.data.toList : Int)) ∧ w' = W) := fun W => specDigest_any key W (by omega)
  have HD2 : Hid (∀ W, Calls Tryz.prog 38 #[.string (key ++ ⟨#[42]⟩)] W fun e w' => e = .returned (.int .i64 (dig 1 (key.data.toList ++ [42]) : Int)) ∧ w' = W) := fun W => by
    have := specDigest_any (key ++ ⟨#[42]⟩) W hs2
    rwa [star_data] at this
  have l1 := dig_lt key.data.toList 1 (by omega)
  have l2 := dig_lt (key.data.toList ++ [42]) 1 (by omega)
  have HM : Hid (marksL key = putI [((dig 1 key.data.toList : Nat) : Int) % 256] (((dig 1 (key.data.toList ++ [42]) : Nat) : Int) % 256)) := by
    unfold Hid marksL mk1 mk2
    rw [Int.natCast_emod, Int.natCast_emod]; rfl
  generalize dig 1 key.data.toList = d1 at HD1 l1 HM
  generalize dig 1 (key.data.toList ++ [42]) = d2 at HD2 l2 HM
  generalize marksL key = M at HM ⊢
  go_enter Tryz.func112, Tryz.ntmps112
  go_wp2_with fail
  refine (HD1.out _).mono ?_
  rintro e w1 ⟨rfl, hw1⟩
  obtain rfl := hw1.symm
  go_wp2_with fail
  refine (HD2.out _).mono ?_
  rintro e w2 ⟨rfl, hw2⟩
  obtain rfl := hw2.symm
  have ho := ownI_one w ((d1 : Int) % 256)
  go_wp2_with fail
  refine (l5Put_any w.heap.size 1 [(d1 : Int) % 256] ((d2 : Int) % 256) w.heap.size _ ho (by simp) (by simp)).mono ?_
  rw [← HM.out]
  rintro e w3 ⟨u, rfl, ho3, hb3⟩
  have b3 := (below1 w (.cells #[.int .i64 ((d1 : Int) % 256)] 2)).trans (hb3.mono (by simp))
  go_wp2
  go_ret
  exact ⟨u, rfl, ho3, b3⟩
theorem bitsF_at {es : List Ent} {k : Nat} (h : k < es.length) (b : List Int) : (es.drop k).foldl (fun b e => bitsTo b (marksL e.key)) b = (es.drop (k + 1)).foldl (fun b e => bitsTo b (marksL e.key)) (bitsTo b (marksL (nth es k).key)) := by
  rw [List.drop_eq_getElem_cons h, List.foldl_cons, nth_eq h]
theorem bitsTo_at {ms : List Int} {k : Nat} (h : k < ms.length) (b : List Int) : bitsTo b (ms.drop k) = bitsTo (putI b ms[k]) (ms.drop (k + 1)) := by
  unfold bitsTo; rw [List.drop_eq_getElem_cons h, List.foldl_cons]
theorem putI_ne (ns : List Int) (n : Int) : putI ns n ≠ [] := by
  intro h
  have := (putI_mem ns n n).2 (.inl rfl)
  rw [h] at this
  cases this
theorem l5Bits_any (v : Value) (es : List Ent) (w : World) (hr : RdE w v es) (hf : ∀ e ∈ es, e.key.size ≤ 1000000000) (hn : es.length ≤ 10000) :
    Calls Tryz.prog 100 #[v] w fun e w' => ∃ u, e = .returned u ∧ OwnI w' w.heap.size u (bitsL es) ∧ Below w.heap.size w w' := by
  obtain ⟨a, cap, hv, hl, hm, _⟩ := id hr
  unfold maxLen at hm
  subst hv
  have HF : Hid (∀ e ∈ es, e.key.size ≤ 1000000000) := hf
  clear hf
  have ho0 := ownI_none w
  have hb0 := below1 w (.cells #[] 2)
  go_enter Tryz.func100, Tryz.ntmps100
  go_wp2
  go_loopg [3, 4] es.length (fun gg u i wr => ∃ (k g0 c0 : Nat) (bt : List Int), k + gg = es.length ∧ i = .int .i64 k ∧ u = .slice (some ⟨g0, 0, none⟩) bt.length c0 ∧ bt.length ≤ 2 * k ∧ Hid ((es.drop k).foldl (fun b e => bitsTo b (marksL e.key)) bt = bitsL es) ∧ OwnI wr w.heap.size (.slice (some ⟨g0, 0, none⟩) bt.length c0) bt ∧ Below w.heap.size w wr)
  case atStart => exact ⟨0, w.heap.size, 0, [], by omega, rfl, rfl, Nat.zero_le _, rfl, ho0, hb0⟩
  case round =>
    obtain ⟨k, g0, c0, bt, hkg, rfl, rfl, hbl, HB, ho, hb⟩ := hrel
    clear ho0 hb0
    by_cases hlt : k < es.length
    · cases gk with
      | zero => exfalso; omega
      | succ gg =>
        obtain ⟨b, off, rfl, hc⟩ := (hr.below hb).at rfl k hlt
        obtain ⟨y, hy⟩ : ∃ y, y = nth es k := ⟨_, rfl⟩
        rw [← hy] at hc
        have hys : y.key.size ≤ 1000000000 := by rw [hy, nth_eq hlt]; exact HF.out _ (List.getElem_mem hlt)
        have HB2 : Hid ((es.drop (k + 1)).foldl (fun b e => bitsTo b (marksL e.key)) (bitsTo bt (marksL y.key)) = bitsL es) := by rw [hy, ← bitsF_at hlt]; exact HB
        clear hy HB
        obtain ⟨c0', c1, c2, c3⟩ := id hc
        go_wp2_with fail
        refine (l5Marks_any y.key _ hys).mono ?_
        rintro e w2 ⟨um, rfl, hom, hb2⟩
        have b2 := hb.trans (hb2.mono hb.size)
        have ho2 := ho.below hb2
        have hml := marksL_len y.key
        generalize marksL y.key = ms at hom hml HB2
        obtain ⟨am, cm, hvm, hm1, hm2, _⟩ := id hom.rd
        subst hvm
        unfold maxLen at hm2
        clear ho hb hb2 hc c0' c1 c2 c3
        go_wp2
        go_loopg [3, 6] 2 (fun g2 u i wr => ∃ (j g1 c1 : Nat) (b1 : List Int), j + g2 = 2 ∧ i = .int .i64 j ∧ j ≤ ms.length ∧ u = .slice (some ⟨g1, 0, none⟩) b1.length c1 ∧ b1.length ≤ bt.length + j ∧ Hid (bitsTo b1 (ms.drop j) = bitsTo bt ms) ∧ OwnI wr w.heap.size (.slice (some ⟨g1, 0, none⟩) b1.length c1) b1 ∧ RdI wr (.slice am ms.length cm) ms ∧ Below w.heap.size w wr)
        case atStart => exact ⟨0, g0, c0, bt, by omega, rfl, Nat.zero_le _, rfl, by omega, rfl, ho2, hom.rd, b2⟩
        case round =>
          obtain ⟨j, g1, c1, b1, hj2, rfl, hjm, rfl, hb1l, HT, hoj, hrj, hbj⟩ := hrel
          clear ho2 hom b2
          by_cases hjl : j < ms.length
          · cases gk with
            | zero => exfalso; omega
            | succ g2 =>
              obtain ⟨bm, om, rfl, hcm⟩ := hrj.at j hjl
              obtain ⟨x, hx⟩ : ∃ x, x = ms[j] := ⟨_, rfl⟩
              rw [← hx] at hcm
              have HT2 : Hid (bitsTo (putI b1 x) (ms.drop (j + 1)) = bitsTo bt ms) := by rw [hx, ← bitsTo_at hjl]; exact HT
              clear hx HT
              go_wp2_with fail
              refine (l5Put_any g1 c1 b1 x w.heap.size _ hoj (by omega) hbj.size).mono ?_
              rintro e w4 ⟨u4, rfl, ho4, hb4⟩
              have b4 := hbj.trans (hb4.mono hbj.size)
              have hr4 := hrj.below hb4
              have hpl := putI_len b1 x
              obtain ⟨g4, c4, hv4⟩ := ownI_some ho4 (putI_ne b1 x)
              subst hv4
              generalize putI b1 x = b5 at ho4 hpl HT2
              clear hoj hrj hbj hb4 hcm
              go_wp2
              go_roundg g2
              case rel => exact ⟨j + 1, g4, c4, b5, by omega, by go_num, by omega, rfl, by omega, HT2, ho4, hr4, b4⟩
              case measure => omega
          · have hje : j = ms.length := by omega
            have HE : Hid (b1 = bitsTo bt ms) := by have := HT.out; rw [hje, List.drop_eq_nil_of_le (Nat.le_refl _)] at this; exact this
            have HB3 : Hid ((es.drop (k + 1)).foldl (fun b e => bitsTo b (marksL e.key)) b1 = bitsL es) := by rw [HE.out]; exact HB2
            have hjl2 : ¬ (j : Int) < (ms.length : Int) := by omega
            clear hje HE HT HB2
            go_wp2
            go_roundg gg
            case rel => exact ⟨k + 1, g1, c1, b1, by omega, by go_num, rfl, by omega, HB3, hoj, hbj⟩
            case measure => omega
    · have HE : Hid (bt = bitsL es) := by have := HB.out; rw [List.drop_eq_nil_of_le (by omega)] at this; exact this
      have hke : ¬ (k : Int) < (es.length : Int) := by omega
      clear HB
      go_wp2
      go_ret
      exact ⟨_, rfl, by rw [← HE.out]; exact ho, hb⟩
open Go.RowKit
theorem Cur.ltE {w0 w : World} {g : Nat} {v : Value} {bs : List UInt8} {p : Nat} (h : Cur w0 w g v bs p) : g < w.heap.size := (Array.getElem?_eq_some_iff.1 h.blk).1
theorem Cur.block {w0 w w' : World} {g : Nat} {v : Value} {bs : List UInt8} {p : Nat} (h : Cur w0 w g v bs p) (hb : w'.heap[g]? = w.heap[g]?) (hl : Below w0.heap.size w0 w') : Cur w0 w' g v bs p := ⟨h.rd, h.ge, hb.trans h.blk, hl, h.le⟩
theorem Cur.below {w0 w w' : World} {g : Nat} {v : Value} {bs : List UInt8} {p : Nat} (h : Cur w0 w g v bs p) (hb : Below w.heap.size w w') : Cur w0 w' g v bs p :=
  h.block (hb.block g h.ltE) (h.bel.trans (hb.mono h.bel.size))
theorem BoxAt.kept {w w' : World} {b g : Nat} {x : Ent} (h : BoxAt w b x) (hg : w.grownBy w' (some g)) (hn : g < b) : BoxAt w' b x := by
  have hb := hg.block b h.1.lt (by simp; omega)
  refine ⟨h.1.of_block hb, fun o => ?_⟩
  have := h.2 o
  unfold World.frozen? at this ⊢
  rw [hb]; exact this
theorem rdText_short (bs : List UInt8) : (rdText bs).1.length ≤ 3000 := by
  unfold rdText
  split
  · simp
  · simp only [List.length_take]; omega
theorem key_cut (last : ByteArray) (n : Nat) (l : List UInt8) : last.extract 0 n ++ ⟨l.toArray⟩ = ⟨(last.data.toList.take n ++ l).toArray⟩ := by
  apply ByteArray.ext
  rw [ByteArray.data_append, ByteArray.data_extract]
  apply Array.toList_inj.1
  simp [Array.toList_extract, List.extract_eq_take_drop]
theorem odd_eq (s : Nat) : ((s : Int) % 2 == 1) = decide (s % 2 = 1) := by
  by_cases h : s % 2 = 1
  · rw [decide_eq_true h]; simp; omega
  · rw [decide_eq_false h]; simp; omega
open Go.RowKit
open Go.RowKit
open Go.RowKit
theorem rdE_oneK {w : World} {b : Nat} {x : Ent} (h : EntAt w b 0 x) : RdE w (.slice (some ⟨b, 0, none⟩) 1 1) [x] :=
  ⟨_, 1, rfl, Nat.le_refl _, by unfold maxLen; omega, (fun h => by cases h), .inr ⟨b, 0, rfl, fun i hi => by
    have : i = 0 := by simpa using hi
    subst this
    exact h⟩⟩
theorem Cur.grew {w0 w w' : World} {g B : Nat} {v u : Value} {bs : List UInt8} {p : Nat} {es : List Ent} (h : Cur w0 w g v bs p) (ho : OwnE w B u es) (hB : g < B) (hg : w.grownBy w' u.ownBlock) : Cur w0 w' g v bs p :=
  h.block (hg.block g h.ltE (fun e => by have := (World.ownsRow.lt ho g e.symm).1; omega)) (h.bel.grown hg h.bel.size (fun k hk => by have := (World.ownsRow.lt ho k hk).1; have := h.ge; omega))
theorem rdEnt_size {chk : Bool} {last : ByteArray} {bs : List UInt8} {y : Ent} {k : Nat} (h : rdEnt chk last bs = some (y, k)) : y.key.size ≤ last.size + 3000 ∧ y.val.size ≤ 3000 ∧ 0 ≤ y.seq ∧ y.seq ≤ 1099511627776 := by
  obtain ⟨a, ha⟩ : ∃ a, rdNum bs = a := ⟨_, rfl⟩
  obtain ⟨t, ht⟩ : ∃ t, rdText (bs.drop a.2) = t := ⟨_, rfl⟩
  obtain ⟨s, hs⟩ : ∃ s, rdNum (bs.drop (a.2 + t.2)) = s := ⟨_, rfl⟩
  obtain ⟨v, hv⟩ : ∃ v, rdText (bs.drop (a.2 + t.2 + s.2)) = v := ⟨_, rfl⟩
  rw [rdEnt_parts chk last bs a t s v ha ht hs hv] at h
  have h1 := rdText_short (bs.drop a.2)
  rw [ht] at h1
  have h2 := (rdNum_len (bs.drop (a.2 + t.2))).2.1
  rw [hs] at h2
  have h3 := rdText_short (bs.drop (a.2 + t.2 + s.2))
  rw [hv] at h3
  unfold rdParts at h
  split at h
  · cases h
  · split at h
    · cases h
    · split at h
      · cases h
      · obtain ⟨hy, _⟩ := Prod.mk.inj (Option.some.inj h)
        subst hy
        refine ⟨?_, ?_, by simp only; omega, by simp only; omega⟩
        · show (last.data.toList.take a.1 ++ t.1).toArray.size ≤ _
          have := size_length last
          simp only [List.size_toArray, List.length_append, List.length_take]
          omega
        · show v.1.toArray.size ≤ _
          simpa using h3
theorem rdEnt_fits {chk : Bool} {last : ByteArray} {bs : List UInt8} {y : Ent} {k : Nat} (h : rdEnt chk last bs = some (y, k)) (hl : last.size ≤ 1000000) : Fits y := by
  have := rdEnt_size h
  exact ⟨by omega, by omega, by omega, by omega⟩
theorem fits_app {es : List Ent} {x : Ent} (h : ∀ y ∈ es, Fits y) (hx : Fits x) : ∀ y ∈ es ++ [x], Fits y := by
  intro y hy
  rcases List.mem_append.1 hy with hy | hy
  · exact h y hy
  · rw [List.mem_singleton.1 hy]; exact hx
def UnpPost (w : World) (F : List Ent × Bool) (e : Ending) (w' : World) : Prop :=
  ∃ u, e = .returned (.tuple #[u, .bool F.2]) ∧ OwnE w' w.heap.size u F.1 ∧ Below w.heap.size w w'
theorem unpPost_no {w wr : World} {B : Nat} {F : List Ent × Bool} {u : Value} (h : F = ([], false)) (ho : OwnE wr B u []) (hB : w.heap.size ≤ B) (hb : Below w.heap.size w wr) : UnpPost w F (.returned (.tuple #[u, .bool false])) wr := by
  subst h; exact ⟨u, rfl, ho.mono hB, hb⟩
theorem unpPost_yes {w wr : World} {B : Nat} {F : List Ent × Bool} {u : Value} {es : List Ent} (h : F = (es, true)) (ho : OwnE wr B u es) (hB : w.heap.size ≤ B) (hb : Below w.heap.size w wr) : UnpPost w F (.returned (.tuple #[u, .bool true])) wr := by
  subst h; exact ⟨u, rfl, ho.mono hB, hb⟩
theorem ownE_new (w : World) : OwnE (w.alloc (.cells #[] 71)) w.heap.size (.slice (some ⟨w.heap.size, 0, none⟩) 0 0) [] := ownE_none w
end Go.Proofs.YtpbbahpndgigjaaGreatDoor
