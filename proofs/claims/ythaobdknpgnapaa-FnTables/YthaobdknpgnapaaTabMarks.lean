/- The contracts of the program's marks of keys, marks of numbers, and numbers of marks. -/
import Derived.Test.YthaobdknpgnapaaTabWith
import Derived.Test.YthaobdknpgnapaaTabSpec1
namespace Go.Proofs.Ythaobdknpgnapaa
open Go.RowKit
theorem MBox.put {w : World} {b M : Nat} (h : MBox w b M) (N : Nat) : MBox ((((w.setCell ⟨b, 0, none⟩ (.int .u64 (mw N 0 : Int))).setCell ⟨b, 1, none⟩ (.int .u64 (mw N 1 : Int))).setCell ⟨b, 2, none⟩ (.int .u64 (mw N 2 : Int))).setCell ⟨b, 3, none⟩ (.int .u64 (mw N 3 : Int))) b N := by
  obtain ⟨z0, z1, z2, z3, f0, f1, f2, f3⟩ := h.facts
  refine ⟨⟨?_, ?_, ?_, ?_⟩, fun o => ?_⟩
  · rw [World.cell?_setCell_other _ _ _ _ (by simp), World.cell?_setCell_other _ _ _ _ (by simp), World.cell?_setCell_other _ _ _ _ (by simp), World.cell?_setCell_same _ _ _ z0]
  · rw [World.cell?_setCell_other _ _ _ _ (by simp), World.cell?_setCell_other _ _ _ _ (by simp)]
    exact World.cell?_setCell_same _ _ _ (by rw [World.cell?_setCell_other _ _ _ _ (by simp)]; exact z1)
  · rw [World.cell?_setCell_other _ _ _ _ (by simp)]
    exact World.cell?_setCell_same _ _ _ (by rw [World.cell?_setCell_other _ _ _ _ (by simp), World.cell?_setCell_other _ _ _ _ (by simp)]; exact z2)
  · exact World.cell?_setCell_same _ _ _ (by rw [World.cell?_setCell_other _ _ _ _ (by simp), World.cell?_setCell_other _ _ _ _ (by simp), World.cell?_setCell_other _ _ _ _ (by simp)]; exact z3)
  · rw [World.frozen?_setCell, World.frozen?_setCell, World.frozen?_setCell, World.frozen?_setCell]
    exact h.2 o
theorem MBox.keep {w : World} {b M c : Nat} (h : MBox w b M) (hc : c ≠ b) (x0 x1 x2 x3 : Value) : MBox ((((w.setCell ⟨c, 0, none⟩ x0).setCell ⟨c, 1, none⟩ x1).setCell ⟨c, 2, none⟩ x2).setCell ⟨c, 3, none⟩ x3) b M := by
  have hcell : ∀ o, ((((w.setCell ⟨c, 0, none⟩ x0).setCell ⟨c, 1, none⟩ x1).setCell ⟨c, 2, none⟩ x2).setCell ⟨c, 3, none⟩ x3).cell? ⟨b, o, none⟩ = w.cell? ⟨b, o, none⟩ := fun o => by
    rw [World.cell?_setCell_other _ _ _ _ (by intro e; cases e; exact hc rfl), World.cell?_setCell_other _ _ _ _ (by intro e; cases e; exact hc rfl), World.cell?_setCell_other _ _ _ _ (by intro e; cases e; exact hc rfl), World.cell?_setCell_other _ _ _ _ (by intro e; cases e; exact hc rfl)]
  refine ⟨⟨by rw [hcell]; exact h.1.1, by rw [hcell]; exact h.1.2.1, by rw [hcell]; exact h.1.2.2.1, by rw [hcell]; exact h.1.2.2.2⟩, fun o => ?_⟩
  rw [World.frozen?_setCell, World.frozen?_setCell, World.frozen?_setCell, World.frozen?_setCell]
  exact h.2 o
theorem MBox.grown {w w' : World} {b M : Nat} {g : Option Nat} (h : MBox w b M) (hg : w.grownBy w' g) (hn : ∀ j, g = some j → j ≠ b) : MBox w' b M := by
  have hl := h.1.lt
  obtain ⟨_, _, _, _, hk⟩ := hg
  have hb : w'.heap[b]? = w.heap[b]? := hk b hl (fun e => hn b e.symm rfl)
  have hc : ∀ o, w'.cell? ⟨b, o, none⟩ = w.cell? ⟨b, o, none⟩ := fun o => by unfold World.cell?; simp only [hb]
  refine ⟨⟨by rw [hc]; exact h.1.1, by rw [hc]; exact h.1.2.1, by rw [hc]; exact h.1.2.2.1, by rw [hc]; exact h.1.2.2.2⟩, fun o => ?_⟩
  have := h.2 o
  unfold World.frozen? at this ⊢
  simp only [hb]
  exact this
theorem mKF_at {es : List Ent} {k : Nat} (h : k < es.length) (M : Nat) : (es.drop k).foldl (fun M e => mkey M e.key) M = (es.drop (k + 1)).foldl (fun M e => mkey M e.key) (mkey M (nth es k).key) := by
  rw [List.drop_eq_getElem_cons h, List.foldl_cons, nth_eq h]
set_option maxHeartbeats 4000000 in
set_option maxRecDepth 100000 in
theorem marksOfKeys_any (v : Value) (es : List Ent) (w : World) (hr : RdE w v es) (hf : ∀ e ∈ es, e.key.size ≤ 1000000000) :
    Calls Try.prog 57 #[v] w fun e w' => e = .returned (MV (mKeys es)) ∧ Below w.heap.size w w' := by
  obtain ⟨a, cap, hv, hl, hm, _⟩ := id hr
  unfold maxLen at hm
  subst hv
  have HF : Hid (∀ e ∈ es, e.key.size ≤ 1000000000) := hf
  clear hf
  obtain ⟨W0, hW0⟩ : ∃ W, W = w.alloc (.cells #[.int .u64 0, .int .u64 0, .int .u64 0, .int .u64 0] 82) := ⟨_, rfl⟩
  have hs0 : W0.heap.size = w.heap.size + 1 := by rw [hW0]; simp
  have hz := (mBox_zero w 82).below (below1 _ (.cells #[.int .u64 0, .int .u64 0, .int .u64 0, .int .u64 0] 82))
  have hy := mBox_zero W0 82
  have hbb := below2 w (.cells #[.int .u64 0, .int .u64 0, .int .u64 0, .int .u64 0] 82) (.cells #[.int .u64 0, .int .u64 0, .int .u64 0, .int .u64 0] 82)
  rw [hs0, hW0] at hy
  clear hs0 hW0 W0
  unfold MV
  go_enter Try.func57, Try.ntmps57
  go_wp2
  go_loopw [9] (fun i wr => ∃ k M : Nat, k ≤ es.length ∧ i = .int .i64 k ∧ Hid ((es.drop k).foldl (fun M e => mkey M e.key) M = mKeys es) ∧ MBox wr w.heap.size 0 ∧ MBox wr (w.heap.size + 1) M ∧ Below w.heap.size w wr) (fun i _ => es.length - (intOf i).toNat)
  case atStart => exact ⟨0, 0, Nat.zero_le _, rfl, rfl, hz, hy, hbb⟩
  case round =>
    obtain ⟨k, M, hk, rfl, HO, hz2, hy2, hb⟩ := hrel
    clear hz hy hbb
    by_cases hlt : k < es.length
    · obtain ⟨b, off, rfl, hc⟩ := hr.at rfl k hlt
      have hc2 := hc.below hb
      have hlt2 := hc2.lt
      have hfk := HF.out _ (List.getElem_mem hlt)
      rw [← nth_eq hlt] at hfk
      obtain ⟨x, hx⟩ : ∃ x, x = nth es k := ⟨_, rfl⟩
      rw [← hx] at hc2 hfk
      have HO2 : Hid ((es.drop (k + 1)).foldl (fun M e => mkey M e.key) (mkey M x.key) = mKeys es) := by rw [hx, ← mKF_at hlt]; exact HO
      clear hx hc HO
      have HK : Hid (∀ W, Calls Try.prog 67 #[.agg #[.int .u64 (mw M 0 : Int), .int .u64 (mw M 1 : Int), .int .u64 (mw M 2 : Int), .int .u64 (mw M 3 : Int)], .string x.key] W fun e w' => e = .returned (MV (mkey M x.key)) ∧ Below W.heap.size W w') := fun W => withKey_any M x.key W (by omega)
      generalize mkey M x.key = M2 at HK HO2
      unfold MV at HK
      obtain ⟨c0, c1, c2, c3⟩ := hc2
      have be := below1 wr (.cells #[.string x.key, .string x.val, .int .i64 x.seq, .bool x.gone] 26)
      have hy3 := hy2.below be
      have hz3 := hz2.below be
      have b3 := hb.trans (be.mono hb.size)
      obtain ⟨y0, y1, y2, y3, _, _, _, _⟩ := hy3.facts
      clear hy2 hz2 be
      go_wp2_with fail
      refine (HK.out _).mono ?_
      rintro e w4 ⟨rfl, hb4⟩
      have hz4 := hz3.below hb4
      have hy4 := hy3.below hb4
      have b4 := b3.trans (hb4.mono b3.size)
      clear hb4 hy3 hz3 b3 y0 y1 y2 y3 c0 c1 c2 c3
      obtain ⟨x0, x1, x2, x3, f0, f1, f2, f3⟩ := hy4.facts
      go_wp2
      go_roundw
      case rel => exact ⟨k + 1, M2, by omega, by go_num, HO2, hz4.keep (by omega) _ _ _ _, hy4.put M2, below4 b4 (by omega) _ _ _ _ _ _ _ _⟩
      case measure => simp [intOf]; omega
    · have HE : Hid (M = mKeys es) := by have := HO.out; rw [List.drop_eq_nil_of_le (by omega)] at this; exact this
      have hke : ¬ (k : Int) < (es.length : Int) := by omega
      clear HO
      obtain ⟨x0, x1, x2, x3, _, _, _, _⟩ := hy2.facts
      obtain ⟨z0, z1, z2, z3, f0, f1, f2, f3⟩ := hz2.facts
      go_wp2
      rw [← HE.out]
      exact bodyPost_ret (v := .agg #[.int .u64 (mw M 0 : Int), .int .u64 (mw M 1 : Int), .int .u64 (mw M 2 : Int), .int .u64 (mw M 3 : Int)]) (by simp [results, Try.results57, go_sem, z0, z1, z2, z3]) rfl ⟨rfl, below4 hb (Nat.le_refl _) _ _ _ _ _ _ _ _⟩
theorem bitsOf_at {M g k : Nat} (bs : List Int) (R : List Int) (h : bs ++ bitsOf M (g + 1) k = R) : (M.testBit k = true → bs ++ [(k : Int)] ++ bitsOf M g (k + 1) = R) ∧ (M.testBit k = false → bs ++ bitsOf M g (k + 1) = R) := by
  rw [bitsOf] at h
  constructor
  · intro hb; rw [if_pos hb] at h; rw [List.append_assoc]; exact h
  · intro hb; rw [if_neg (by simp [hb])] at h; exact h
set_option maxHeartbeats 4000000 in
set_option maxRecDepth 100000 in
theorem bits_any (M : Nat) (w : World) (hM : M < 2 ^ 256) :
    Calls Try.prog 58 #[MV M] w fun e w' => ∃ u, e = .returned u ∧ OwnI w' w.heap.size u (bitsOf M 256 0) ∧ Below w.heap.size w w' := by
  have hz0 := mBox_new w M 82
  have hz := hz0.below (below1 _ (.cells #[] 2))
  have hb0 := below2 w (.cells #[.int .u64 (mw M 0 : Int), .int .u64 (mw M 1 : Int), .int .u64 (mw M 2 : Int), .int .u64 (mw M 3 : Int)] 82) (.cells #[] 2)
  have ho0 := (ownI_none (w.alloc (.cells #[.int .u64 (mw M 0 : Int), .int .u64 (mw M 1 : Int), .int .u64 (mw M 2 : Int), .int .u64 (mw M 3 : Int)] 82))).mono (show w.heap.size + 1 ≤ _ by simp)
  have hs1 : (w.alloc (.cells #[.int .u64 (mw M 0 : Int), .int .u64 (mw M 1 : Int), .int .u64 (mw M 2 : Int), .int .u64 (mw M 3 : Int)] 82)).heap.size = w.heap.size + 1 := by simp
  rw [hs1] at ho0
  clear hs1 hz0
  obtain ⟨R, hR⟩ : ∃ R, R = bitsOf M 256 0 := ⟨_, rfl⟩
  rw [← hR]
  have HR : Hid ([] ++ bitsOf M 256 0 = R) := by rw [hR]; rfl
  clear hR
  unfold MV
  go_enter Try.func58, Try.ntmps58
  go_wp2
  go_loopg [3, 6] 256 (fun gg u i wr => ∃ (k : Nat) (bs : List Int), k + gg = 256 ∧ i = .int .i64 k ∧ Hid (bs ++ bitsOf M gg k = R) ∧ bs.length ≤ k ∧ OwnI wr (w.heap.size + 1) u bs ∧ MBox wr w.heap.size M ∧ Below w.heap.size w wr)
  case atStart => exact ⟨0, [], by omega, rfl, HR, Nat.le_refl _, ho0, hz, hb0⟩
  case round =>
    obtain ⟨k, bs, hkg, rfl, HB, hbl, ho, hz2, hb⟩ := hrel
    clear ho0 hz hb0 HR
    by_cases hlt : k < 256
    · cases gk with
      | zero => exfalso; omega
      | succ gg =>
        have hwl := hz2.1.lt
        obtain ⟨c0, c1, c2, c3, _, _, _, _⟩ := hz2.facts
        have HS := bitsOf_at bs R HB.out
        have HH : Hid (∀ W, Calls Try.prog 89 #[.agg #[.int .u64 (mw M 0 : Int), .int .u64 (mw M 1 : Int), .int .u64 (mw M 2 : Int), .int .u64 (mw M 3 : Int)], .int .i64 k] W fun e w' => e = .returned (.bool (M.testBit k)) ∧ Below W.heap.size W w') := fun W => has_any M k W hM hlt
        cases htb : M.testBit k with
        | true =>
          have HB2 : Hid (bs ++ [(k : Int)] ++ bitsOf M gg (k + 1) = R) := HS.1 htb
          rw [htb] at HH
          clear HS htb
          go_wp2_with fail
          refine (HH.out _).mono ?_
          rintro e w4 ⟨rfl, hb4⟩
          have ho4 := ho.below hb4
          have hz4 := hz2.below hb4
          have b4 := hb.trans (hb4.mono hb.size)
          clear ho hz2 hb hb4 c0 c1 c2 c3
          have hov := ho4
          go_wp2_with (at_builtin; (refine wpList_append_ints rfl _ _ rfl (w.heap.size + 1) _ _ bs [(k : Int)] rfl rfl (ho4.below (below1 _ _)) (ownI_one _ _).rd (by simp; omega) (by simp; have := hz4.1.lt; omega) ?_))
          intro v5 w5 ho5 hg5
          have be := below1 w4 (.cells #[.int .i64 (k : Int)] 2)
          have hz5 := (hz4.below be)
          have b5 : Below w.heap.size w w5 := (b4.alloc b4.size _).grown hg5 (by simp; have := b4.size; omega) (fun j hj => by have := (World.ownsRow.lt ho4 j hj).1; omega)
          have hz6 : MBox w5 w.heap.size M := hz5.grown hg5 (fun j hj => by have := (World.ownsRow.lt ho4 j hj).1; omega)
          clear hg5 ho4 hz4 b4 be hz5 hov
          go_wp2
          go_roundg gg
          case rel => exact ⟨k + 1, bs ++ [(k : Int)], by omega, by go_num, HB2, by simp; omega, ho5, hz6, b5⟩
          case measure => omega
        | false =>
          have HB2 : Hid (bs ++ bitsOf M gg (k + 1) = R) := HS.2 htb
          rw [htb] at HH
          clear HS htb
          go_wp2_with fail
          refine (HH.out _).mono ?_
          rintro e w4 ⟨rfl, hb4⟩
          have ho4 := ho.below hb4
          have hz4 := hz2.below hb4
          have b4 := hb.trans (hb4.mono hb.size)
          clear ho hz2 hb hb4 c0 c1 c2 c3
          go_wp2
          go_roundg gg
          case rel => exact ⟨k + 1, bs, by omega, by go_num, HB2, by omega, ho4, hz4, b4⟩
          case measure => omega
    · have hg0 : gk = 0 := by omega
      subst hg0
      have HE : Hid (bs = R) := by have := HB.out; rw [bitsOf, List.append_nil] at this; exact this
      have hke : ¬ (k : Int) < 256 := by omega
      clear HB
      go_wp2
      go_ret
      exact ⟨_, rfl, by rw [← HE.out]; exact ho.mono (Nat.le_succ _), hb⟩
/-- 'clear' of four words. -/
theorem run_clear_marks {w : World} {b M : Nat} (c : Nat) (ty : TypeId) (hb : MBox w b M) :
    ∃ w', (Builtin.clear_ #[118] ty #[.slice (some ⟨b, 0, none⟩) 4 c]).run Try.prog w = .ok (.tuple #[]) w' ∧ MBox w' b 0 ∧ (∀ B v, Below B v w → B ≤ b → Below B v w') ∧ (∀ c N, MBox w c N → c ≠ b → MBox w' c N) := by
  obtain ⟨z0, z1, z2, z3, f0, f1, f2, f3⟩ := hb.facts
  have hrun := Lib.run_clear_slice (P := Try.prog) w 118 80 ty (.int .u64 0) Try.underlying118 (fun w => by
      obtain ⟨i0, hi, hz0, hz1, hz2⟩ := info_parts Try.info80
      simp [zeroValue, typeInfo, hi, hz0]) rfl rfl b 0 4 c (by omega)
    (fun j hj => by
      have : j = 0 ∨ j = 1 ∨ j = 2 ∨ j = 3 := by omega
      rcases this with rfl | rfl | rfl | rfl
      · rw [z0]; rfl
      · rw [z1]; rfl
      · rw [z2]; rfl
      · rw [z3]; rfl)
    (fun j _ => hb.2 _)
  refine ⟨_, hrun, hb.put 0, fun B v hB hl => below4 hB hl _ _ _ _ _ _ _ _, fun c N hc hn => hc.keep (fun e => hn e.symm) _ _ _ _⟩
theorem mB_at {ns : List Int} {k : Nat} (h : k < ns.length) (a : Int) (M R : Nat) (hR : R = if riseFrom a (ns.drop k) = true then (ns.drop k).foldl (fun M n => mset M n.toNat) M else 0) :
    (ns[k] ≤ a ∨ 256 ≤ ns[k] → R = 0) ∧ (a < ns[k] → ns[k] < 256 → R = if riseFrom ns[k] (ns.drop (k + 1)) = true then (ns.drop (k + 1)).foldl (fun M n => mset M n.toNat) (mset M ns[k].toNat) else 0) := by
  rw [List.drop_eq_getElem_cons h, riseFrom, List.foldl_cons] at hR
  constructor
  · intro hh
    rw [hR, if_neg]
    rcases hh with hh | hh <;> simp [hh]
  · intro h1 h2
    have e1 : decide (ns[k] ≤ a) = false := by simp; omega
    have e2 : decide (256 ≤ ns[k]) = false := by simp; omega
    rw [hR, e1, e2]
    simp
set_option maxHeartbeats 4000000 in
set_option maxRecDepth 100000 in
theorem marksOfBits_any (v : Value) (ns : List Int) (w : World) (hr : RdI w v ns) :
    Calls Try.prog 66 #[v] w fun e w' => e = .returned (MV (mBits ns)) ∧ Below w.heap.size w w' := by
  obtain ⟨a, cap, hv, hl, hm, _⟩ := id hr
  unfold maxLen at hm
  subst hv
  obtain ⟨R, hR⟩ : ∃ R, R = mBits ns := ⟨_, rfl⟩
  rw [← hR]
  have HR : Hid (R = if riseFrom (-1) (ns.drop 0) = true then (ns.drop 0).foldl (fun M n => mset M n.toNat) 0 else 0) := hR
  clear hR
  obtain ⟨W0, hW0⟩ : ∃ W, W = w.alloc (.cells #[.int .u64 0, .int .u64 0, .int .u64 0, .int .u64 0] 82) := ⟨_, rfl⟩
  have hs0 : W0.heap.size = w.heap.size + 1 := by rw [hW0]; simp
  have hz := (mBox_zero w 82).below (below1 _ (.cells #[.int .u64 0, .int .u64 0, .int .u64 0, .int .u64 0] 82))
  have hy := mBox_zero W0 82
  have hbb := below2 w (.cells #[.int .u64 0, .int .u64 0, .int .u64 0, .int .u64 0] 82) (.cells #[.int .u64 0, .int .u64 0, .int .u64 0, .int .u64 0] 82)
  rw [hs0, hW0] at hy
  clear hs0 hW0 W0
  unfold MV
  go_enter Try.func66, Try.ntmps66
  go_wp2
  go_loopw [4, 10] (fun av i wr => ∃ (k M : Nat) (ah : Int), k ≤ ns.length ∧ i = .int .i64 k ∧ av = .int .i64 ah ∧ -1 ≤ ah ∧ Hid (R = if riseFrom ah (ns.drop k) = true then (ns.drop k).foldl (fun M n => mset M n.toNat) M else 0) ∧ MBox wr w.heap.size 0 ∧ MBox wr (w.heap.size + 1) M ∧ Below w.heap.size w wr) (fun _ i _ => ns.length - (intOf i).toNat)
  case atStart => exact ⟨0, 0, -1, Nat.zero_le _, rfl, rfl, Int.le_refl _, HR, hz, hy, hbb⟩
  case round =>
    obtain ⟨k, M, ah, hk, rfl, rfl, hah, HO, hz2, hy2, hb⟩ := hrel
    clear hz hy hbb HR
    by_cases hlt : k < ns.length
    · obtain ⟨b, off, rfl, hc⟩ := (hr.below hb).at k hlt
      obtain ⟨x, hx⟩ : ∃ x, x = ns[k] := ⟨_, rfl⟩
      have HS := mB_at hlt ah M R HO.out
      rw [← hx] at hc HS
      have HS1 : Hid (x ≤ ah ∨ 256 ≤ x → R = 0) := HS.1
      have HS2 : Hid (ah < x → x < 256 → R = if riseFrom x (ns.drop (k + 1)) = true then (ns.drop (k + 1)).foldl (fun M n => mset M n.toNat) (mset M x.toNat) else 0) := HS.2
      clear HS HO hx
      by_cases hbad : x ≤ ah ∨ 256 ≤ x
      · have HE : Hid (R = 0) := HS1.out hbad
        clear HS1 HS2
        have hd : (x ≤ ah) ∨ (¬ x ≤ ah ∧ 256 ≤ x) := by omega
        clear hbad
        rcases hd with hd | hd
        · obtain ⟨W2, hcl, hy3, hB3, hK3⟩ := run_clear_marks 4 0 hy2
          have hz3 := hK3 _ _ hz2 (by omega)
          have b3 := hB3 _ _ hb (by omega)
          clear hy2 hz2 hB3 hK3
          obtain ⟨x0, x1, x2, x3, _, _, _, _⟩ := hy3.facts
          obtain ⟨z0, z1, z2, z3, f0, f1, f2, f3⟩ := hz3.facts
          go_wp2
          rw [HE.out]
          exact bodyPost_ret (v := .agg #[.int .u64 (mw 0 0 : Int), .int .u64 (mw 0 1 : Int), .int .u64 (mw 0 2 : Int), .int .u64 (mw 0 3 : Int)]) (by simp [results, Try.results66, go_sem, z0, z1, z2, z3]) rfl ⟨rfl, below4 b3 (Nat.le_refl _) _ _ _ _ _ _ _ _⟩
        · obtain ⟨W2, hcl, hy3, hB3, hK3⟩ := run_clear_marks 4 0 hy2
          have hz3 := hK3 _ _ hz2 (by omega)
          have b3 := hB3 _ _ hb (by omega)
          obtain ⟨hd1, hd2⟩ := hd
          clear hy2 hz2 hB3 hK3
          obtain ⟨x0, x1, x2, x3, _, _, _, _⟩ := hy3.facts
          obtain ⟨z0, z1, z2, z3, f0, f1, f2, f3⟩ := hz3.facts
          go_wp2
          rw [HE.out]
          exact bodyPost_ret (v := .agg #[.int .u64 (mw 0 0 : Int), .int .u64 (mw 0 1 : Int), .int .u64 (mw 0 2 : Int), .int .u64 (mw 0 3 : Int)]) (by simp [results, Try.results66, go_sem, z0, z1, z2, z3]) rfl ⟨rfl, below4 b3 (Nat.le_refl _) _ _ _ _ _ _ _ _⟩
      · have h1 : ¬ x ≤ ah := by omega
        have h2 : ¬ 256 ≤ x := by omega
        have HO2 := HS2.out (by omega) (by omega)
        obtain ⟨m, rfl⟩ : ∃ m : Nat, x = (m : Int) := ⟨x.toNat, by omega⟩
        rw [Int.toNat_natCast] at HO2
        have hm2 : m < 256 := by omega
        have HW : Hid (∀ W, Calls Try.prog 95 #[.agg #[.int .u64 (mw M 0 : Int), .int .u64 (mw M 1 : Int), .int .u64 (mw M 2 : Int), .int .u64 (mw M 3 : Int)], .int .i64 m] W fun e w' => e = .returned (MV (mset M m)) ∧ Below W.heap.size W w') := fun W => with_any M m W hm2
        generalize mset M m = M2 at HW HO2
        have HO3 : Hid (R = if riseFrom (m : Int) (ns.drop (k + 1)) = true then (ns.drop (k + 1)).foldl (fun M n => mset M n.toNat) M2 else 0) := HO2
        clear HO2 HS1 HS2 hbad
        unfold MV at HW
        obtain ⟨y0, y1, y2, y3, _, _, _, _⟩ := hy2.facts
        go_wp2_with fail
        refine (HW.out _).mono ?_
        rintro e w4 ⟨rfl, hb4⟩
        have hz4 := hz2.below hb4
        have hy4 := hy2.below hb4
        have b4 := hb.trans (hb4.mono hb.size)
        clear hb4 hy2 hz2 hb y0 y1 y2 y3
        obtain ⟨x0, x1, x2, x3, f0, f1, f2, f3⟩ := hy4.facts
        go_wp2
        go_roundw
        case rel => exact ⟨k + 1, M2, m, by omega, by go_num, rfl, by omega, HO3, hz4.keep (by omega) _ _ _ _, hy4.put M2, below4 b4 (by omega) _ _ _ _ _ _ _ _⟩
        case measure => simp [intOf]; omega
    · have HE : Hid (R = M) := by have := HO.out; rw [List.drop_eq_nil_of_le (by omega)] at this; show R = M; simpa [riseFrom] using this
      have hke : ¬ (k : Int) < (ns.length : Int) := by omega
      clear HO
      obtain ⟨x0, x1, x2, x3, _, _, _, _⟩ := hy2.facts
      obtain ⟨z0, z1, z2, z3, f0, f1, f2, f3⟩ := hz2.facts
      go_wp2
      rw [HE.out]
      exact bodyPost_ret (v := .agg #[.int .u64 (mw M 0 : Int), .int .u64 (mw M 1 : Int), .int .u64 (mw M 2 : Int), .int .u64 (mw M 3 : Int)]) (by simp [results, Try.results66, go_sem, z0, z1, z2, z3]) rfl ⟨rfl, below4 hb (Nat.le_refl _) _ _ _ _ _ _ _ _⟩
end Go.Proofs.Ythaobdknpgnapaa
