/- The contracts of the model's l6Told, Seens, l6Bottom, Bottom. -/
import Derived.Test.YtbefmbjlogkmbaaGreatMrgSpec1
namespace Go.Proofs.YtbefmbjlogkmbaaGreat
set_option maxHeartbeats 16000000
set_option maxRecDepth 100000
open Go.RowKit
theorem ownE_1 (w : World) (x : Ent) : OwnE (w.alloc (.cells #[.string x.key, .string x.val, .int .i64 x.seq, .bool x.gone] 89)) w.heap.size (.slice (some ⟨w.heap.size, 0, none⟩) 1 1) [x] := World.ownsRow_lit w #[.string x.key, .string x.val, .int .i64 x.seq, .bool x.gone] 1 (Nat.le_refl _) (by unfold maxLen; omega) rfl
theorem told_ok {es : List Ent} {qs : List Int} (h : toldS es qs = true) : okL es = true := by simp only [toldS, Bool.and_eq_true] at h; exact h.1
theorem bot_step {al : List Ent} {g : Nat} (h : g < al.length) : bottomOf (al.drop g) = botS (nth al g) (bottomOf (al.drop (g + 1))) := by
  rw [List.drop_eq_getElem_cons h, nth_eq h]; rfl
theorem bot_len (es : List Ent) : (bottomOf es).length ≤ es.length := (bottom_sub es).length_le
theorem l6Bottom_any (v vq : Value) (es : List Ent) (qs : List Int) (w : World) (hr : RdE w v es) (hq : RdI w vq qs) (hn : es.length ≤ 1000000) :
    Calls Tryz.prog 81 #[v, vq] w fun e w' => RowPost w (bottomOf (seensL es qs)) e w' := by
  have HC : Hid (Calls _ _ _ _ _) := l6Seens_any v vq es qs w hr hq hn
  have hsl : (seensL es qs).length ≤ 1000000 := by have := seTo_len es qs es.length; unfold seensL; omega
  generalize seensL es qs = al at HC hsl
  go_enter Tryz.func81, Tryz.ntmps81
  go_wp2_with fail
  refine HC.out.mono ?_
  rintro e w1 ⟨ua, rfl, hoa, hba⟩
  obtain ⟨nn, hnn⟩ : ∃ nn, nn = al.length := ⟨_, rfl⟩
  have HNN : Hid (nn = al.length) := hnn
  obtain ⟨aa, ca, hva, hla, hma, _⟩ := id hoa.rd
  rw [← hnn] at hva hla hsl
  subst hva
  unfold maxLen at hma
  have ho0 := ownE_none w1
  have bn := below1 w1 (.cells #[] 89)
  have hoa1 := hoa.below bn
  have hb1 := hba.trans (bn.mono hba.size)
  have ho1 := ho0.mono hba.size
  have hwn : IntKind.i64.wrap ((nn : Int) - 1) = (nn : Int) - 1 := by rw [IntKind.wrap_i64]; omega
  have HB0 : Hid (([] : List Ent) = bottomOf (al.drop nn)) := by rw [hnn, List.drop_eq_nil_of_le (Nat.le_refl _)]; rfl
  clear hnn hoa hba ho0 bn HC
  go_wp2
  go_loopg [6, 7] nn (fun gg u i wr => ∃ out : List Ent, gg ≤ nn ∧ i = .int .i64 ((gg : Int) - 1) ∧ Hid (out = bottomOf (al.drop gg)) ∧ OwnE wr w.heap.size u out ∧ OwnE wr w.heap.size (.slice aa nn ca) al ∧ Below w.heap.size w wr)
  case atStart => exact ⟨[], Nat.le_refl _, rfl, HB0, ho1, hoa1, hb1⟩
  case round =>
    obtain ⟨out, hg, rfl, HO, ho, hoa, hb⟩ := hrel
    clear ho1 hoa1 hb1 HB0
    cases gk with
    | zero =>
      have HE : Hid (out = bottomOf al) := by have := HO.out; rw [List.drop_zero] at this; exact this
      have h0 : ((0 : Nat) : Int) - 1 = -1 := by omega
      rw [h0]
      go_wp2
      go_ret
      exact ⟨_, rfl, by rw [← HE.out]; exact ho, hb⟩
    | succ g =>
      have hgi : ((g + 1 : Nat) : Int) - 1 = (g : Int) := by omega
      rw [hgi]
      obtain ⟨b, off, rfl, hc⟩ := hoa.rd.at HNN.out g (by rw [← HNN.out]; omega)
      obtain ⟨x, hx⟩ : ∃ x, x = nth al g := ⟨_, rfl⟩
      rw [← hx] at hc
      have HST : Hid (bottomOf (al.drop g) = botS x out) := by unfold Hid; rw [bot_step (by rw [← HNN.out]; omega), ← hx, HO.out]
      have hol : out.length ≤ 1000000 := by rw [HO.out]; have := bot_len (al.drop (g + 1)); rw [List.length_drop, ← HNN.out] at this; omega
      clear hx HO hgi
      obtain ⟨on, hon⟩ : ∃ on, on = out.length := ⟨_, rfl⟩
      have HON : Hid (on = out.length) := hon
      obtain ⟨ao, co, hvo, hlo, hmo, _⟩ := id ho.rd
      rw [← hon] at hvo hlo hol
      subst hvo
      unfold maxLen at hmo
      obtain ⟨la, hla2⟩ : ∃ la, la = (decide (on = 0) || !kEq (nth out 0).key x.key) := ⟨_, rfl⟩
      have HLA : Hid (la = (decide (on = 0) || !kEq (nth out 0).key x.key)) := hla2
      have HBS : Hid (bottomOf (al.drop g) = if (la && x.gone) = true then out else x :: out) := by unfold Hid; rw [HST.out, HLA.out, hon]; rfl
      clear hla2 hon HST
      have hgn : g < nn := by omega
      have hgc : g < ca := by omega
      have hg0 : ¬ (g : Int) < 0 := by omega
      go_upto_region 6 with fail
      go_cut [8] (fun t W => t = .bool la ∧ OwnE W w.heap.size (.slice ao on co) out ∧ OwnE W w.heap.size (.slice (some ⟨b, off, none⟩) nn ca) al ∧ EntAt W b (off + g * 4) x ∧ Below w.heap.size w W)
      case first =>
        by_cases h0 : on = 0
        · skip
          have h0b : ((on : Int) == 0) = true := by simp; omega
          have HT : Hid (la = true) := by unfold Hid; rw [HLA.out, h0]; rfl
          clear h0
          refine wp_region_noPanic ?_
          refine wp_region_held_drew (S := fun _ => True) (by kernel_rfl) trivial (fun hH => ?_)
          refine tkA 0 20 hH ?_; try simp only [Act.put, sA, sZ, sS]
          refine tkA 1 21 hH ?_; try simp only [Act.put, sA, sZ, sS]
          refine tkA 2 22 hH ?_; try simp only [Act.put, sA, sZ, sS]
          refine tkA 3 23 hH ?_; try simp only [Act.put, sA, sZ, sS]
          refine tkS 4 24 hH ?_; try simp only [Act.put, sA, sZ, sS]
          refine tkS 5 25 hH ?_; try simp only [Act.put, sA, sZ, sS]
          refine tkS 6 26 hH ?_; try simp only [Act.put, sA, sZ, sS]
          refine tkS 7 27 hH ?_; try simp only [Act.put, sA, sZ, sS]
          refine tkS 8 28 hH ?_; try simp only [Act.put, sA, sZ, sS]
          refine tkS 9 29 hH ?_; try simp only [Act.put, sA, sZ, sS]
          refine tkS 10 30 hH ?_; try simp only [Act.put, sA, sZ, sS]
          refine tkS 11 31 hH ?_; try simp only [Act.put, sA, sZ, sS]
          refine tkS 12 32 hH ?_; try simp only [Act.put, sA, sZ, sS]
          refine tkS 13 33 hH ?_; try simp only [Act.put, sA, sZ, sS]
          refine tkA 14 34 hH ?_; try simp only [Act.put, sA, sZ, sS]
          refine tkA 15 8 hH ?_; try simp only [Act.put, sA, sZ, sS]
          refine wpAnyH_done (by kernel_rfl) ?_ _
          refine NoPanic.normal ?_
          go_wp2
          go_meet
          case rel => exact ⟨by rw [HT.out], ho, hoa, hc, hb.drew⟩
        · skip
          have h0b : ((on : Int) == 0) = false := by simp; omega
          have hop : 0 < on := by omega
          obtain ⟨bo, oo, rfl, hco⟩ := ho.rd.at HON.out 0 (by rw [← HON.out]; exact hop)
          rw [Nat.zero_mul, Nat.add_zero] at hco
          obtain ⟨y, hy⟩ : ∃ y, y = nth out 0 := ⟨_, rfl⟩
          rw [← hy] at hco HLA
          have HT : Hid (la = !kEq y.key x.key) := by unfold Hid; rw [HLA.out]; simp [h0]
          have hKB := beq_kEq y.key x.key
          generalize kEq y.key x.key = ke at hKB HT
          clear h0 hy HLA
          refine wp_region_noPanic ?_
          refine wp_region_held_drew (S := fun W => EntAt W b (off + g * 4) x ∧ EntAt W bo oo y) (by kernel_rfl) ⟨hc, hco⟩ (fun hH => ?_)
          refine tkA 0 20 hH ?_; try simp only [Act.put, sA, sZ, sS]
          refine tkA 1 21 hH ?_; try simp only [Act.put, sA, sZ, sS]
          refine tkA 2 22 hH ?_; try simp only [Act.put, sA, sZ, sS]
          refine tkA 3 23 hH ?_; try simp only [Act.put, sA, sZ, sS]
          refine tkA 4 24 hH ?_; try simp only [Act.put, sA, sZ, sS]
          refine tkA 5 25 hH ?_; try simp only [Act.put, sA, sZ, sS]
          refine tkA 6 26 hH ?_; try simp only [Act.put, sA, sZ, sS]
          refine tkA 7 27 hH ?_; try simp only [Act.put, sA, sZ, sS]
          refine tkA 8 28 hH ?_; try simp only [Act.put, sA, sZ, sS]
          refine tkA 9 29 hH ?_; try simp only [Act.put, sA, sZ, sS]
          refine tkA 10 30 hH ?_; try simp only [Act.put, sA, sZ, sS]
          refine tkA 11 31 hH ?_; try simp only [Act.put, sA, sZ, sS]
          refine tkA 12 32 hH ?_; try simp only [Act.put, sA, sZ, sS]
          refine tkA 13 33 hH ?_; try simp only [Act.put, sA, sZ, sS]
          refine tkA 14 34 hH ?_; try simp only [Act.put, sA, sZ, sS]
          refine tkA 15 8 hH ?_; try simp only [Act.put, sA, sZ, sS]
          refine wpAnyH_done (by kernel_rfl) ?_ _
          refine NoPanic.normal ?_
          go_wp2
          go_meet
          case rel => exact ⟨by rw [HT.out], ho, hoa, hc, hb.drew⟩
      case rest =>
        obtain ⟨h8, ho2, hoa2, hc2, hb2⟩ := hcut
        subst h8
        clear ho hoa hc hb HLA
        obtain ⟨c0, c1, c2, c3⟩ := id hc2
        by_cases hdrop : (la && x.gone) = true
        · have HBS2 : Hid (bottomOf (al.drop g) = out) := by unfold Hid; rw [HBS.out, if_pos hdrop]
          simp only [Bool.and_eq_true] at hdrop
          obtain ⟨rfl, hxg⟩ := hdrop
          rw [hxg] at c3
          go_wp2
          go_roundg g
          case rel => exact ⟨out, by omega, by go_num, HBS2.out.symm, ho2, hoa2, hb2⟩
          case measure => omega
        · have HBS2 : Hid (bottomOf (al.drop g) = [x] ++ out) := by unfold Hid; rw [HBS.out, if_neg hdrop]; rfl
          have hor : la = false ∨ (la = true ∧ x.gone = false) := by cases la <;> cases hg : x.gone <;> simp_all
          have HAP : Hid (∀ W v5 w5, OwnE W w.heap.size (.slice ao on co) out → OwnE W w.heap.size (.slice (some ⟨b, off, none⟩) nn ca) al → Below w.heap.size w W → OwnE w5 W.heap.size v5 ([x] ++ out) → (W.alloc (.cells #[.string x.key, .string x.val, .int .i64 x.seq, .bool x.gone] 89)).grownBy w5 (some W.heap.size) → OwnE w5 w.heap.size v5 (bottomOf (al.drop g)) ∧ OwnE w5 w.heap.size (.slice (some ⟨b, off, none⟩) nn ca) al ∧ Below w.heap.size w w5) := fun W v5 w5 h1 h2 h3 h4 h5 => by
            have bb : Below W.heap.size W w5 := (below1 W (.cells #[.string x.key, .string x.val, .int .i64 x.seq, .bool x.gone] 89)).grown h5 (by simp) (fun j hj => by cases hj; exact Nat.le_refl _)
            exact ⟨by rw [HBS2.out]; exact h4.mono h3.size, h2.below bb, h3.trans (bb.mono h3.size)⟩
          clear hdrop HBS
          rcases hor with rfl | ⟨rfl, hxg⟩
          · go_wp2_with (at_builtin; (refine wpList_append_ents rfl _ _ rfl wc.heap.size _ _ [x] out rfl rfl (ownE_1 _ _) (ho2.rd.below (below1 _ _)) (by rw [← HON.out]; simp; omega) (by simp) ?_))
            intro v5 w5 ho5 hg5
            obtain ⟨r1, r2, r3⟩ := HAP.out wc v5 w5 ho2 hoa2 hb2 ho5 hg5
            clear ho2 hoa2 hc2 hb2 c0 c1 c2 c3 ho5 hg5
            go_wp2
            go_roundg g
            case rel => exact ⟨_, by omega, by go_num, rfl, r1, r2, r3⟩
            case measure => omega
          · have c3b := c3
            rw [hxg] at c3b
            rw [hxg] at HAP
            have ho1x := ownE_1 wc x
            rw [hxg] at ho1x
            clear c3
            go_wp2_with (at_builtin; (refine wpList_append_ents rfl _ _ rfl wc.heap.size _ _ [x] out rfl rfl ho1x (ho2.rd.below (below1 _ _)) (by rw [← HON.out]; simp; omega) (by simp) ?_))
            intro v5 w5 ho5 hg5
            obtain ⟨r1, r2, r3⟩ := HAP.out wc v5 w5 ho2 hoa2 hb2 ho5 hg5
            clear ho2 hoa2 hc2 hb2 c0 c1 c2 c3b ho5 hg5
            go_wp2
            go_roundg g
            case rel => exact ⟨_, by omega, by go_num, rfl, r1, r2, r3⟩
            case measure => omega
end Go.Proofs.YtbefmbjlogkmbaaGreat
