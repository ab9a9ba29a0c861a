/- The contract of the model's l2Words: the words of a line, in memory of its own. The contract of the model's l2Number: some number; of a number's own digits that number. -/
import Derived.Test.YtpidmmfjmbinkaaGreatDoorG15
import Derived.Test.YtpidmmfjmbinkaaGreatDoorGen
namespace Go.Proofs.YtpidmmfjmbinkaaGreatDoor
open Go.RowKit
def bytesOf (s : ByteArray) : List UInt8 := s.data.toList
theorem noBl {sl : List UInt8} {f k : Nat} (hk : k ≤ sl.length) (hfk : f ≤ k) (hn : ∀ j, f ≤ j → j < k → sl[j]? ≠ some 32) : (32 : UInt8) ∉ (sl.drop f).take (k - f) := by
  intro hm
  obtain ⟨j, hj, e⟩ := List.mem_iff_getElem.1 hm
  rw [List.length_take, List.length_drop] at hj
  rw [List.getElem_take, List.getElem_drop] at e
  exact hn (f + j) (by omega) (by omega) (by rw [List.getElem?_eq_getElem (by omega), e])
theorem words_step {sl : List UInt8} {f k : Nat} (hk : k < sl.length) (hfk : f ≤ k) (hc : sl[k] = 32) (hn : ∀ j, f ≤ j → j < k → sl[j]? ≠ some 32) : wordsL (sl.drop f) = (sl.drop f).take (k - f) :: wordsL (sl.drop (k + 1)) := by
  have e : sl.drop f = (sl.drop f).take (k - f) ++ 32 :: sl.drop (k + 1) := by
    have h1 : (sl.drop f).drop (k - f) = sl.drop k := by rw [List.drop_drop]; congr 1; omega
    have h2 : sl.drop k = 32 :: sl.drop (k + 1) := by rw [List.drop_eq_getElem_cons hk, hc]
    rw [← h2, ← h1, List.take_append_drop]
  have h := words_app ((sl.drop f).take (k - f)) (sl.drop (k + 1)) (noBl (by omega) hfk hn)
  rw [← e] at h
  exact h
theorem words_end {sl : List UInt8} {f : Nat} (hf : f ≤ sl.length) (hn : ∀ j, f ≤ j → j < sl.length → sl[j]? ≠ some 32) : wordsL (sl.drop f) = [(sl.drop f).take (sl.length - f)] := by
  have e : (sl.drop f).take (sl.length - f) = sl.drop f := List.take_of_length_le (by rw [List.length_drop]; omega)
  have h := words_one ((sl.drop f).take (sl.length - f)) (noBl (Nat.le_refl _) hf hn)
  rw [← h, e]
/-- What stands of the words when k bytes are read, the last word from f on. -/
def WordI (sl : List UInt8) (k f : Nat) (ys : List ByteArray) : Prop :=
  (k ≤ sl.length ∧ f ≤ k ∧ (∀ j, f ≤ j → j < k → sl[j]? ≠ some 32) ∧ wordsL sl = ys.map bytesOf ++ wordsL (sl.drop f)) ∨ (k = sl.length + 1 ∧ wordsL sl = ys.map bytesOf)
theorem bytesOf_extract (s : ByteArray) (f k : Nat) : bytesOf (s.extract f k) = (s.data.toList.drop f).take (k - f) := by unfold bytesOf; rw [Lib.extract_eq]
theorem wordI_blank {s : ByteArray} {k f : Nat} {ys : List ByteArray} (h : WordI s.data.toList k f ys) (hk : k < s.size) (hc : s[k] = 32) : WordI s.data.toList (k + 1) (k + 1) (ys ++ [s.extract f k]) := by
  have hl := size_length s
  rcases h with ⟨h1, h2, h3, h4⟩ | ⟨h1, _⟩
  · refine .inl ⟨by omega, Nat.le_refl _, fun j hj hj2 => by omega, ?_⟩
    rw [h4, words_step (by omega) h2 hc h3, List.map_append, List.append_assoc]
    congr 1
    show _ = [bytesOf (s.extract f k)] ++ _
    rw [bytesOf_extract]; rfl
  · omega
theorem wordI_end {s : ByteArray} {f : Nat} {ys : List ByteArray} (h : WordI s.data.toList s.size f ys) : WordI s.data.toList (s.size + 1) (s.size + 1) (ys ++ [s.extract f s.size]) := by
  have hl := size_length s
  rcases h with ⟨h1, h2, h3, h4⟩ | ⟨h1, _⟩
  · refine .inr ⟨by omega, ?_⟩
    rw [h4, words_end (by omega) (by rw [hl]; exact h3), List.map_append]
    congr 1
    show _ = [bytesOf (s.extract f s.size)]
    rw [bytesOf_extract, hl]
  · omega
theorem wordI_other {s : ByteArray} {k f : Nat} {ys : List ByteArray} (h : WordI s.data.toList k f ys) (hk : k < s.size) (hc : s[k] ≠ 32) : WordI s.data.toList (k + 1) f ys := by
  have hl := size_length s
  rcases h with ⟨h1, h2, h3, h4⟩ | ⟨h1, _⟩
  · refine .inl ⟨by omega, by omega, fun j hj hj2 => ?_, h4⟩
    rcases Nat.lt_or_ge j k with hj3 | hj3
    · exact h3 j hj hj3
    · obtain rfl : j = k := by omega
      rw [List.getElem?_eq_getElem (by omega)]
      intro e
      exact hc (Option.some.inj e)
  · omega
theorem oneT_rd (w : World) (t : ByteArray) : RdS (w.alloc (.cells #[.string t] 9)) (.slice (some ⟨w.heap.size, 0, none⟩) 1 1) [t] := by
  refine ⟨_, _, rfl, by simp, by unfold maxLen; omega, .inr ⟨w.heap.size, 0, rfl, fun i hi => ?_⟩⟩
  have : i = 0 := by simpa using hi
  subst this
  simp
def WordsP (w : World) (s : ByteArray) (e : Ending) (w' : World) : Prop := ∃ (v : Value) (ys : List ByteArray), e = .returned v ∧ ys.map bytesOf = wordsL s.data.toList ∧ RdS w' v ys ∧ Below w.heap.size w w'
set_option maxHeartbeats 2000000 in
set_option maxRecDepth 100000 in
theorem words_any (s : ByteArray) (w : World) (hs : s.size ≤ 1048576) :
    Calls Tryz.prog 47 #[.string s] w fun e w' => WordsP w s e w' := by
  have hl := size_length s
  have o0 := ownS_none w
  have b0 := below1 w (.cells #[] 9)
  go_enter Tryz.func47, Tryz.ntmps47
  go_wp2
  go_loopw [3, 4, 5] (fun oo ff ii wr => ∃ (k f : Nat) (ys : List ByteArray), ii = .int .i64 k ∧ ff = .int .i64 f ∧ k ≤ s.size + 1 ∧ f ≤ k ∧ ys.length ≤ k ∧ Hid (WordI s.data.toList k f ys) ∧ OwnS wr w.heap.size oo ys ∧ Below w.heap.size w wr) (fun _ _ i _ => s.size + 1 - (intOf i).toNat)
  case atStart => exact ⟨0, 0, [], rfl, rfl, by omega, Nat.le_refl _, Nat.le_refl _, .inl ⟨Nat.zero_le _, Nat.le_refl _, fun j h1 h2 => by omega, rfl⟩, o0, b0⟩
  case round =>
    clear o0 b0
    obtain ⟨k, f, ys, rfl, rfl, hk, hf, hy, HI, ho, hb⟩ := hrel
    have hs1 := hb.size
    by_cases hle : k ≤ s.size
    · have c1 : (0 : Int) ≤ (f : Int) := by omega
      have c2 : (f : Int) ≤ (k : Int) := by omega
      have c3 : (k : Int) ≤ (s.size : Int) := by omega
      have ho2 := ho.below (below1 wr (.cells #[.string (s.extract f k)] 9))
      have hr2 := oneT_rd wr (s.extract f k)
      have hb2 := hb.trans ((below1 wr (.cells #[.string (s.extract f k)] 9)).mono hs1)
      by_cases hke : k = s.size
      · have HE : Hid (WordI s.data.toList (k + 1) (k + 1) (ys ++ [s.extract f k])) := by unfold Hid; subst hke; exact wordI_end HI.out
        have hq : ((k : Int) == (s.size : Int)) = true := by simp [hke]
        clear hke HI
        go_wp2_with (at_builtin; (refine wpList_append_txts rfl _ _ rfl w.heap.size _ _ ys [s.extract f k] rfl rfl ho2 hr2 ?c1 (by simp; omega) (by simp; omega) ?_))
        case c1 => intro n c e; cases e
        intro v' w3 hown' hgrow
        have hb3 := pushS_below ho (Nat.le_refl _) hb hs1 hgrow
        clear ho2 hr2 hb2 ho hb hgrow
        go_wp2
        go_roundw
        case rel => exact ⟨k + 1, k + 1, _, by go_num, by go_num, by omega, Nat.le_refl _, by rw [List.length_append]; simp; omega, HE, hown', hb3⟩
        case measure => simp [intOf]; omega
      · have hlt : k < s.size := by omega
        have hq : ((k : Int) == (s.size : Int)) = false := by simp; omega
        by_cases hc : s[k] = 32
        · have HE : Hid (WordI s.data.toList (k + 1) (k + 1) (ys ++ [s.extract f k])) := wordI_blank HI.out hlt hc
          have hq2 : ((s[k].toNat : Int) == 32) = true := by rw [hc]; rfl
          clear HI hc
          go_wp2_with (at_builtin; (refine wpList_append_txts rfl _ _ rfl w.heap.size _ _ ys [s.extract f k] rfl rfl ho2 hr2 ?c1 (by simp; omega) (by simp; omega) ?_))
          case c1 => intro n c e; cases e
          intro v' w3 hown' hgrow
          have hb3 := pushS_below ho (Nat.le_refl _) hb hs1 hgrow
          clear ho2 hr2 hb2 ho hb hgrow
          go_wp2
          go_roundw
          case rel => exact ⟨k + 1, k + 1, _, by go_num, by go_num, by omega, Nat.le_refl _, by rw [List.length_append]; simp; omega, HE, hown', hb3⟩
          case measure => simp [intOf]; omega
        · have HE : Hid (WordI s.data.toList (k + 1) f ys) := wordI_other HI.out hlt hc
          have hq2 : ((s[k].toNat : Int) == 32) = false := by
            simp only [beq_eq_false_iff_ne]
            intro e
            exact hc (UInt8.toNat_inj.1 (by show s[k].toNat = 32; omega))
          clear HI hc ho2 hr2 hb2
          go_wp2
          go_roundw
          case rel => exact ⟨k + 1, f, ys, by go_num, rfl, by omega, by omega, by omega, HE, ho, hb⟩
          case measure => simp [intOf]; omega
    · have hke : k = s.size + 1 := by omega
      have HF : Hid (ys.map bytesOf = wordsL s.data.toList) := by
        rcases HI.out with ⟨h1, _⟩ | ⟨_, h⟩
        · omega
        · exact h.symm
      clear HI hke
      go_wp2
      go_ret
      exact ⟨_, ys, rfl, HF.out, ho.rd, hb⟩
end Go.Proofs.YtpidmmfjmbinkaaGreatDoor
namespace Go.Proofs.YtpidmmfjmbinkaaGreatDoor
open Go.RowKit
theorem toListB (b : ByteArray) : b.toList = b.data.toList := ByteArray.toList_eq b
theorem toList_ne {s : ByteArray} (h : 0 < s.size) : s.toList.isEmpty = false := by
  rw [toListB, List.isEmpty_eq_false_iff]; intro e
  have := size_length s
  rw [e] at this
  simp at this
  omega
theorem toList_nil {s : ByteArray} (h : s.size = 0) : s.toList.isEmpty = true := by
  rw [toListB, List.isEmpty_iff]
  exact List.length_eq_zero_iff.1 (by rw [size_length]; exact h)
theorem dec_lenk : ∀ (k u : Nat), 1 ≤ k → u < 10 ^ k → (Lib.decDigits u).length ≤ k
  | 0, u, h, _ => by omega
  | k + 1, u, _, h => by
    rw [dec_left, List.length_append, List.length_singleton]
    unfold left
    split
    · simp
    · rename_i h0
      by_cases hk : k = 0
      · subst hk; omega
      · have := dec_lenk k (u / 10) (by omega) (by rw [Nat.pow_succ] at h; omega)
        omega
def NumP (w : World) (e : Ending) (w' : World) : Prop := (∃ (n : Int) (b : Bool), e = .returned (.tuple #[.int .i64 n, .bool b])) ∧ w' = w
theorem numP {w : World} (n : Int) (b : Bool) : NumP w (.returned (.tuple #[.int .i64 n, .bool b])) w := ⟨⟨n, b, rfl⟩, rfl⟩
set_option maxHeartbeats 4000000 in
set_option maxRecDepth 100000 in
theorem number_any (s : ByteArray) (w : World) (hs : s.size ≤ 1048576) :
    Calls Tryz.prog 48 #[.string s] w fun e w' => NumP w e w' := by
  by_cases h0 : s.size = 0
  · have hne := toList_nil h0
    have c1 : ((s.size : Int) - 0 < 1) := by omega
    go_enter Tryz.func48, Tryz.ntmps48
    go_wp2
    go_ret2
    exact numP _ _
  have hp : 0 < s.size := by omega
  have hne := toList_ne hp
  clear h0
  by_cases h45 : s[0] = 45
  · have hq : ((s[0].toNat : Int) == 45) = true := by rw [h45]; rfl
    clear h45
    by_cases hl : 2 ≤ s.size ∧ s.size ≤ 11
    · have c1 : ¬ ((s.size : Int) - 1 < 1) := by omega
      have c2 : ¬ (10 < (s.size : Int) - 1) := by omega
      go_enter Tryz.func48, Tryz.ntmps48
      go_wp2
      clear c1 c2 hq
      go_loop [6, 7] (fun nn kk => ∃ (k : Nat) (m : Int), 1 ≤ k ∧ k ≤ s.size ∧ kk = .int .i64 k ∧ nn = .int .i64 m) (fun _ kk => s.size - (intOf kk).toNat)
      case atStart => exact ⟨1, 0, Nat.le_refl _, by omega, rfl, rfl⟩
      case round =>
        obtain ⟨k, m, hk1, hk2, rfl, rfl⟩ := hrel
        by_cases hlt : k < s.size
        · by_cases d1 : (s[k].toNat : Int) < 48
          · go_wp2
            go_ret2
            exact numP _ _
          · by_cases d2 : 57 < (s[k].toNat : Int)
            · go_wp2
              go_ret2
              exact numP _ _
            · go_wp2
              go_round
              case rel => exact ⟨k + 1, _, by omega, by omega, by go_num, rfl⟩
              case measure => simp [intOf]; omega
        · have hle : 1 < s.size := by omega
          by_cases hz : s[1] = 48
          · have hz2 : ((s[1].toNat : Int) == 48) = true := by rw [hz]; rfl
            clear hz
            go_wp2
            all_goals go_ret2
            all_goals exact numP _ _
          · have hz2 : ((s[1].toNat : Int) == 48) = false := by
              simp only [beq_eq_false_iff_ne]
              intro e
              exact hz (UInt8.toNat_inj.1 (by show s[1].toNat = 48; omega))
            clear hz
            go_wp2
            all_goals go_ret2
            all_goals exact numP _ _
    · go_enter Tryz.func48, Tryz.ntmps48
      by_cases hl2 : (s.size : Int) - 1 < 1
      · go_wp2
        go_ret2
        exact numP _ _
      · have c2 : 10 < (s.size : Int) - 1 := by omega
        go_wp2
        go_ret2
        exact numP _ _
  · have hq : ((s[0].toNat : Int) == 45) = false := by
      simp only [beq_eq_false_iff_ne]
      intro e
      exact h45 (UInt8.toNat_inj.1 (by show s[0].toNat = 45; omega))
    clear h45
    by_cases hl : 1 ≤ s.size ∧ s.size ≤ 10
    · have c1 : ¬ ((s.size : Int) - 0 < 1) := by omega
      have c2 : ¬ (10 < (s.size : Int) - 0) := by omega
      go_enter Tryz.func48, Tryz.ntmps48
      go_wp2
      clear c1 c2 hq
      go_loop [6, 7] (fun nn kk => ∃ (k : Nat) (m : Int), 0 ≤ k ∧ k ≤ s.size ∧ kk = .int .i64 k ∧ nn = .int .i64 m) (fun _ kk => s.size - (intOf kk).toNat)
      case atStart => exact ⟨0, 0, Nat.le_refl _, by omega, rfl, rfl⟩
      case round =>
        obtain ⟨k, m, hk1, hk2, rfl, rfl⟩ := hrel
        by_cases hlt : k < s.size
        · by_cases d1 : (s[k].toNat : Int) < 48
          · go_wp2
            go_ret2
            exact numP _ _
          · by_cases d2 : 57 < (s[k].toNat : Int)
            · go_wp2
              go_ret2
              exact numP _ _
            · go_wp2
              go_round
              case rel => exact ⟨k + 1, _, by omega, by omega, by go_num, rfl⟩
              case measure => simp [intOf]; omega
        · have hle : 0 < s.size := by omega
          by_cases hz : s[0] = 48
          · have hz2 : ((s[0].toNat : Int) == 48) = true := by rw [hz]; rfl
            clear hz
            go_wp2
            all_goals go_ret2
            all_goals exact numP _ _
          · have hz2 : ((s[0].toNat : Int) == 48) = false := by
              simp only [beq_eq_false_iff_ne]
              intro e
              exact hz (UInt8.toNat_inj.1 (by show s[0].toNat = 48; omega))
            clear hz
            go_wp2
            all_goals go_ret2
            all_goals exact numP _ _
    · go_enter Tryz.func48, Tryz.ntmps48
      by_cases hl2 : (s.size : Int) - 0 < 1
      · omega
      · have c2 : 10 < (s.size : Int) - 0 := by omega
        go_wp2
        go_ret2
        exact numP _ _
theorem valD_step {s : ByteArray} {k : Nat} (h : k < s.size) : valD 0 (s.data.toList.take (k + 1)) = valD 0 (s.data.toList.take k) * 10 + (s[k].toNat - 48) := by
  have hl := size_length s
  rw [List.take_succ_eq_append_getElem (by omega), valD_append]
  rfl
theorem valD_le (l : List UInt8) (k : Nat) : valD 0 (l.take k) ≤ valD 0 l := by
  have e := List.take_append_drop k l
  have h : valD 0 l = valD (valD 0 (l.take k)) (l.drop k) := by rw [← valD_append, e]
  rw [h]
  exact valD_ge _ _
/-- A text that is a number's digits. -/
theorem dec_facts (g : Int) (h0 : 1 ≤ g) (h1 : g ≤ 1000000) : ∃ hp : 0 < (itoaS g).size, (itoaS g).size ≤ 7 ∧ 49 ≤ (itoaS g)[0].toNat ∧ (∀ k (h : k < (itoaS g).size), 48 ≤ (itoaS g)[k].toNat ∧ (itoaS g)[k].toNat ≤ 57) ∧ valD 0 (itoaS g).data.toList = g.toNat := by
  have e : (itoaS g).data.toList = Lib.decDigits g.toNat := itoa_pos g h0
  have hl := size_length (itoaS g)
  obtain ⟨c, r, e2, h3, h4⟩ := dec_head g.toNat g.toNat (Nat.le_refl _) (by omega)
  have hp : 0 < (itoaS g).size := by rw [← hl, e, e2]; simp
  refine ⟨hp, ?_, ?_, fun k h => ?_, ?_⟩
  · rw [← hl, e]; exact dec_lenk 7 _ (by omega) (by omega)
  · show 49 ≤ ((itoaS g).data.toList[0]'(by omega)).toNat
    have : (itoaS g).data.toList[0]'(by omega) = c := by
      have e3 := e.trans e2
      simp [e3]
    rw [this]; exact h3
  · exact dec_digs g.toNat g.toNat (Nat.le_refl _) _ (by rw [← e]; exact List.getElem_mem (by omega : k < (itoaS g).data.toList.length))
  · rw [e]; exact dec_val _ _ (Nat.le_refl _)
set_option maxHeartbeats 4000000 in
set_option maxRecDepth 100000 in
theorem number_dec (g : Int) (w : World) (h0 : 1 ≤ g) (h1 : g ≤ 1000000) :
    Calls Tryz.prog 48 #[.string (itoaS g)] w fun e w' => e = .returned (.tuple #[.int .i64 g, .bool true]) ∧ w' = w := by
  have H := dec_facts g h0 h1
  generalize itoaS g = s at H ⊢
  obtain ⟨hp, hl, hf, hd, hv⟩ := H
  have hsz := size_length s
  have HV : Hid (valD 0 s.data.toList = g.toNat) := hv
  have HD : Hid (∀ k (h : k < s.size), 48 ≤ s[k].toNat ∧ s[k].toNat ≤ 57) := hd
  have hne := toList_ne hp
  have hq : ((s[0].toNat : Int) == 45) = false := by simp only [beq_eq_false_iff_ne]; omega
  have hz2 : ((s[0].toNat : Int) == 48) = false := by simp only [beq_eq_false_iff_ne]; omega
  clear hv hd hf
  have c1 : ¬ ((s.size : Int) - 0 < 1) := by omega
  have c2 : ¬ (10 < (s.size : Int) - 0) := by omega
  go_enter Tryz.func48, Tryz.ntmps48
  go_wp2
  clear c1 c2 hq
  go_loop [6, 7] (fun nn kk => ∃ (k m : Nat), k ≤ s.size ∧ kk = .int .i64 k ∧ nn = .int .i64 m ∧ Hid (m = valD 0 (s.data.toList.take k))) (fun _ kk => s.size - (intOf kk).toNat)
  case atStart => exact ⟨0, 0, Nat.zero_le _, rfl, rfl, rfl⟩
  case round =>
    obtain ⟨k, m, hk2, rfl, rfl, HM⟩ := hrel
    by_cases hlt : k < s.size
    · obtain ⟨d1, d2⟩ := HD.out k hlt
      have hm : m ≤ 1000000 := by
        have := valD_le s.data.toList k
        rw [HV.out] at this
        rw [HM.out]
        omega
      have HN : Hid (m * 10 + (s[k].toNat - 48) = valD 0 (s.data.toList.take (k + 1))) := by unfold Hid; rw [valD_step hlt, ← HM.out]
      go_wp2
      go_round
      case rel => exact ⟨k + 1, _, by omega, by go_num, by go_num, HN⟩
      case measure => simp [intOf]; omega
    · have HG : Hid ((m : Int) = g) := by
        unfold Hid
        rw [HM.out, List.take_of_length_le (by omega), HV.out]
        omega
      go_wp2
      go_ret2
      exact ⟨by rw [← HG.out]; rfl, rfl⟩
end Go.Proofs.YtpidmmfjmbinkaaGreatDoor
