/- The contract of the model's l2Words: the words of a line, in memory of its own. -/
import Derived.Test.YtdleolgkbkoekaaDoorSltMath
import Derived.Test.YtdleolgkbkoekaaDoorGen
namespace Go.Proofs.YtdleolgkbkoekaaDoor
open Go.RowKit
def bytesOf (s : ByteArray) : List UInt8 := s.data.toList
theorem noBl {sl : List UInt8} {f k : Nat} (hk : k ≤ sl.length) (hfk : f ≤ k) (hn : ∀ j, f ≤ j → j < k → sl[j]? ≠ some 32) : (32 : UInt8) ∉ (sl.drop f).take (k - f) := by
  intro hm
  obtain ⟨j, hj, e⟩ := List.mem_iff_getElem.1 hm
  rw [List.length_take, List.length_drop] at hj
  rw [List.getElem_take, List.getElem_drop] at e
  exact hn (f + j) (by omega) (by omega) (by rw [List.getElem?_eq_getElem (by omega), e])
theorem words_step {sl : List UInt8} {f k : Nat} (hk : k < sl.length) (hfk : f ≤ k) (hc : sl[k] = 32) (hn : ∀ j, f ≤ j → j < k → sl[j]? ≠ some 32) : wordsL (sl.drop f) = (sl.drop f).take (k - f) :: wordsL (sl.drop (k + 1)) := by
  have e : sl.drop f = (sl.drop f).take (k - f) ++ 32 :: sl.drop (k + 1) := by
    have h1 : (sl.drop f).drop (k - f) = sl.drop k := by rw [List.drop_drop]; congr 1; omega
    have h2 : sl.drop k = 32 :: sl.drop (k + 1) := by rw [List.drop_eq_getElem_cons hk, hc]
    rw [← h2, ← h1, List.take_append_drop]
  have h := words_app ((sl.drop f).take (k - f)) (sl.drop (k + 1)) (noBl (by omega) hfk hn)
  rw [← e] at h
  exact h
theorem words_end {sl : List UInt8} {f : Nat} (hf : f ≤ sl.length) (hn : ∀ j, f ≤ j → j < sl.length → sl[j]? ≠ some 32) : wordsL (sl.drop f) = [(sl.drop f).take (sl.length - f)] := by
  have e : (sl.drop f).take (sl.length - f) = sl.drop f := List.take_of_length_le (by rw [List.length_drop]; omega)
  have h := words_one ((sl.drop f).take (sl.length - f)) (noBl (Nat.le_refl _) hf hn)
  rw [← h, e]
/-- What stands of the words when k bytes are read, the last word from f on. -/
def WordI (sl : List UInt8) (k f : Nat) (ys : List ByteArray) : Prop :=
  (k ≤ sl.length ∧ f ≤ k ∧ (∀ j, f ≤ j → j < k → sl[j]? ≠ some 32) ∧ wordsL sl = ys.map bytesOf ++ wordsL (sl.drop f)) ∨ (k = sl.length + 1 ∧ wordsL sl = ys.map bytesOf)
theorem bytesOf_extract (s : ByteArray) (f k : Nat) : bytesOf (s.extract f k) = (s.data.toList.drop f).take (k - f) := by unfold bytesOf; rw [Lib.extract_eq]
theorem wordI_blank {s : ByteArray} {k f : Nat} {ys : List ByteArray} (h : WordI s.data.toList k f ys) (hk : k < s.size) (hc : s[k] = 32) : WordI s.data.toList (k + 1) (k + 1) (ys ++ [s.extract f k]) := by
  have hl := size_length s
  rcases h with ⟨h1, h2, h3, h4⟩ | ⟨h1, _⟩
  · refine .inl ⟨by omega, Nat.le_refl _, fun j hj hj2 => by omega, ?_⟩
    rw [h4, words_step (by omega) h2 hc h3, List.map_append, List.append_assoc]
    congr 1
    show _ = [bytesOf (s.extract f k)] ++ _
    rw [bytesOf_extract]; rfl
  · omega
theorem wordI_end {s : ByteArray} {f : Nat} {ys : List ByteArray} (h : WordI s.data.toList s.size f ys) : WordI s.data.toList (s.size + 1) (s.size + 1) (ys ++ [s.extract f s.size]) := by
  have hl := size_length s
  rcases h with ⟨h1, h2, h3, h4⟩ | ⟨h1, _⟩
  · refine .inr ⟨by omega, ?_⟩
    rw [h4, words_end (by omega) (by rw [hl]; exact h3), List.map_append]
    congr 1
    show _ = [bytesOf (s.extract f s.size)]
    rw [bytesOf_extract, hl]
  · omega
theorem wordI_other {s : ByteArray} {k f : Nat} {ys : List ByteArray} (h : WordI s.data.toList k f ys) (hk : k < s.size) (hc : s[k] ≠ 32) : WordI s.data.toList (k + 1) f ys := by
  have hl := size_length s
  rcases h with ⟨h1, h2, h3, h4⟩ | ⟨h1, _⟩
  · refine .inl ⟨by omega, by omega, fun j hj hj2 => ?_, h4⟩
    rcases Nat.lt_or_ge j k with hj3 | hj3
    · exact h3 j hj hj3
    · obtain rfl : j = k := by omega
      rw [List.getElem?_eq_getElem (by omega)]
      intro e
      exact hc (Option.some.inj e)
  · omega
theorem oneT_rd (w : World) (t : ByteArray) : RdS (w.alloc (.cells #[.string t] 9)) (.slice (some ⟨w.heap.size, 0, none⟩) 1 1) [t] := by
  refine ⟨_, _, rfl, by simp, by unfold maxLen; omega, .inr ⟨w.heap.size, 0, rfl, fun i hi => ?_⟩⟩
  have : i = 0 := by simpa using hi
  subst this
  simp
def WordsP (w : World) (s : ByteArray) (e : Ending) (w' : World) : Prop := ∃ (v : Value) (ys : List ByteArray), e = .returned v ∧ ys.map bytesOf = wordsL s.data.toList ∧ RdS w' v ys ∧ Below w.heap.size w w'
set_option maxHeartbeats 2000000 in
set_option maxRecDepth 100000 in
theorem words_any (s : ByteArray) (w : World) (hs : s.size ≤ 1048576) :
    Calls Tryd.prog 45 #[.string s] w fun e w' => WordsP w s e w' := by
  have hl := size_length s
  have o0 := ownS_none w
  have b0 := below1 w (.cells #[] 9)
  go_enter Tryd.func45, Tryd.ntmps45
  go_wp2
  go_loopw [3, 4, 5] (fun oo ff ii wr => ∃ (k f : Nat) (ys : List ByteArray), ii = .int .i64 k ∧ ff = .int .i64 f ∧ k ≤ s.size + 1 ∧ f ≤ k ∧ ys.length ≤ k ∧ Hid (WordI s.data.toList k f ys) ∧ OwnS wr w.heap.size oo ys ∧ Below w.heap.size w wr) (fun _ _ i _ => s.size + 1 - (intOf i).toNat)
  case atStart => exact ⟨0, 0, [], rfl, rfl, by omega, Nat.le_refl _, Nat.le_refl _, .inl ⟨Nat.zero_le _, Nat.le_refl _, fun j h1 h2 => by omega, rfl⟩, o0, b0⟩
  case round =>
    clear o0 b0
    obtain ⟨k, f, ys, rfl, rfl, hk, hf, hy, HI, ho, hb⟩ := hrel
    have hs1 := hb.size
    by_cases hle : k ≤ s.size
    · have c1 : (0 : Int) ≤ (f : Int) := by omega
      have c2 : (f : Int) ≤ (k : Int) := by omega
      have c3 : (k : Int) ≤ (s.size : Int) := by omega
      have ho2 := ho.below (below1 wr (.cells #[.string (s.extract f k)] 9))
      have hr2 := oneT_rd wr (s.extract f k)
      have hb2 := hb.trans ((below1 wr (.cells #[.string (s.extract f k)] 9)).mono hs1)
      by_cases hke : k = s.size
      · have HE : Hid (WordI s.data.toList (k + 1) (k + 1) (ys ++ [s.extract f k])) := by unfold Hid; subst hke; exact wordI_end HI.out
        have hq : ((k : Int) == (s.size : Int)) = true := by simp [hke]
        clear hke HI
        go_wp2_with (at_builtin; (refine wpList_append_txts rfl _ _ rfl w.heap.size _ _ ys [s.extract f k] rfl rfl ho2 hr2 ?c1 (by simp; omega) (by simp; omega) ?_))
        case c1 => intro n c e; cases e
        intro v' w3 hown' hgrow
        have hb3 := pushS_below ho (Nat.le_refl _) hb hs1 hgrow
        clear ho2 hr2 hb2 ho hb hgrow
        go_wp2
        go_roundw
        case rel => exact ⟨k + 1, k + 1, _, by go_num, by go_num, by omega, Nat.le_refl _, by rw [List.length_append]; simp; omega, HE, hown', hb3⟩
        case measure => simp [intOf]; omega
      · have hlt : k < s.size := by omega
        have hq : ((k : Int) == (s.size : Int)) = false := by simp; omega
        by_cases hc : s[k] = 32
        · have HE : Hid (WordI s.data.toList (k + 1) (k + 1) (ys ++ [s.extract f k])) := wordI_blank HI.out hlt hc
          have hq2 : ((s[k].toNat : Int) == 32) = true := by rw [hc]; rfl
          clear HI hc
          go_wp2_with (at_builtin; (refine wpList_append_txts rfl _ _ rfl w.heap.size _ _ ys [s.extract f k] rfl rfl ho2 hr2 ?c1 (by simp; omega) (by simp; omega) ?_))
          case c1 => intro n c e; cases e
          intro v' w3 hown' hgrow
          have hb3 := pushS_below ho (Nat.le_refl _) hb hs1 hgrow
          clear ho2 hr2 hb2 ho hb hgrow
          go_wp2
          go_roundw
          case rel => exact ⟨k + 1, k + 1, _, by go_num, by go_num, by omega, Nat.le_refl _, by rw [List.length_append]; simp; omega, HE, hown', hb3⟩
          case measure => simp [intOf]; omega
        · have HE : Hid (WordI s.data.toList (k + 1) f ys) := wordI_other HI.out hlt hc
          have hq2 : ((s[k].toNat : Int) == 32) = false := by
            simp only [beq_eq_false_iff_ne]
            intro e
            exact hc (UInt8.toNat_inj.1 (by show s[k].toNat = 32; omega))
          clear HI hc ho2 hr2 hb2
          go_wp2
          go_roundw
          case rel => exact ⟨k + 1, f, ys, by go_num, rfl, by omega, by omega, by omega, HE, ho, hb⟩
          case measure => simp [intOf]; omega
    · have hke : k = s.size + 1 := by omega
      have HF : Hid (ys.map bytesOf = wordsL s.data.toList) := by
        rcases HI.out with ⟨h1, _⟩ | ⟨_, h⟩
        · omega
        · exact h.symm
      clear HI hke
      go_wp2
      go_ret
      exact ⟨_, ys, rfl, HF.out, ho.rd, hb⟩
end Go.Proofs.YtdleolgkbkoekaaDoor
