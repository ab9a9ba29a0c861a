/- The contracts of both NewDevice. -/
import Derived.Test.YtgmjoejoehhekaaDevCp
import Derived.Test.YtgmjoejoehhekaaDevOk
namespace Go.Proofs.Ytgmjoejoehhekaa
open Go.RowKit
/-- What a function leaves that tells a device in rows of its own, and a bool. -/
def DvRes (w : World) (ss : List ByteArray) (ps : List Pat) (ok : Bool) (e : Ending) (w' : World) : Prop := ∃ Y : DvX, e = .returned (.tuple #[.agg #[Y.vs, Y.vl], .bool ok]) ∧ Y.secs = ss ∧ Y.late = ps ∧ OwnDv w' w.heap.size Y ∧ Below w.heap.size w w'
theorem ownS_zero (w : World) (B : Nat) : OwnS w B (.slice none 0 0) [] := ⟨rfl, .inl ⟨rfl, rfl⟩⟩
theorem ownPt_zero (w : World) (B : Nat) : OwnPt w B (.slice none 0 0) [] := ⟨rfl, .inl ⟨rfl, rfl⟩⟩
theorem ownDv_zero (w : World) (B : Nat) : OwnDv w B ⟨.slice none 0 0, .slice none 0 0, [], []⟩ := ⟨ownS_zero w B, ownPt_zero w B⟩
def newS (n : Int) : List ByteArray := if 1 ≤ n ∧ n ≤ 16 then List.replicate n.toNat ⟨#[]⟩ else []
def newO (n : Int) : Bool := decide (1 ≤ n) && decide (n ≤ 16)
set_option maxHeartbeats 2000000 in
set_option maxRecDepth 100000 in
theorem specNew_any (n : Int) (w : World) : Calls Try.prog 20 #[.int .i64 n] w fun e w' => DvRes w (newS n) [] (newO n) e w' := by
  have r0 := boxDv_new w (.slice none 0 0) (.slice none 0 0)
  have b0 := below1 w (.cells #[.slice none 0 0, .slice none 0 0] 27)
  obtain ⟨f0, f1, f2, f3⟩ := r0.facts
  by_cases hn : 1 ≤ n ∧ n ≤ 16
  · obtain ⟨h1, h2⟩ := hn
    obtain ⟨m, hm⟩ : ∃ m : Nat, n = (m : Int) := ⟨n.toNat, by omega⟩
    have HS : Hid (newS n = List.replicate m ⟨#[]⟩) := by unfold Hid newS; rw [if_pos ⟨h1, h2⟩, hm]; rfl
    have HO : Hid (newO n = true) := by unfold Hid newO; simp; omega
    rw [HS.out, HO.out]
    clear HS HO
    subst hm
    have e1 : (decide ((1 : Int) ≤ (m : Int)) && decide ((m : Int) ≤ 16)) = true := by simp; omega
    obtain ⟨i0, hi, hz0, hz1, hz2⟩ := info_parts Try.info9
    go_enter Try.func20, Try.ntmps20
    go_wp2_with first | (go_at_call 33; refine (in64_any _ _ _ _).mono ?_; rintro e w' ⟨rfl, rfl⟩) | (at_make; (refine wpList_make_full _ rfl _ _ 24 rfl (w.heap.size + 1) 9 i0 (.string ⟨#[]⟩) 1 Try.underlying24 hi hz0 hz1 .i64 .i64 (m : Int) (m : Int) m rfl rfl rfl rfl ?c1 ?c2 ?c3 ?_))
    case c1 => rw [hz2]; omega
    case c2 => unfold maxLen; omega
    case c3 => simp
    intro w1 ho1 hg1
    rw [made_SV] at ho1
    have hb1 := b0.grown hg1 (by simp) (fun k hk => by cases hk)
    have r1 : BoxDv w1 w.heap.size _ _ := r0.of_block (hg1.block _ (by simp) (by simp))
    have ho2 : OwnS w1 (w.heap.size + 1) (.slice (some ⟨w.heap.size + 1, 0, none⟩) m m) (List.replicate m ⟨#[]⟩) := by
      unfold OwnS
      rw [List.length_replicate]
      simpa using ho1
    clear hg1 r0 b0 f0 f1 f2 f3 ho1
    obtain ⟨f0, f1, f2, f3⟩ := r1.facts
    have z := (r1.set0 (u := .slice (some ⟨w.heap.size + 1, 0, none⟩) m m)).set1 (u := .slice none 0 0)
    obtain ⟨k0, k1, -, -⟩ := z.facts
    have HF : Hid (DvRes w (List.replicate m ⟨#[]⟩) [] true (.returned (.tuple #[.agg #[.slice (some ⟨w.heap.size + 1, 0, none⟩) m m, .slice none 0 0], .bool true])) ((w1.setCell ⟨w.heap.size, 0, none⟩ (.slice (some ⟨w.heap.size + 1, 0, none⟩) m m)).setCell ⟨w.heap.size, 1, none⟩ (.slice none 0 0))) :=
      ⟨⟨.slice (some ⟨w.heap.size + 1, 0, none⟩) m m, .slice none 0 0, List.replicate m ⟨#[]⟩, []⟩, rfl, rfl, rfl, ⟨OwnS.mono (row_base (row_base ho2 (by omega)) (by omega)) (by omega), ownPt_zero _ _⟩, (hb1.setCell (p := ⟨w.heap.size, 0, none⟩) (by simp) _).setCell (p := ⟨w.heap.size, 1, none⟩) (by simp) _⟩
    clear z r1 ho2 hb1
    go_wp2
    exact bodyPost_ret (v := .tuple #[.agg #[.slice (some ⟨w.heap.size + 1, 0, none⟩) m m, .slice none 0 0], .bool true]) (by simp [results, Try.results20, go_sem, k0, k1]) rfl HF.out
  · have HS : Hid (newS n = []) := by unfold Hid newS; rw [if_neg hn]
    have e1 : (decide ((1 : Int) ≤ n) && decide (n ≤ 16)) = false := by rw [Bool.eq_false_iff]; simp; omega
    have HO : Hid (newO n = false) := e1
    rw [HS.out, HO.out]
    have HF : Hid (DvRes w [] [] false (.returned (.tuple #[.agg #[.slice none 0 0, .slice none 0 0], .bool false])) (w.alloc (.cells #[.slice none 0 0, .slice none 0 0] 27))) := ⟨⟨.slice none 0 0, .slice none 0 0, [], []⟩, rfl, rfl, rfl, ownDv_zero _ _, b0⟩
    clear HS HO hn
    go_enter Try.func20, Try.ntmps20
    go_wp2_with (go_at_call 33; refine (in64_any _ _ _ _).mono ?_; rintro e w' ⟨rfl, rfl⟩)
    exact bodyPost_ret (v := .tuple #[.agg #[.slice none 0 0, .slice none 0 0], .bool false]) (by simp [results, Try.results20, go_sem, f0, f1]) rfl HF.out
set_option maxHeartbeats 2000000 in
set_option maxRecDepth 100000 in
theorem implNew_any (n : Int) (w : World) : Calls Try.prog 11 #[.int .i64 n] w fun e w' => DvRes w (newS n) [] (newO n) e w' := by
  have r0 := boxDv_new w (.slice none 0 0) (.slice none 0 0)
  have b0 := below1 w (.cells #[.slice none 0 0, .slice none 0 0] 27)
  obtain ⟨f0, f1, f2, f3⟩ := r0.facts
  by_cases hn : 1 ≤ n ∧ n ≤ 16
  · obtain ⟨h1, h2⟩ := hn
    obtain ⟨m, hm⟩ : ∃ m : Nat, n = (m : Int) := ⟨n.toNat, by omega⟩
    have HS : Hid (newS n = List.replicate m ⟨#[]⟩) := by unfold Hid newS; rw [if_pos ⟨h1, h2⟩, hm]; rfl
    have HO : Hid (newO n = true) := by unfold Hid newO; simp; omega
    rw [HS.out, HO.out]
    clear HS HO
    subst hm
    have h3 : ¬ (m : Int) < 1 := by omega
    have h4 : ¬ 16 < (m : Int) := by omega
    obtain ⟨i0, hi, hz0, hz1, hz2⟩ := info_parts Try.info9
    go_enter Try.func11, Try.ntmps11
    go_wp2_with (at_make; (refine wpList_make_full _ rfl _ _ 24 rfl (w.heap.size + 1) 9 i0 (.string ⟨#[]⟩) 1 Try.underlying24 hi hz0 hz1 .i64 .i64 (m : Int) (m : Int) m rfl rfl rfl rfl ?c1 ?c2 ?c3 ?_))
    case c1 => omega
    case c2 => unfold maxLen; omega
    intro w1 ho1 hg1
    rw [made_SV] at ho1
    have hb1 := b0.grown hg1 (by simp) (fun k hk => by cases hk)
    have r1 : BoxDv w1 w.heap.size _ _ := r0.of_block (hg1.block _ (by simp) (by simp))
    have s1 : w.heap.size < w1.heap.size := r1.lt
    have ho2 : OwnS w1 (w.heap.size + 1) (.slice (some ⟨w.heap.size + 1, 0, none⟩) m m) (List.replicate m ⟨#[]⟩) := by
      unfold OwnS
      rw [List.length_replicate]
      simpa using ho1
    clear hg1 r0 b0 f0 f1 f2 f3 ho1
    obtain ⟨f0, f1, f2, f3⟩ := r1.facts
    obtain ⟨W2, hW2⟩ : ∃ W2, W2 = (w1.setCell ⟨w.heap.size, 0, none⟩ (.slice (some ⟨w.heap.size + 1, 0, none⟩) m m)).setCell ⟨w.heap.size, 1, none⟩ (.slice (some ⟨w1.heap.size, 0, none⟩) 0 0) := ⟨_, rfl⟩
    have z := (r1.set0 (u := .slice (some ⟨w.heap.size + 1, 0, none⟩) m m)).set1 (u := .slice (some ⟨w1.heap.size, 0, none⟩) 0 0)
    have ho3 : OwnS W2 (w.heap.size + 1) (.slice (some ⟨w.heap.size + 1, 0, none⟩) m m) (List.replicate m ⟨#[]⟩) := by rw [hW2]; exact row_base (row_base ho2 (by omega)) (by omega)
    have s2 : W2.heap.size = w1.heap.size := by rw [hW2]; simp
    have hb2 : Below w.heap.size w W2 := by rw [hW2]; exact (hb1.setCell (p := ⟨w.heap.size, 0, none⟩) (by simp) _).setCell (p := ⟨w.heap.size, 1, none⟩) (by simp) _
    rw [← hW2] at z
    have bb := below1 W2 (.cells #[] 43)
    have hl3 := ownPt_none W2
    rw [s2] at hl3
    obtain ⟨k0, k1, -, -⟩ := (z.below bb).facts
    have HF : Hid (DvRes w (List.replicate m ⟨#[]⟩) [] true (.returned (.tuple #[.agg #[.slice (some ⟨w.heap.size + 1, 0, none⟩) m m, .slice (some ⟨w1.heap.size, 0, none⟩) 0 0], .bool true])) (W2.alloc (.cells #[] 43))) :=
      ⟨⟨.slice (some ⟨w.heap.size + 1, 0, none⟩) m m, .slice (some ⟨w1.heap.size, 0, none⟩) 0 0, List.replicate m ⟨#[]⟩, []⟩, rfl, rfl, rfl, ⟨OwnS.mono (ho3.below bb) (by omega), OwnPt.mono hl3 (by omega)⟩, hb2.trans (bb.mono hb2.size)⟩
    rw [hW2] at k0 k1 HF
    clear z ho2 hb1 ho3 hl3 hb2 bb r1 hW2 s2
    go_wp2
    exact bodyPost_ret (v := .tuple #[.agg #[.slice (some ⟨w.heap.size + 1, 0, none⟩) m m, .slice (some ⟨w1.heap.size, 0, none⟩) 0 0], .bool true]) (by simp [results, Try.results11, go_sem, k0, k1]) rfl HF.out
  · have HS : Hid (newS n = []) := by unfold Hid newS; rw [if_neg hn]
    have HO : Hid (newO n = false) := by unfold Hid newO; rw [Bool.eq_false_iff]; simp; omega
    rw [HS.out, HO.out]
    have HF : Hid (DvRes w [] [] false (.returned (.tuple #[.agg #[.slice none 0 0, .slice none 0 0], .bool false])) (w.alloc (.cells #[.slice none 0 0, .slice none 0 0] 27))) := ⟨⟨.slice none 0 0, .slice none 0 0, [], []⟩, rfl, rfl, rfl, ownDv_zero _ _, b0⟩
    clear HS HO
    by_cases h1 : n < 1
    · go_enter Try.func11, Try.ntmps11
      go_wp2
      exact bodyPost_ret (v := .tuple #[.agg #[.slice none 0 0, .slice none 0 0], .bool false]) (by simp [results, Try.results11, go_sem, f0, f1]) rfl HF.out
    · have h2 : 16 < n := by omega
      go_enter Try.func11, Try.ntmps11
      go_wp2
      exact bodyPost_ret (v := .tuple #[.agg #[.slice none 0 0, .slice none 0 0], .bool false]) (by simp [results, Try.results11, go_sem, f0, f1]) rfl HF.out
end Go.Proofs.Ytgmjoejoehhekaa
