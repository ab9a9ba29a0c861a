/- Plain facts on the texts of moves: their words, by both ways of cutting them, and the numbers that these spell. -/
import Derived.Test.YtdleolgkbkoekaaDoorMovShw
import Derived.Test.YtdleolgkbkoekaaDoorSltNum
import Derived.Test.YtdleolgkbkoekaaDoorSltWord
import Derived.Lib.Split
import Derived.Lib.IndexBytes
namespace Go.Proofs.YtdleolgkbkoekaaDoor
open Go.RowKit
theorem itoa_nat (g : Int) (h : 0 ≤ g) : (itoaS g).data.toList = Lib.decDigits g.toNat := by
  show Lib.itoa g = _
  unfold Lib.itoa
  rw [if_neg (by omega)]
theorem dec_zero : Lib.decDigits 0 = [48] := by rw [dec_left]; rfl
theorem ba_eqM {a b : ByteArray} (h : a.data.toList = b.data.toList) : a = b := by
  cases a; cases b; simp_all
theorem itoaS_zero : itoaS 0 = ⟨#[48]⟩ := ba_eqM (by rw [itoa_nat 0 (by omega)]; exact dec_zero)
/-- A text that is a number's digits, 0 among them. -/
theorem dec_factsZ (g : Int) (h0 : 0 ≤ g) (h1 : g ≤ 1000000000) : ∃ hp : 0 < (itoaS g).size, (itoaS g).size ≤ 10 ∧ ((itoaS g)[0].toNat = 48 → (itoaS g).size = 1) ∧ (∀ k (h : k < (itoaS g).size), 48 ≤ (itoaS g)[k].toNat ∧ (itoaS g)[k].toNat ≤ 57) ∧ valD 0 (itoaS g).data.toList = g.toNat := by
  have e := itoa_nat g h0
  have hl := size_length (itoaS g)
  have hd : ∀ k (h : k < (itoaS g).size), 48 ≤ (itoaS g)[k].toNat ∧ (itoaS g)[k].toNat ≤ 57 := fun k h => dec_digs g.toNat g.toNat (Nat.le_refl _) _ (by rw [← e]; exact List.getElem_mem (by omega : k < (itoaS g).data.toList.length))
  have hv : valD 0 (itoaS g).data.toList = g.toNat := by rw [e]; exact dec_val _ _ (Nat.le_refl _)
  have hs : (itoaS g).size ≤ 10 := by rw [← hl, e]; exact dec_lenk 10 _ (by omega) (by omega)
  by_cases hz : g = 0
  · subst hz
    have e1 : (itoaS 0).size = 1 := by rw [itoaS_zero]; rfl
    exact ⟨by omega, hs, fun _ => e1, hd, hv⟩
  · obtain ⟨c, r, e2, h3, h4⟩ := dec_head g.toNat g.toNat (Nat.le_refl _) (by omega)
    have hp : 0 < (itoaS g).size := by rw [← hl, e, e2]; simp
    refine ⟨hp, hs, fun h => ?_, hd, hv⟩
    have e3 : (itoaS g).data.toList[0]'(by omega) = c := by
      have e3 := e.trans e2
      simp [e3]
    have : ((itoaS g).data.toList[0]'(by omega)).toNat = 48 := h
    rw [e3] at this
    omega
theorem itoaS_inj {g h : Int} (h0 : 0 ≤ g) (h1 : 0 ≤ h) (e : itoaS g = itoaS h) : g = h := by
  have a : valD 0 (itoaS g).data.toList = g.toNat := by rw [itoa_nat g h0]; exact dec_val _ _ (Nat.le_refl _)
  have b : valD 0 (itoaS h).data.toList = h.toNat := by rw [itoa_nat h h1]; exact dec_val _ _ (Nat.le_refl _)
  rw [e, b] at a
  omega
theorem parse_itoaZ (g : Int) (h0 : 0 ≤ g) (h1 : g ≤ 1000000000) : Lib.parseIntB 64 (itoaS g).data.toList = .ok g := by
  by_cases hz : g = 0
  · subst hz
    rw [itoaS_zero]
    rfl
  · exact parse_itoa g (by omega) h1
set_option maxHeartbeats 4000000 in
set_option maxRecDepth 100000 in
theorem number_decZ (g : Int) (w : World) (h0 : 0 ≤ g) (h1 : g ≤ 1000000000) :
    Calls Tryd.prog 46 #[.string (itoaS g)] w fun e w' => e = .returned (.tuple #[.int .i64 g, .bool true]) ∧ w' = w := by
  have H := dec_factsZ g h0 h1
  generalize itoaS g = s at H ⊢
  obtain ⟨hp, hl, hf, hd, hv⟩ := H
  have hsz := size_length s
  have HV : Hid (valD 0 s.data.toList = g.toNat) := hv
  have HD : Hid (∀ k (h : k < s.size), 48 ≤ s[k].toNat ∧ s[k].toNat ≤ 57) := hd
  have hne := toList_ne hp
  have hd0 := hd 0 hp
  have hq : ((s[0].toNat : Int) == 45) = false := by simp only [beq_eq_false_iff_ne]; omega
  have HF : Hid (s[0].toNat = 48 → s.size = 1) := hf
  clear hv hd hf hd0
  have c1 : ¬ ((s.size : Int) - 0 < 1) := by omega
  have c2 : ¬ (10 < (s.size : Int) - 0) := by omega
  go_enter Tryd.func46, Tryd.ntmps46
  go_wp2
  clear c1 c2 hq
  go_loop [6, 7] (fun nn kk => ∃ (k m : Nat), k ≤ s.size ∧ kk = .int .i64 k ∧ nn = .int .i64 m ∧ Hid (m = valD 0 (s.data.toList.take k))) (fun _ kk => s.size - (intOf kk).toNat)
  case atStart => exact ⟨0, 0, Nat.zero_le _, rfl, rfl, rfl⟩
  case round =>
    obtain ⟨k, m, hk2, rfl, rfl, HM⟩ := hrel
    by_cases hlt : k < s.size
    · obtain ⟨d1, d2⟩ := HD.out k hlt
      have hm : m ≤ 1000000000 := by
        have := valD_le s.data.toList k
        rw [HV.out] at this
        rw [HM.out]
        omega
      have HN : Hid (m * 10 + (s[k].toNat - 48) = valD 0 (s.data.toList.take (k + 1))) := by unfold Hid; rw [valD_step hlt, ← HM.out]
      go_wp2
      go_round
      case rel => exact ⟨k + 1, _, by omega, by go_num, by go_num, HN⟩
      case measure => simp [intOf]; omega
    · have HG : Hid ((m : Int) = g) := by
        unfold Hid
        rw [HM.out, List.take_of_length_le (by omega), HV.out]
        omega
      by_cases hz : s[0].toNat = 48
      · have hs1 := HF.out hz
        have hz2 : ((s[0].toNat : Int) == 48) = true := by rw [hz]; rfl
        have hs2 : ¬ (1 < (s.size : Int)) := by omega
        clear hz hs1
        go_wp2
        go_ret2
        exact ⟨by rw [← HG.out]; rfl, rfl⟩
      · have hz2 : ((s[0].toNat : Int) == 48) = false := by simp only [beq_eq_false_iff_ne]; omega
        clear hz
        go_wp2
        go_ret2
        exact ⟨by rw [← HG.out]; rfl, rfl⟩
/-- The number of a word: that whose digits it is, if there is one. -/
def NumQ (s : ByteArray) (w : World) (e : Ending) (w' : World) : Prop := (∃ (n : Int) (b : Bool), e = .returned (.tuple #[.int .i64 n, .bool b]) ∧ ∀ g, 0 ≤ g → g ≤ 1000000000 → s = itoaS g → n = g ∧ b = true) ∧ w' = w
theorem numberQ_any (s : ByteArray) (w : World) (hs : s.size ≤ 1048576) :
    Calls Tryd.prog 46 #[.string s] w fun e w' => NumQ s w e w' := by
  by_cases h : ∃ g, 0 ≤ g ∧ g ≤ 1000000000 ∧ s = itoaS g
  · obtain ⟨g, h0, h1, rfl⟩ := h
    refine (number_decZ g w h0 h1).mono ?_
    rintro e w1 ⟨rfl, rfl⟩
    exact ⟨⟨g, true, rfl, fun g' h0' h1' e => ⟨itoaS_inj h0 h0' e, rfl⟩⟩, rfl⟩
  · refine (numberS_any s w hs).mono ?_
    rintro e w1 ⟨⟨n, b, rfl⟩, rfl⟩
    exact ⟨⟨n, b, rfl, fun g h0 h1 e => absurd ⟨g, h0, h1, e⟩ h⟩, rfl⟩
theorem split_app (k : Nat) (a r : List UInt8) (h : 32 ∉ a) : Lib.splitK [32] 0 (k + 1) (a ++ 32 :: r) = a :: Lib.splitK [32] 0 k r := by
  have e : Lib.index (a ++ 32 :: r) [32] = (a.length : Int) := by rw [Lib.index_one, indexByte_app a r h]
  have hm : ¬ ((a.length : Int) == -1) = true := fun e => by have := beq_iff_eq.1 e; omega
  rw [Lib.splitK, e, if_neg hm]
  simp only [Int.toNat_natCast, Nat.add_zero, List.length_cons, List.length_nil, Nat.zero_add]
  have e1 : List.take a.length (a ++ 32 :: r) = a := by simp
  have e2 : List.drop (a.length + 1) (a ++ 32 :: r) = r := by rw [← List.drop_drop]; simp
  rw [e1, e2]
theorem indexByte_no : ∀ (a : List UInt8), 32 ∉ a → Lib.indexByte a 32 = -1
  | [], _ => rfl
  | c :: a, h => by
    have h1 : c ≠ 32 := fun e => h (e ▸ List.mem_cons_self ..)
    have h2 : (32 : UInt8) ∉ a := fun e => h (List.mem_cons_of_mem _ e)
    unfold Lib.indexByte
    rw [if_neg (by simpa using h1), indexByte_no a h2, if_pos (by simp)]
theorem split_one (k : Nat) (a : List UInt8) (h : 32 ∉ a) : Lib.splitK [32] 0 k a = [a] := by
  cases k with
  | zero => rfl
  | succ k => rw [Lib.splitK, Lib.index_one, indexByte_no a h, if_pos (by decide)]
theorem map_data_inj : ∀ {a b : List ByteArray}, a.map (·.data.toList) = b.map (·.data.toList) → a = b
  | [], [], _ => rfl
  | [], _ :: _, h => by simp at h
  | _ :: _, [], h => by simp at h
  | x :: a, y :: b, h => by
    rw [List.map_cons, List.map_cons] at h
    injection h with h1 h2
    rw [ba_eqM h1, map_data_inj h2]
/-- The four words of a move. -/
def mwL (m : Mov) : List ByteArray := [itoaS m.fr, itoaS m.to', itoaS m.sum, itoaS m.cou]
theorem shwS_yes {m : Mov} (h : MovP m) : shwS m = ⟨(shwL m).toArray⟩ := by unfold shwS; rw [if_pos h]
theorem shw_data {m : Mov} (h : MovP m) : (shwS m).data.toList = (itoaS m.fr).data.toList ++ 32 :: ((itoaS m.to').data.toList ++ 32 :: ((itoaS m.sum).data.toList ++ 32 :: (itoaS m.cou).data.toList)) := by
  rw [shwS_yes h]; rfl
theorem shw_blank {m : Mov} (h : MovP m) : (32 : UInt8) ∉ (itoaS m.fr).data.toList ∧ (32 : UInt8) ∉ (itoaS m.to').data.toList ∧ (32 : UInt8) ∉ (itoaS m.sum).data.toList ∧ (32 : UInt8) ∉ (itoaS m.cou).data.toList := by
  obtain ⟨⟨a0, _⟩, ⟨b0, _⟩, ⟨c0, _⟩, ⟨d0, _⟩⟩ := h
  exact ⟨itoa_noBlank _ a0, itoa_noBlank _ b0, itoa_noBlank _ (by omega), itoa_noBlank _ d0⟩
theorem shw_size {m : Mov} (h : MovP m) : 4 ≤ (shwS m).size ∧ (shwS m).size ≤ 87 := by
  obtain ⟨⟨a0, a1⟩, ⟨b0, b1⟩, ⟨c0, c1⟩, ⟨d0, d1⟩⟩ := id h
  have h1 := (dec_factsZ m.fr a0 (by omega)).1
  have h2 := (dec_factsZ m.to' b0 (by omega)).1
  have h3 := shwL_len h
  have e1 := size_length (shwS m)
  have e2 := size_length (itoaS m.fr)
  have e3 := size_length (itoaS m.to')
  have e4 : (shwS m).data.toList = shwL m := by rw [shwS_yes h]
  rw [e4] at e1
  have e5 := congrArg List.length (shw_data h)
  rw [e4] at e5
  simp only [List.length_append, List.length_cons] at e5
  omega
theorem shw_words {m : Mov} (h : MovP m) : wordsL (shwS m).data.toList = (mwL m).map bytesOf := by
  obtain ⟨h1, h2, h3, h4⟩ := shw_blank h
  rw [shw_data h, words_app _ _ h1, words_app _ _ h2, words_app _ _ h3, words_one _ h4]
  rfl
theorem shw_split {m : Mov} (h : MovP m) : Lib.splitB ⟨#[32]⟩ 0 (min 5 ((shwS m).size + 1) - 1) (shwS m) = mwL m := by
  obtain ⟨h1, h2, h3, h4⟩ := shw_blank h
  have hk : min 5 ((shwS m).size + 1) - 1 = 4 := by have := (shw_size h).1; omega
  rw [hk]
  apply map_data_inj
  rw [Lib.splitB_data, shw_data h]
  show Lib.splitK [32] 0 4 _ = _
  rw [split_app 3 _ _ h1, split_app 2 _ _ h2, split_app 1 _ _ h3, split_one 1 _ h4]
  rfl
theorem split_sizes (sep : ByteArray) : ∀ (k : Nat) (s : ByteArray), ∀ y ∈ Lib.splitB sep 0 k s, y.size ≤ s.size
  | 0, s, y, hy => by
    rw [Lib.splitB_zero, List.mem_singleton] at hy
    subst hy
    exact Nat.le_refl _
  | k + 1, s, y, hy => by
    unfold Lib.splitB at hy
    split at hy
    · rw [List.mem_singleton] at hy
      subst hy
      exact Nat.le_refl _
    · rcases List.mem_cons.1 hy with rfl | hy
      · rw [ByteArray.size_extract]; omega
      · have := split_sizes sep k _ y hy
        rw [ByteArray.size_extract] at this
        omega
/-- What a text is read as: the move that is shown so, if there is one. -/
def RMR (s : ByteArray) (R : Mov) (o : Bool) : Prop := (o = true ∧ MovP R ∧ shwS R = s) ∨ (o = false ∧ R = ⟨0, 0, 0, 0⟩ ∧ ∀ m, MovP m → shwS m ≠ s)
theorem rmr_ex (s : ByteArray) : ∃ R o, RMR s R o := by
  by_cases h : ∃ m, MovP m ∧ shwS m = s
  · obtain ⟨m, h1, h2⟩ := h
    exact ⟨m, true, .inl ⟨rfl, h1, h2⟩⟩
  · exact ⟨⟨0, 0, 0, 0⟩, false, .inr ⟨rfl, rfl, fun m h1 h2 => h ⟨m, h1, h2⟩⟩⟩
theorem shw_inj {m n : Mov} (hm : MovP m) (hn : MovP n) (e : shwS m = shwS n) : m = n := by
  have h : mwL m = mwL n := by rw [← shw_split hm, ← shw_split hn, e]
  obtain ⟨⟨a0, _⟩, ⟨b0, _⟩, ⟨c0, _⟩, ⟨d0, _⟩⟩ := hm
  obtain ⟨⟨p0, _⟩, ⟨q0, _⟩, ⟨r0, _⟩, ⟨t0, _⟩⟩ := hn
  have c1 : 0 ≤ m.sum := by omega
  have r1 : 0 ≤ n.sum := by omega
  unfold mwL at h
  injection h with h1 h
  injection h with h2 h
  injection h with h3 h
  injection h with h4 h
  cases m; cases n
  simp only [Mov.mk.injEq]
  exact ⟨itoaS_inj a0 p0 h1, itoaS_inj b0 q0 h2, itoaS_inj c1 r1 h3, itoaS_inj d0 t0 h4⟩
/-- A move that is not right is shown as nothing; a text that is no move's is shown by none. -/
theorem shw_ne {s : ByteArray} (h : ∀ m, MovP m → shwS m ≠ s) (hs : 0 < s.size) (m : Mov) : ((shwS m).toList == s.toList) = false := by
  simp only [beq_eq_false_iff_ne]
  rw [toListB, toListB]
  intro e
  have e := ba_eqM e
  by_cases hk : MovP m
  · exact h m hk e
  · unfold shwS at e
    rw [if_neg hk] at e
    rw [← e] at hs
    exact absurd hs (by decide)
end Go.Proofs.YtdleolgkbkoekaaDoor
