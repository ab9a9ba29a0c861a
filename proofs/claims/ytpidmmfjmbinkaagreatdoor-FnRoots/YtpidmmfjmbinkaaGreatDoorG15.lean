/- What a slot is, and the contracts of both Slots. Plain facts on slots: digits, words, what is cut at the first blank. The contract of strings.Cut at one blank. -/
import Derived.Test.YtpidmmfjmbinkaaGreatDoorG14
import Derived.Lib.ParseIntB
import Derived.Lib.ParseIntBCases
import Derived.Lib.IndexLaws
import Derived.BigQuiet
namespace Go.Proofs.YtpidmmfjmbinkaaGreatDoor
open Go.RowKit
abbrev blankB : ByteArray := ⟨#[32]⟩
/-- The text that Slot writes. -/
def slotT (g : Int) (t : ByteArray) : ByteArray := itoaS g ++ blankB ++ itoaS (dig 1 t.data.toList : Int) ++ blankB ++ t
def slotOk (g : Int) (t : ByteArray) : Bool := decide (1 ≤ g) && decide (g ≤ 1000000) && decide (t.size ≤ 300)
def slotS (g : Int) (t : ByteArray) : ByteArray := if slotOk g t then slotT g t else ⟨#[]⟩
theorem slotOk_iff {g : Int} {t : ByteArray} : slotOk g t = true ↔ 1 ≤ g ∧ g ≤ 1000000 ∧ t.size ≤ 300 := by
  unfold slotOk
  simp only [Bool.and_eq_true, decide_eq_true_eq, and_assoc]
theorem slotS_yes {g : Int} {t : ByteArray} (h : 1 ≤ g ∧ g ≤ 1000000 ∧ t.size ≤ 300) : slotS g t = slotT g t := by unfold slotS; rw [if_pos (slotOk_iff.2 h)]
theorem slotS_no {g : Int} {t : ByteArray} (h : ¬ (1 ≤ g ∧ g ≤ 1000000 ∧ t.size ≤ 300)) : slotS g t = ⟨#[]⟩ := by unfold slotS; rw [if_neg (fun e => h (slotOk_iff.1 e))]
set_option maxHeartbeats 400000 in
theorem inS_any (x lo hi : Int) (w : World) : Calls Tryz.prog 43 #[.int .i64 x, .int .i64 lo, .int .i64 hi] w fun e w' => e = .returned (.bool (decide (lo ≤ x) && decide (x ≤ hi))) ∧ w' = w := by
  go_enter Tryz.func43, Tryz.ntmps43
  by_cases h : lo ≤ x
  · have h1 : decide (lo ≤ x) = true := by simp [h]
    go_wp2
    go_ret
    exact ⟨by rw [h1]; rfl, rfl⟩
  · have h1 : decide (lo ≤ x) = false := by simp [h]
    go_wp2
    go_ret
    exact ⟨rfl, rfl⟩
set_option maxHeartbeats 1000000 in
set_option maxRecDepth 100000 in
theorem specSlot_any (g : Int) (t : ByteArray) (w : World) (ht : t.size ≤ 1099511627776) :
    Calls Tryz.prog 18 #[.int .i64 g, .string t] w fun e w' => e = .returned (.string (slotS g t)) ∧ Below w.heap.size w w' := by
  by_cases h : 1 ≤ g ∧ g ≤ 1000000 ∧ t.size ≤ 300
  · obtain ⟨h0, h1, h2⟩ := h
    rw [slotS_yes ⟨h0, h1, h2⟩]
    have HT : Hid (slotT g t = itoaS g ++ blankB ++ itoaS (dig 1 t.data.toList : Int) ++ blankB ++ t) := rfl
    have HD : Hid (dig 1 t.data.toList < 2147483647) := dig_lt' 1 _ (by decide)
    have hsa := itoaS_size g (by omega) (by omega)
    have hin : (decide (1 ≤ g) && decide (g ≤ 1000000)) = true := by simp; omega
    go_enter Tryz.func18, Tryz.ntmps18
    go_wp2_with fail
    refine (inS_any g 1 1000000 _).mono ?_
    rw [hin]
    rintro e w0 ⟨rfl, hw0⟩
    obtain rfl := hw0.symm
    go_wp2_with fail
    refine (l2Int_any g _ (by omega) (by omega)).mono ?_
    rintro e w1 ⟨rfl, b1⟩
    go_wp2_with fail
    refine (specDigest_any t _ ht).mono ?_
    obtain ⟨D, hD⟩ : ∃ D, D = dig 1 t.data.toList := ⟨_, rfl⟩
    rw [← hD]
    have HE : Hid (D = dig 1 t.data.toList) := hD
    have hlt : D < 2147483647 := by rw [hD]; exact HD.out
    clear hD
    rintro e w2 ⟨rfl, hw2⟩
    obtain rfl := hw2.symm
    go_wp2_with fail
    refine (l2Int_any (D : Int) _ (by omega) (by omega)).mono ?_
    rintro e w3 ⟨rfl, b3⟩
    have hsb := itoaS_size (D : Int) (by omega) (by omega)
    have bb := b1.trans (b3.mono b1.size)
    clear b1 b3
    go_wp2
    go_ret
    exact ⟨by rw [HT.out, HE.out]; rfl, bb⟩
  · rw [slotS_no h]
    by_cases hin : 1 ≤ g ∧ g ≤ 1000000
    · have h1 : (decide (1 ≤ g) && decide (g ≤ 1000000)) = true := by simp; omega
      have h2 : 300 < t.size := by omega
      go_enter Tryz.func18, Tryz.ntmps18
      go_wp2_with fail
      refine (inS_any g 1 1000000 _).mono ?_
      rw [h1]
      rintro e w0 ⟨rfl, hw0⟩
      obtain rfl := hw0.symm
      go_wp2
      go_ret
      exact ⟨rfl, Below.refl _ _⟩
    · have h1 : (decide (1 ≤ g) && decide (g ≤ 1000000)) = false := by simp; omega
      go_enter Tryz.func18, Tryz.ntmps18
      go_wp2_with fail
      refine (inS_any g 1 1000000 _).mono ?_
      rw [h1]
      rintro e w0 ⟨rfl, hw0⟩
      obtain rfl := hw0.symm
      go_wp2
      go_ret
      exact ⟨rfl, Below.refl _ _⟩
set_option maxHeartbeats 1000000 in
set_option maxRecDepth 100000 in
theorem implSlot_any (g : Int) (t : ByteArray) (w : World) (ht : t.size ≤ 1099511627776) (hT : Tab w) :
    Calls Tryz.prog 12 #[.int .i64 g, .string t] w fun e w' => e = .returned (.string (slotS g t)) ∧ Below w.heap.size w w' := by
  by_cases h : 1 ≤ g ∧ g ≤ 1000000 ∧ t.size ≤ 300
  · obtain ⟨h0, h1, h2⟩ := h
    rw [slotS_yes ⟨h0, h1, h2⟩]
    have HT : Hid (slotT g t = itoaS g ++ blankB ++ itoaS (dig 1 t.data.toList : Int) ++ blankB ++ t) := rfl
    have HD : Hid (dig 1 t.data.toList < 2147483647) := dig_lt' 1 _ (by decide)
    have hsa := itoaS_size g (by omega) (by omega)
    have k0 : ¬ g < 1 := by omega
    have k1 : ¬ 1000000 < g := by omega
    go_enter Tryz.func12, Tryz.ntmps12
    go_wp2_with fail
    refine (fmt_any g _ (by omega) (by omega) hT).mono ?_
    rintro e w1 ⟨rfl, b1⟩
    have hT1 := hT.on b1
    go_wp2_with fail
    refine (implDigest_any t _ ht).mono ?_
    obtain ⟨D, hD⟩ : ∃ D, D = dig 1 t.data.toList := ⟨_, rfl⟩
    rw [← hD]
    have HE : Hid (D = dig 1 t.data.toList) := hD
    have hlt : D < 2147483647 := by rw [hD]; exact HD.out
    clear hD
    rintro e w2 ⟨rfl, b2⟩
    have hT2 := hT1.on b2
    go_wp2_with fail
    refine (fmt_any (D : Int) _ (by omega) (by omega) hT2).mono ?_
    rintro e w3 ⟨rfl, b3⟩
    have hsb := itoaS_size (D : Int) (by omega) (by omega)
    have b12 := b1.trans (b2.mono b1.size)
    have bb := b12.trans (b3.mono b12.size)
    clear b1 b2 b3 b12 hT hT1 hT2
    go_wp2
    go_ret
    exact ⟨by rw [HT.out, HE.out]; rfl, bb⟩
  · rw [slotS_no h]
    clear hT
    by_cases h0 : g < 1
    · go_enter Tryz.func12, Tryz.ntmps12
      go_wp2
      go_ret
      exact ⟨rfl, Below.refl _ _⟩
    · by_cases h1 : 1000000 < g
      · go_enter Tryz.func12, Tryz.ntmps12
        go_wp2
        go_ret
        exact ⟨rfl, Below.refl _ _⟩
      · have h2 : 300 < t.size := by omega
        go_enter Tryz.func12, Tryz.ntmps12
        go_wp2
        go_ret
        exact ⟨rfl, Below.refl _ _⟩
end Go.Proofs.YtpidmmfjmbinkaaGreatDoor
namespace Go.Proofs.YtpidmmfjmbinkaaGreatDoor
open Go.RowKit
def isDig (b : UInt8) : Prop := 48 ≤ b.toNat ∧ b.toNat ≤ 57
theorem dig_byte (k : Nat) (h : k < 10) : (UInt8.ofNat (48 + k)).toNat = 48 + k := by rw [UInt8.toNat_ofNat']; omega
theorem dec_digs : ∀ (n u : Nat), u ≤ n → ∀ b ∈ Lib.decDigits u, isDig b
  | 0, u, hu, b, hb => by
    have : u = 0 := by omega
    subst this
    rw [dec_left] at hb
    have e : left (0 / 10) = [] := rfl
    rw [e, List.nil_append, List.mem_singleton] at hb
    subst hb
    unfold isDig
    rw [dig_byte _ (by omega)]; omega
  | n + 1, u, hu, b, hb => by
    rw [dec_left] at hb
    rcases List.mem_append.1 hb with h | h
    · unfold left at h
      split at h
      · cases h
      · exact dec_digs n (u / 10) (by omega) b h
    · rw [List.mem_singleton] at h
      subst h
      unfold isDig
      rw [dig_byte _ (Nat.mod_lt _ (by omega))]; omega
/-- The number that digits spell behind acc. -/
def valD (acc : Nat) (l : List UInt8) : Nat := l.foldl (fun a b => a * 10 + (b.toNat - 48)) acc
theorem valD_append (a : Nat) (x y : List UInt8) : valD a (x ++ y) = valD (valD a x) y := List.foldl_append
theorem valD_ge : ∀ (l : List UInt8) (a : Nat), a ≤ valD a l
  | [], a => Nat.le_refl _
  | b :: l, a => Nat.le_trans (by omega : a ≤ a * 10 + (b.toNat - 48)) (valD_ge l _)
theorem dec_val : ∀ (n u : Nat), u ≤ n → valD 0 (Lib.decDigits u) = u
  | 0, u, hu => by
    have : u = 0 := by omega
    subst this
    rw [dec_left]
    rfl
  | n + 1, u, hu => by
    rw [dec_left, valD_append]
    have e : valD 0 (left (u / 10)) = u / 10 := by
      unfold left
      split
      · rename_i h; rw [h]; rfl
      · exact dec_val n (u / 10) (by omega)
    rw [e]
    show u / 10 * 10 + ((UInt8.ofNat (48 + u % 10)).toNat - 48) = u
    rw [dig_byte _ (Nat.mod_lt _ (by omega))]
    omega
theorem dec_head : ∀ (n u : Nat), u ≤ n → 1 ≤ u → ∃ c r, Lib.decDigits u = c :: r ∧ 49 ≤ c.toNat ∧ c.toNat ≤ 57
  | 0, u, hu, h1 => by omega
  | n + 1, u, hu, h1 => by
    rw [dec_left]
    by_cases h : u / 10 = 0
    · have e : left (u / 10) = [] := by unfold left; rw [if_pos h]
      rw [e]
      refine ⟨_, [], rfl, ?_, ?_⟩ <;> rw [dig_byte _ (Nat.mod_lt _ (by omega))] <;> omega
    · have e : left (u / 10) = Lib.decDigits (u / 10) := by unfold left; rw [if_neg h]
      obtain ⟨c, r, e2, h3, h4⟩ := dec_head n (u / 10) (by omega) (by omega)
      rw [e, e2]
      exact ⟨c, r ++ [UInt8.ofNat (48 + u % 10)], rfl, h3, h4⟩
theorem uint_ok (M : Nat) : ∀ (l : List UInt8) (acc : Nat), (∀ b ∈ l, isDig b) → valD acc l ≤ M → valD acc l ≤ 1000000000 → Lib.parseUintM M acc l = .ok (valD acc l)
  | [], acc, _, _, _ => rfl
  | c :: r, acc, hd, hM, hB => by
    have hc := hd c (List.mem_cons_self ..)
    have e : valD acc (c :: r) = valD (acc * 10 + (c.toNat - 48)) r := rfl
    rw [e] at hM hB ⊢
    have hge := valD_ge r (acc * 10 + (c.toNat - 48))
    unfold Lib.parseUintM
    rw [if_pos (show 48 ≤ c.toNat ∧ c.toNat ≤ 57 from hc), if_neg (by omega), if_neg (by omega)]
    exact uint_ok M r _ (fun b hb => hd b (List.mem_cons_of_mem _ hb)) hM hB
theorem itoa_pos (g : Int) (h : 1 ≤ g) : Lib.itoa g = Lib.decDigits g.toNat := by unfold Lib.itoa; rw [if_neg (by omega)]
theorem parse_itoa (g : Int) (h0 : 1 ≤ g) (h1 : g ≤ 1000000000) : Lib.parseIntB 64 (itoaS g).data.toList = .ok g := by
  show Lib.parseIntB 64 (Lib.itoa g) = _
  rw [itoa_pos g h0]
  obtain ⟨c, r, e, h3, h4⟩ := dec_head g.toNat g.toNat (Nat.le_refl _) (by omega)
  have hv := dec_val g.toNat g.toNat (Nat.le_refl _)
  have hd := dec_digs g.toNat g.toNat (Nat.le_refl _)
  rw [e] at hv hd ⊢
  rw [Lib.parseIntB_plain 64 c r (by omega) (by omega)]
  have e2 : Lib.parseUintB 64 (c :: r) = .ok g.toNat := by
    unfold Lib.parseUintB
    rw [if_neg (by simp), uint_ok _ _ _ hd (by rw [hv]; omega) (by rw [hv]; omega), hv]
  rw [e2]
  show (if 2 ^ (64 - 1) ≤ g.toNat then _ else _) = _
  rw [if_neg (by omega)]
  congr 1
  omega
theorem itoa_noBlank (g : Int) (h : 0 ≤ g) : (32 : UInt8) ∉ (itoaS g).data.toList := by
  show (32 : UInt8) ∉ Lib.itoa g
  unfold Lib.itoa
  rw [if_neg (by omega)]
  intro hm
  have := dec_digs _ _ (Nat.le_refl _) _ hm
  unfold isDig at this
  simp at this
/-- The words of a line. -/
def wordsL : List UInt8 → List (List UInt8)
  | [] => [[]]
  | c :: r => if c = 32 then [] :: wordsL r else match wordsL r with | h :: t => (c :: h) :: t | [] => [[c]]
theorem words_ne (l : List UInt8) : wordsL l ≠ [] := by
  cases l with
  | nil => simp [wordsL]
  | cons c r =>
    unfold wordsL
    split
    · simp
    · split <;> simp
theorem words_app : ∀ (a r : List UInt8), 32 ∉ a → wordsL (a ++ 32 :: r) = a :: wordsL r
  | [], r, _ => by show wordsL (32 :: r) = _; rw [wordsL, if_pos rfl]
  | c :: a, r, h => by
    have h1 : c ≠ 32 := fun e => h (e ▸ List.mem_cons_self ..)
    have h2 : (32 : UInt8) ∉ a := fun e => h (List.mem_cons_of_mem _ e)
    show wordsL (c :: (a ++ 32 :: r)) = _
    rw [wordsL, if_neg h1, words_app a r h2]
theorem words_one : ∀ (a : List UInt8), 32 ∉ a → wordsL a = [a]
  | [], _ => rfl
  | c :: a, h => by
    have h1 : c ≠ 32 := fun e => h (e ▸ List.mem_cons_self ..)
    have h2 : (32 : UInt8) ∉ a := fun e => h (List.mem_cons_of_mem _ e)
    rw [wordsL, if_neg h1, words_one a h2]
theorem words_two : ∀ (l a : List UInt8) (b : List UInt8) (t : List (List UInt8)), wordsL l = a :: b :: t → ∃ r, l = a ++ 32 :: r ∧ wordsL r = b :: t
  | [], a, b, t, h => by simp [wordsL] at h
  | c :: r, a, b, t, h => by
    rw [wordsL] at h
    split at h
    · rename_i e
      injection h with h1 h2
      exact ⟨r, by rw [← h1, e]; rfl, h2⟩
    · split at h
      · rename_i x y e
        injection h with h1 h2
        rw [h2] at e
        obtain ⟨q, e1, e2⟩ := words_two r x b t e
        exact ⟨q, by rw [← h1, e1]; rfl, e2⟩
      · injection h with h1 h2
        cases h2
theorem words_len {l a b : List UInt8} {c : List UInt8} {t : List (List UInt8)} (h : wordsL l = a :: b :: c :: t) : a.length + b.length + 2 ≤ l.length := by
  obtain ⟨r, e1, e2⟩ := words_two l a b (c :: t) h
  obtain ⟨q, e3, _⟩ := words_two r b c t e2
  rw [e1, e3]
  simp only [List.length_append, List.length_cons]
  omega
theorem indexByte_app : ∀ (a r : List UInt8), 32 ∉ a → Lib.indexByte (a ++ 32 :: r) 32 = (a.length : Int)
  | [], r, _ => by show Lib.indexByte (32 :: r) 32 = _; unfold Lib.indexByte; rw [if_pos (by decide)]; rfl
  | c :: a, r, h => by
    have h1 : c ≠ 32 := fun e => h (e ▸ List.mem_cons_self ..)
    have h2 : (32 : UInt8) ∉ a := fun e => h (List.mem_cons_of_mem _ e)
    show Lib.indexByte (c :: (a ++ 32 :: r)) 32 = _
    unfold Lib.indexByte
    rw [if_neg (by simpa using h1), indexByte_app a r h2, if_neg (by simp), List.length_cons]
    omega
theorem slotT_list (g : Int) (t : ByteArray) : (slotT g t).data.toList = (itoaS g).data.toList ++ 32 :: ((itoaS (dig 1 t.data.toList : Int)).data.toList ++ 32 :: t.data.toList) := by
  unfold slotT
  rw [app_toList, app_toList, app_toList, app_toList]
  simp
end Go.Proofs.YtpidmmfjmbinkaaGreatDoor
namespace Go.Proofs.YtpidmmfjmbinkaaGreatDoor
open Go.RowKit
/-- What is cut at the first blank. -/
def CutP (s : ByteArray) (e : Ending) : Prop := ∃ (a r : ByteArray) (b : Bool), e = .returned (.tuple #[.string a, .string r, .bool b]) ∧ a.size ≤ s.size ∧ r.size ≤ s.size ∧ ∀ x y : List UInt8, s.data.toList = x ++ 32 :: y → 32 ∉ x → a = ⟨x.toArray⟩ ∧ r = ⟨y.toArray⟩
theorem cut_hit {s : ByteArray} {i : Nat} (h : Lib.indexByte s.data.toList 32 = (i : Int)) (x y : List UInt8) (e : s.data.toList = x ++ 32 :: y) (hx : 32 ∉ x) : s.extract 0 i = ⟨x.toArray⟩ ∧ s.extract (i + 1) s.size = ⟨y.toArray⟩ := by
  have hi : i = x.length := by
    rw [e, indexByte_app x y hx] at h
    omega
  subst hi
  rw [Lib.extract_eq, Lib.extract_eq, e]
  have hs : s.size = x.length + 1 + y.length := by rw [← size_length, e]; simp; omega
  refine ⟨?_, ?_⟩
  · congr 2; simp
  · congr 2
    rw [hs]
    have : List.drop (x.length + 1) (x ++ 32 :: y) = y := by rw [← List.drop_drop]; simp
    rw [this, List.take_of_length_le (by omega)]
set_option maxHeartbeats 2000000 in
set_option maxRecDepth 100000 in
theorem cutLite_any (s : ByteArray) (w : World) (hs : s.size ≤ 1099511627776) :
    Calls Tryz.prog 82 #[.string s, .string ⟨#[32]⟩] w fun e w' => CutP s e ∧ ∃ n, w' = w.drewN n := by
  by_cases hix : Lib.indexByte s.data.toList 32 = -1
  · have HF : Hid (CutP s (.returned (.tuple #[.string s, .string ⟨#[]⟩, .bool false]))) := by
      refine ⟨s, ⟨#[]⟩, false, rfl, Nat.le_refl _, Nat.zero_le _, fun x y e hx => ?_⟩
      rw [e, indexByte_app x y hx] at hix
      omega
    go_enter Tryz.func82, Tryz.ntmps82
    go_wp2_with fail
    refine (Tryz.stringslite_Index_one s 32 _).mono ?_
    rw [hix]
    rintro e w1 ⟨rfl, hw⟩
    obtain rfl := hw.symm
    clear hix
    go_wp2
    go_ret3
    exact ⟨HF.out, 0, rfl⟩
  · have hge := Lib.indexByte_ge s.data.toList 32
    obtain ⟨i, hi⟩ : ∃ i : Nat, Lib.indexByte s.data.toList 32 = (i : Int) := ⟨(Lib.indexByte s.data.toList 32).toNat, by omega⟩
    have hlt : i < s.size := by
      have := (Lib.indexByte_some hi).1
      rw [← size_length]
      exact (List.getElem?_eq_some_iff.1 this).1
    have HF : Hid (CutP s (.returned (.tuple #[.string (s.extract 0 i), .string (s.extract (i + 1) s.size), .bool true]))) := by
      refine ⟨_, _, true, rfl, ?_, ?_, fun x y e hx => cut_hit hi x y e hx⟩
      · rw [ByteArray.size_extract]; omega
      · rw [ByteArray.size_extract]; omega
    clear hix hge
    have c1 : (0 : Int) ≤ ↑i := by omega
    have c2 : (↑i : Int) ≤ ↑s.size := by omega
    have c3 : (0 : Int) ≤ ↑i + 1 := by omega
    have c4 : (↑i + 1 : Int) ≤ ↑s.size := by omega
    go_enter Tryz.func82, Tryz.ntmps82
    go_wp2_with fail
    refine (Tryz.stringslite_Index_one s 32 _).mono ?_
    rw [hi]
    rintro e w1 ⟨rfl, hw⟩
    obtain rfl := hw.symm
    clear hi
    go_wp2
    go_quiet (fail)
    go_wp2
    go_ret3
    exact ⟨HF.out, _, rfl⟩
set_option maxHeartbeats 2000000 in
set_option maxRecDepth 100000 in
theorem cut_any (s : ByteArray) (w : World) (hs : s.size ≤ 1099511627776) :
    Calls Tryz.prog 63 #[.string s, .string ⟨#[32]⟩] w fun e w' => CutP s e ∧ ∃ n, w' = w.drewN n := by
  go_enter Tryz.func63, Tryz.ntmps63
  go_wp2_with fail
  refine (cutLite_any s _ hs).mono ?_
  rintro e w1 ⟨⟨a, r, b, rfl, h1, h2, h3⟩, n, rfl⟩
  have HF : Hid (CutP s (.returned (.tuple #[.string a, .string r, .bool b]))) := ⟨a, r, b, rfl, h1, h2, h3⟩
  clear h1 h2 h3
  go_wp2
  go_ret3
  exact ⟨HF.out, n, rfl⟩
end Go.Proofs.YtpidmmfjmbinkaaGreatDoor
