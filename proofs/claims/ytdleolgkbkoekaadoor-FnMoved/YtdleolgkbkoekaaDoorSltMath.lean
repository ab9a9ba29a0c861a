/- Plain facts on slots: digits, words, what is cut at the first blank. -/
import Derived.Test.YtdleolgkbkoekaaDoorSlt
import Derived.Lib.ParseIntB
import Derived.Lib.ParseIntBCases
import Derived.Lib.IndexLaws
namespace Go.Proofs.YtdleolgkbkoekaaDoor
open Go.RowKit
def isDig (b : UInt8) : Prop := 48 ≤ b.toNat ∧ b.toNat ≤ 57
theorem dig_byte (k : Nat) (h : k < 10) : (UInt8.ofNat (48 + k)).toNat = 48 + k := by rw [UInt8.toNat_ofNat']; omega
theorem dec_digs : ∀ (n u : Nat), u ≤ n → ∀ b ∈ Lib.decDigits u, isDig b
  | 0, u, hu, b, hb => by
    have : u = 0 := by omega
    subst this
    rw [dec_left] at hb
    have e : left (0 / 10) = [] := rfl
    rw [e, List.nil_append, List.mem_singleton] at hb
    subst hb
    unfold isDig
    rw [dig_byte _ (by omega)]; omega
  | n + 1, u, hu, b, hb => by
    rw [dec_left] at hb
    rcases List.mem_append.1 hb with h | h
    · unfold left at h
      split at h
      · cases h
      · exact dec_digs n (u / 10) (by omega) b h
    · rw [List.mem_singleton] at h
      subst h
      unfold isDig
      rw [dig_byte _ (Nat.mod_lt _ (by omega))]; omega
/-- The number that digits spell behind acc. -/
def valD (acc : Nat) (l : List UInt8) : Nat := l.foldl (fun a b => a * 10 + (b.toNat - 48)) acc
theorem valD_append (a : Nat) (x y : List UInt8) : valD a (x ++ y) = valD (valD a x) y := List.foldl_append
theorem valD_ge : ∀ (l : List UInt8) (a : Nat), a ≤ valD a l
  | [], a => Nat.le_refl _
  | b :: l, a => Nat.le_trans (by omega : a ≤ a * 10 + (b.toNat - 48)) (valD_ge l _)
theorem dec_val : ∀ (n u : Nat), u ≤ n → valD 0 (Lib.decDigits u) = u
  | 0, u, hu => by
    have : u = 0 := by omega
    subst this
    rw [dec_left]
    rfl
  | n + 1, u, hu => by
    rw [dec_left, valD_append]
    have e : valD 0 (left (u / 10)) = u / 10 := by
      unfold left
      split
      · rename_i h; rw [h]; rfl
      · exact dec_val n (u / 10) (by omega)
    rw [e]
    show u / 10 * 10 + ((UInt8.ofNat (48 + u % 10)).toNat - 48) = u
    rw [dig_byte _ (Nat.mod_lt _ (by omega))]
    omega
theorem dec_head : ∀ (n u : Nat), u ≤ n → 1 ≤ u → ∃ c r, Lib.decDigits u = c :: r ∧ 49 ≤ c.toNat ∧ c.toNat ≤ 57
  | 0, u, hu, h1 => by omega
  | n + 1, u, hu, h1 => by
    rw [dec_left]
    by_cases h : u / 10 = 0
    · have e : left (u / 10) = [] := by unfold left; rw [if_pos h]
      rw [e]
      refine ⟨_, [], rfl, ?_, ?_⟩ <;> rw [dig_byte _ (Nat.mod_lt _ (by omega))] <;> omega
    · have e : left (u / 10) = Lib.decDigits (u / 10) := by unfold left; rw [if_neg h]
      obtain ⟨c, r, e2, h3, h4⟩ := dec_head n (u / 10) (by omega) (by omega)
      rw [e, e2]
      exact ⟨c, r ++ [UInt8.ofNat (48 + u % 10)], rfl, h3, h4⟩
theorem uint_ok (M : Nat) : ∀ (l : List UInt8) (acc : Nat), (∀ b ∈ l, isDig b) → valD acc l ≤ M → valD acc l ≤ 1000000000 → Lib.parseUintM M acc l = .ok (valD acc l)
  | [], acc, _, _, _ => rfl
  | c :: r, acc, hd, hM, hB => by
    have hc := hd c (List.mem_cons_self ..)
    have e : valD acc (c :: r) = valD (acc * 10 + (c.toNat - 48)) r := rfl
    rw [e] at hM hB ⊢
    have hge := valD_ge r (acc * 10 + (c.toNat - 48))
    unfold Lib.parseUintM
    rw [if_pos (show 48 ≤ c.toNat ∧ c.toNat ≤ 57 from hc), if_neg (by omega), if_neg (by omega)]
    exact uint_ok M r _ (fun b hb => hd b (List.mem_cons_of_mem _ hb)) hM hB
theorem itoa_pos (g : Int) (h : 1 ≤ g) : Lib.itoa g = Lib.decDigits g.toNat := by unfold Lib.itoa; rw [if_neg (by omega)]
theorem parse_itoa (g : Int) (h0 : 1 ≤ g) (h1 : g ≤ 1000000000) : Lib.parseIntB 64 (itoaS g).data.toList = .ok g := by
  show Lib.parseIntB 64 (Lib.itoa g) = _
  rw [itoa_pos g h0]
  obtain ⟨c, r, e, h3, h4⟩ := dec_head g.toNat g.toNat (Nat.le_refl _) (by omega)
  have hv := dec_val g.toNat g.toNat (Nat.le_refl _)
  have hd := dec_digs g.toNat g.toNat (Nat.le_refl _)
  rw [e] at hv hd ⊢
  rw [Lib.parseIntB_plain 64 c r (by omega) (by omega)]
  have e2 : Lib.parseUintB 64 (c :: r) = .ok g.toNat := by
    unfold Lib.parseUintB
    rw [if_neg (by simp), uint_ok _ _ _ hd (by rw [hv]; omega) (by rw [hv]; omega), hv]
  rw [e2]
  show (if 2 ^ (64 - 1) ≤ g.toNat then _ else _) = _
  rw [if_neg (by omega)]
  congr 1
  omega
theorem itoa_noBlank (g : Int) (h : 0 ≤ g) : (32 : UInt8) ∉ (itoaS g).data.toList := by
  show (32 : UInt8) ∉ Lib.itoa g
  unfold Lib.itoa
  rw [if_neg (by omega)]
  intro hm
  have := dec_digs _ _ (Nat.le_refl _) _ hm
  unfold isDig at this
  simp at this
/-- The words of a line. -/
def wordsL : List UInt8 → List (List UInt8)
  | [] => [[]]
  | c :: r => if c = 32 then [] :: wordsL r else match wordsL r with | h :: t => (c :: h) :: t | [] => [[c]]
theorem words_ne (l : List UInt8) : wordsL l ≠ [] := by
  cases l with
  | nil => simp [wordsL]
  | cons c r =>
    unfold wordsL
    split
    · simp
    · split <;> simp
theorem words_app : ∀ (a r : List UInt8), 32 ∉ a → wordsL (a ++ 32 :: r) = a :: wordsL r
  | [], r, _ => by show wordsL (32 :: r) = _; rw [wordsL, if_pos rfl]
  | c :: a, r, h => by
    have h1 : c ≠ 32 := fun e => h (e ▸ List.mem_cons_self ..)
    have h2 : (32 : UInt8) ∉ a := fun e => h (List.mem_cons_of_mem _ e)
    show wordsL (c :: (a ++ 32 :: r)) = _
    rw [wordsL, if_neg h1, words_app a r h2]
theorem words_one : ∀ (a : List UInt8), 32 ∉ a → wordsL a = [a]
  | [], _ => rfl
  | c :: a, h => by
    have h1 : c ≠ 32 := fun e => h (e ▸ List.mem_cons_self ..)
    have h2 : (32 : UInt8) ∉ a := fun e => h (List.mem_cons_of_mem _ e)
    rw [wordsL, if_neg h1, words_one a h2]
theorem words_two : ∀ (l a : List UInt8) (b : List UInt8) (t : List (List UInt8)), wordsL l = a :: b :: t → ∃ r, l = a ++ 32 :: r ∧ wordsL r = b :: t
  | [], a, b, t, h => by simp [wordsL] at h
  | c :: r, a, b, t, h => by
    rw [wordsL] at h
    split at h
    · rename_i e
      injection h with h1 h2
      exact ⟨r, by rw [← h1, e]; rfl, h2⟩
    · split at h
      · rename_i x y e
        injection h with h1 h2
        rw [h2] at e
        obtain ⟨q, e1, e2⟩ := words_two r x b t e
        exact ⟨q, by rw [← h1, e1]; rfl, e2⟩
      · injection h with h1 h2
        cases h2
theorem words_len {l a b : List UInt8} {c : List UInt8} {t : List (List UInt8)} (h : wordsL l = a :: b :: c :: t) : a.length + b.length + 2 ≤ l.length := by
  obtain ⟨r, e1, e2⟩ := words_two l a b (c :: t) h
  obtain ⟨q, e3, _⟩ := words_two r b c t e2
  rw [e1, e3]
  simp only [List.length_append, List.length_cons]
  omega
theorem indexByte_app : ∀ (a r : List UInt8), 32 ∉ a → Lib.indexByte (a ++ 32 :: r) 32 = (a.length : Int)
  | [], r, _ => by show Lib.indexByte (32 :: r) 32 = _; unfold Lib.indexByte; rw [if_pos (by decide)]; rfl
  | c :: a, r, h => by
    have h1 : c ≠ 32 := fun e => h (e ▸ List.mem_cons_self ..)
    have h2 : (32 : UInt8) ∉ a := fun e => h (List.mem_cons_of_mem _ e)
    show Lib.indexByte (c :: (a ++ 32 :: r)) 32 = _
    unfold Lib.indexByte
    rw [if_neg (by simpa using h1), indexByte_app a r h2, if_neg (by simp), List.length_cons]
    omega
theorem slotT_list (g : Int) (t : ByteArray) : (slotT g t).data.toList = (itoaS g).data.toList ++ 32 :: ((itoaS (dig 1 t.data.toList : Int)).data.toList ++ 32 :: t.data.toList) := by
  unfold slotT
  rw [app_toList, app_toList, app_toList, app_toList]
  simp
end Go.Proofs.YtdleolgkbkoekaaDoor
