/- The contracts of the two Tags and Signeds. -/
import Derived.Test.YtckidhcknibceaaDoorTag
namespace Go.Proofs.YtckidhcknibceaaDoor
open Go.RowKit
abbrev secretB : ByteArray := ⟨#[115, 101, 99, 114, 101, 116]⟩
/-- The digest of the tag's text. -/
def tagD (server : Int) (text : ByteArray) : Nat := digAll 1 [secretB, itoaS server, ⟨#[47]⟩, text]
theorem tagD_eq (s : Int) (t : ByteArray) : tagD s t = dig (dig (dig (dig 1 secretB.data.toList) (itoaS s).data.toList) (⟨#[47]⟩ : ByteArray).data.toList) t.data.toList := by
  unfold tagD digAll
  simp only [List.foldl_cons, List.foldl_nil]
/-- The tag: -1 of a server out of range. -/
def tag (server : Int) (text : ByteArray) : Int := if 0 ≤ server ∧ server ≤ 6 then (tagD server text : Int) else -1
theorem tag_in {s : Int} (t : ByteArray) (h0 : 0 ≤ s) (h1 : s ≤ 6) : tag s t = (tagD s t : Int) := by unfold tag; rw [if_pos ⟨h0, h1⟩]
theorem tag_out {s : Int} (t : ByteArray) (h : s < 0 ∨ 6 < s) : tag s t = -1 := by unfold tag; rw [if_neg (by omega)]
set_option maxHeartbeats 400000 in
set_option maxRecDepth 100000 in
theorem l1InT_any (x lo hi : Int) (w : World) : Calls Tryd.prog 56 #[.int .i64 x, .int .i64 lo, .int .i64 hi] w fun e w' => e = .returned (.bool (decide (lo ≤ x ∧ x ≤ hi))) ∧ w' = w := by
  by_cases h : lo ≤ x
  · go_enter Tryd.func56, Tryd.ntmps56
    go_wp2
    go_ret
    exact ⟨by simp [h], rfl⟩
  · go_enter Tryd.func56, Tryd.ntmps56
    go_wp2
    go_ret
    have hf : (decide (lo ≤ x) && decide (x ≤ hi)) = false := by simp; omega
    exact ⟨by rw [hf]; rfl, rfl⟩
set_option maxHeartbeats 400000 in
set_option maxRecDepth 100000 in
theorem l2Tag_any (s : Int) (t : ByteArray) (w : World) (h0 : -9223372036854775808 ≤ s) (h1 : s ≤ 9223372036854775807) (ht : t.size ≤ 1048576) :
    Calls Tryd.prog 88 #[.int .i64 s, .string t] w fun e w' => e = .returned (.int .i64 (tagD s t : Int)) ∧ Below w.heap.size w w' := by
  have hsz := itoaS_size s h0 h1
  go_enter Tryd.func88, Tryd.ntmps88
  go_wp2_with fail
  refine (l2Int_any s _ h0 h1).mono ?_
  rintro e w1 ⟨rfl, hw1⟩
  have hz : ((⟨#[115, 101, 99, 114, 101, 116]⟩ : ByteArray) ++ itoaS s ++ ⟨#[47]⟩ ++ t).size ≤ 2000000 := by
    rw [app_size, app_size, app_size]
    have h1 : (⟨#[47]⟩ : ByteArray).size = 1 := rfl
    have h2 : (⟨#[115, 101, 99, 114, 101, 116]⟩ : ByteArray).size = 6 := rfl
    omega
  have HP : Hid (dig 1 ((⟨#[115, 101, 99, 114, 101, 116]⟩ : ByteArray) ++ itoaS s ++ ⟨#[47]⟩ ++ t).data.toList = tagD s t) := by
    show _ = _
    rw [app_toList, app_toList, app_toList, dig_append, dig_append, dig_append, tagD_eq]
  go_wp2_with fail
  refine (specDigest_any _ _ (by omega)).mono ?_
  rw [HP.out]
  rintro e w2 ⟨rfl, rfl⟩
  go_wp2
  go_ret
  exact ⟨rfl, hw1⟩
theorem four_rd (w : World) (a b c d : ByteArray) : RdS (w.alloc (.cells #[.string a, .string b, .string c, .string d] 9)) (.slice (some ⟨w.heap.size, 0, none⟩) 4 4) [a, b, c, d] := by
  refine ⟨_, _, rfl, by simp, by unfold maxLen; omega, .inr ⟨w.heap.size, 0, rfl, fun i hi => ?_⟩⟩
  match i, hi with
  | 0, _ => simp
  | 1, _ => simp
  | 2, _ => simp
  | 3, _ => simp
set_option maxHeartbeats 400000 in
set_option maxRecDepth 100000 in
theorem implTag_any (s : Int) (t : ByteArray) (w : World) (ht : t.size ≤ 1048576) :
    Calls Tryd.prog 46 #[.int .i64 s, .string t] w fun e w' => e = .returned (.int .i64 (tag s t)) ∧ Below w.heap.size w w' := by
  by_cases hs0 : s < 0
  · rw [tag_out t (.inl hs0)]
    go_enter Tryd.func46, Tryd.ntmps46
    go_wp2
    go_ret
    exact ⟨rfl, Below.refl _ _⟩
  by_cases hs1 : 6 < s
  · rw [tag_out t (.inr hs1)]
    go_enter Tryd.func46, Tryd.ntmps46
    go_wp2
    go_ret
    exact ⟨rfl, Below.refl _ _⟩
  rw [tag_in t (by omega) (by omega)]
  obtain ⟨n, rfl⟩ := Int.eq_ofNat_of_zero_le (show 0 ≤ s by omega)
  go_enter Tryd.func46, Tryd.ntmps46
  go_wp2_with fail
  refine (fmt_small n _ (by omega)).mono ?_
  rintro e w1 ⟨rfl, rfl⟩
  have hsz := itoaS_size (n : Int) (by omega) (by omega)
  have HS : Hid (∀ x ∈ [secretB, itoaS (n : Int), ⟨#[47]⟩, t], x.size ≤ 1099511627776) := by
    intro x hx
    simp only [List.mem_cons, List.not_mem_nil, or_false] at hx
    rcases hx with rfl | rfl | rfl | rfl
    · decide
    · omega
    · decide
    · omega
  have HB : Hid (Below w1.heap.size w1 (w1.alloc (.cells #[.string secretB, .string (itoaS n), .string ⟨#[47]⟩, .string t] 9))) := (Below.refl _ _).alloc (Nat.le_refl _) _
  go_wp2_with fail
  refine (withEachText_any 1 _ [secretB, itoaS (n : Int), ⟨#[47]⟩, t] _ (by omega) (four_rd w1 _ _ _ _) HS.out).mono ?_
  rintro e w2 ⟨rfl, hb2⟩
  have hb := HB.out.trans (hb2.mono HB.out.size)
  clear hb2
  go_wp2
  go_ret
  exact ⟨rfl, hb⟩
/-- Is the tag that Tag, and not -1? -/
def sgn (s : Int) (t : ByteArray) (x : Int) : Bool := decide (0 ≤ s ∧ s ≤ 6 ∧ x = (tagD s t : Int))
end Go.Proofs.YtckidhcknibceaaDoor
