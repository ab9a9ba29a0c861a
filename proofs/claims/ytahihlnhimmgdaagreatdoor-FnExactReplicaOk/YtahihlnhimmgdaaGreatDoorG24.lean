/- The contracts of both Names of a block. The contracts of the two Clashes: are the texts unlike, and have they one digest? The contracts of the two Pairs, Tags and Signeds. The contracts of the two Tags and Signeds. Boxes of votes. Numbers of servers and quorums: plain notions, and the contracts of both Quorums. -/
import Derived.Test.YtahihlnhimmgdaaGreatDoorG23
import Derived.BigQuiet
import Derived.Deep.RegionWith
import Derived.Test.YtahihlnhimmgdaaGreatDoorG00
import Derived.Test.YtahihlnhimmgdaaGreatDoorStrBase
import Derived.Test.YtahihlnhimmgdaaGreatDoorG03
import Derived.Test.YtahihlnhimmgdaaGreatDoorG05
-- UNF Gen
namespace Go.Proofs.YtahihlnhimmgdaaGreatDoor
open Go.RowKit
/-- A block's name: the digest of what shows it, 1 where that is 0. -/
def namN (b : Blk) : Int := max 1 (dig 1 (shwB b) : Int)
/-- -1 where it cannot be shown. -/
def namZ (b : Blk) : Int := if shwB b = [] then -1 else namN b
theorem namN_in (b : Blk) : 1 ≤ namN b ∧ namN b ≤ 2147483646 := by
  have h := dig_lt (shwB b) 1 (by omega)
  unfold namN
  omega
set_option maxHeartbeats 400000 in
set_option maxRecDepth 100000 in
theorem l1MaxN_any (a b : Int) (w : World) : Calls Tryz.prog 119 #[.int .i64 a, .int .i64 b] w fun e w' => e = .returned (.int .i64 (max a b)) ∧ w' = w := by
  by_cases h : b < a
  · go_enter Tryz.func119, Tryz.ntmps119
    go_wp2
    go_ret
    exact ⟨ret_intE (by omega), rfl⟩
  · have hd : decide (b < a) = false := by simpa using h
    have h2 : a ≤ b := by omega
    clear h
    go_enter Tryz.func119, Tryz.ntmps119
    go_wp2
    go_ret
    exact ⟨ret_intE (by omega), rfl⟩
theorem shw_size (b : Blk) : (⟨(shwB b).toArray⟩ : ByteArray).size ≤ 1099511627776 := by
  have := shwB_len b
  show (shwB b).toArray.size ≤ _
  rw [List.size_toArray]
  omega
theorem shw_list (b : Blk) : (⟨(shwB b).toArray⟩ : ByteArray).data.toList = shwB b := by simp
theorem shw_nil (b : Blk) : (⟨(shwB b).toArray⟩ : ByteArray).toList.isEmpty = decide (shwB b = []) := by
  rw [ByteArray.toList_eq]
  cases h : shwB b with
  | nil => rfl
  | cons a l => simp
set_option maxHeartbeats 2000000 in
set_option maxRecDepth 100000 in
theorem l15NameOf_any (X : BlX) (w : World) (hr : RdBl w X) (hz : ∀ s ∈ X.b.mo, s.size ≤ 1048576) :
    Calls Tryz.prog 62 #[.agg #[.int .i64 X.b.vw, .int .i64 X.b.pa, .int .i64 X.b.p.vw, .int .i64 X.b.p.nm, X.vs, X.vt, X.vm, .int .i64 X.b.sv]] w fun e w' => e = .returned (.int .i64 (namN X.b)) ∧ Below w.heap.size w w' := by
  have HSH : Hid (∀ W, Below w.heap.size w W → Calls Tryz.prog 140 #[.agg #[.int .i64 X.b.vw, .int .i64 X.b.pa, .int .i64 X.b.p.vw, .int .i64 X.b.p.nm, X.vs, X.vt, X.vm, .int .i64 X.b.sv]] W fun e w' => e = .returned (.string ⟨(shwB X.b).toArray⟩) ∧ Below W.heap.size W w') := fun W hb => specShow_any X W (hr.below hb) hz
  have t0 := bx_new w 34 #[.int .i64 X.b.vw, .int .i64 X.b.pa, .int .i64 X.b.p.vw, .int .i64 X.b.p.nm, X.vs, X.vt, X.vm, .int .i64 X.b.sv]
  have b0 := below1 w (.cells #[.int .i64 X.b.vw, .int .i64 X.b.pa, .int .i64 X.b.p.vw, .int .i64 X.b.p.nm, X.vs, X.vt, X.vm, .int .i64 X.b.sv] 34)
  obtain ⟨S, hS⟩ : ∃ S : ByteArray, S = ⟨(shwB X.b).toArray⟩ := ⟨_, rfl⟩
  have HSZ : Hid (S.size ≤ 1099511627776) := by unfold Hid; rw [hS]; exact shw_size X.b
  have HN : Hid (max 1 (dig 1 S.data.toList : Int) = namN X.b) := by unfold Hid; rw [hS, shw_list]; rfl
  rw [← hS] at HSH
  clear hS
  obtain ⟨d, hd⟩ : ∃ d : Nat, d = dig 1 S.data.toList := ⟨_, rfl⟩
  have HDG : Hid (∀ W, Calls Tryz.prog 139 #[.string S] W fun e w' => e = .returned (.int .i64 (d : Int)) ∧ w' = W) := fun W => by rw [hd]; exact specDigest_any S W HSZ.out
  have HN2 : Hid (max 1 (d : Int) = namN X.b) := by unfold Hid; rw [hd]; exact HN.out
  clear hd HN
  obtain ⟨q0, q1, q2, q3, q4, q5, q6, q7⟩ := t0.c8
  go_enter Tryz.func62, Tryz.ntmps62
  go_wp2_with fail
  refine (HSH.out _ b0).mono ?_
  rintro e w1 ⟨rfl, hb1⟩
  have b1 := b0.trans (hb1.mono b0.size)
  clear q0 q1 q2 q3 q4 q5 q6 q7 hb1 t0 b0
  go_wp2_with fail
  refine (HDG.out _).mono ?_
  rintro e w2 ⟨rfl, rfl⟩
  go_wp2_with fail
  refine (l1MaxN_any 1 (d : Int) _).mono ?_
  rintro e w3 ⟨rfl, rfl⟩
  rw [HN2.out]
  go_wp2
  go_ret
  exact ⟨rfl, b1⟩
set_option maxHeartbeats 2000000 in
set_option maxRecDepth 100000 in
theorem implName_any (X : BlX) (w : World) (hr : RdBl w X) (hz : ∀ s ∈ X.b.mo, s.size ≤ 1048576) :
    Calls Tryz.prog 167 #[.agg #[.int .i64 X.b.vw, .int .i64 X.b.pa, .int .i64 X.b.p.vw, .int .i64 X.b.p.nm, X.vs, X.vt, X.vm, .int .i64 X.b.sv]] w fun e w' => e = .returned (.int .i64 (namZ X.b)) ∧ Below w.heap.size w w' := by
  have HSH : Hid (∀ W, Below w.heap.size w W → Calls Tryz.prog 188 #[.agg #[.int .i64 X.b.vw, .int .i64 X.b.pa, .int .i64 X.b.p.vw, .int .i64 X.b.p.nm, X.vs, X.vt, X.vm, .int .i64 X.b.sv]] W fun e w' => e = .returned (.string ⟨(shwB X.b).toArray⟩) ∧ Below W.heap.size W w') := fun W hb => implShow_any X W (hr.below hb) hz
  have t0 := bx_new w 34 #[.int .i64 X.b.vw, .int .i64 X.b.pa, .int .i64 X.b.p.vw, .int .i64 X.b.p.nm, X.vs, X.vt, X.vm, .int .i64 X.b.sv]
  have b0 := below1 w (.cells #[.int .i64 X.b.vw, .int .i64 X.b.pa, .int .i64 X.b.p.vw, .int .i64 X.b.p.nm, X.vs, X.vt, X.vm, .int .i64 X.b.sv] 34)
  obtain ⟨S, hS⟩ : ∃ S : ByteArray, S = ⟨(shwB X.b).toArray⟩ := ⟨_, rfl⟩
  have HE : Hid (S.toList.isEmpty = decide (shwB X.b = [])) := by unfold Hid; rw [hS]; exact shw_nil X.b
  have HSZ : Hid (S.size ≤ 1099511627776) := by unfold Hid; rw [hS]; exact shw_size X.b
  have HN : Hid (max 1 (dig 1 S.data.toList : Int) = namN X.b) := by unfold Hid; rw [hS, shw_list]; rfl
  rw [← hS] at HSH
  clear hS
  obtain ⟨q0, q1, q2, q3, q4, q5, q6, q7⟩ := t0.c8
  go_enter Tryz.func167, Tryz.ntmps167
  go_wp2_with fail
  refine (HSH.out _ b0).mono ?_
  rintro e w1 ⟨rfl, hb1⟩
  have b1 := b0.trans (hb1.mono b0.size)
  clear q0 q1 q2 q3 q4 q5 q6 q7 hb1 t0 b0
  cases hE : S.toList.isEmpty with
  | true =>
    have RES : Hid (namZ X.b = -1) := by unfold Hid namZ; rw [if_pos (of_decide_eq_true (HE.out.symm.trans hE))]
    go_wp2
    go_ret
    exact ⟨ret_intE RES.out.symm, b1⟩
  | false =>
    have RES : Hid (namZ X.b = namN X.b) := by unfold Hid namZ; rw [if_neg (of_decide_eq_false (HE.out.symm.trans hE))]
    go_wp2_with fail
    refine (implDigest_any S _ HSZ.out).mono ?_
    rintro e w2 ⟨rfl, hb2⟩
    have b2 := b1.trans (hb2.mono b1.size)
    obtain ⟨d, hd⟩ : ∃ d : Nat, d = dig 1 S.data.toList := ⟨_, rfl⟩
    rw [← hd] at HN ⊢
    have R2 : Hid (namZ X.b = max 1 (d : Int)) := RES.out.trans HN.out.symm
    clear hd hb2
    go_wp2
    all_goals (go_ret; exact ⟨ret_intE (by rw [R2.out]; omega), b2⟩)
end Go.Proofs.YtahihlnhimmgdaaGreatDoor
namespace Go.Proofs.YtahihlnhimmgdaaGreatDoor
open Go.RowKit
/-- Do the two texts clash? -/
def clash (a b : ByteArray) : Bool := decide (¬ a.toList = b.toList ∧ dig 1 a.data.toList = dig 1 b.data.toList)
theorem clash_alike {a b : ByteArray} (h : a.toList = b.toList) : clash a b = false := by unfold clash; simp [h]
theorem clash_other {a b : ByteArray} (h : ¬ a.toList = b.toList) : clash a b = decide (dig 1 a.data.toList = dig 1 b.data.toList) := by unfold clash; simp [h]
theorem beq_dig (x y : Nat) : ((x : Int) == (y : Int)) = decide (x = y) := by
  by_cases h : x = y
  · subst h; simp
  · simp only [h, decide_false, beq_eq_false_iff_ne]; omega
theorem both_dig {a b : ByteArray} (h : ¬ a.toList = b.toList) (x y : Nat) : (!a.toList == b.toList && (x : Int) == (y : Int)) = decide (x = y) := by
  rw [beq_dig]; simp [h]
theorem ret_boolC {a b : Bool} (h : a = b) : Ending.returned (.bool a) = .returned (.bool b) := by rw [h]
end Go.Proofs.YtahihlnhimmgdaaGreatDoor
namespace Go.Proofs.YtahihlnhimmgdaaGreatDoor
open Go.RowKit
theorem itoaS_size (n : Int) (h0 : -9223372036854775808 ≤ n) (h1 : n ≤ 9223372036854775807) : (itoaS n).size ≤ 21 := by
  have := Lib.itoa_length_le n h0 h1
  show (Lib.itoa n).toArray.size ≤ 21
  simpa using this
theorem dig_lt' (h : Nat) (bs : List UInt8) (hh : h < 2147483647) : dig h bs < 2147483647 := dig_lt bs h hh
/-- The digest of a pair of numbers. -/
def pairD (a b : Int) : Nat := dig (dig (dig 1 (itoaS a).data.toList) [44]) (itoaS b).data.toList
theorem app_toList (a b : ByteArray) : (a ++ b).data.toList = a.data.toList ++ b.data.toList := by simp [ByteArray.data_append]
theorem app_size (a b : ByteArray) : (a ++ b).size = a.size + b.size := ByteArray.size_append
/-- The digest of some texts, one behind the other. -/
def digAll (h : Nat) (ss : List ByteArray) : Nat := ss.foldl (fun d s => dig d s.data.toList) h
theorem digAll_at (h k : Nat) (ss : List ByteArray) (hk : k < ss.length) : digAll h (ss.drop k) = digAll (dig h ss[k].data.toList) (ss.drop (k + 1)) := by
  rw [List.drop_eq_getElem_cons hk]; rfl
theorem digAll_end (h k : Nat) (ss : List ByteArray) (hk : ss.length ≤ k) : digAll h (ss.drop k) = h := by
  rw [List.drop_eq_nil_of_le hk]; rfl
set_option maxHeartbeats 400000 in
set_option maxRecDepth 100000 in
theorem withEachText_any (m : Nat) (v : Value) (ss : List ByteArray) (w : World) (hm : m < 2147483647) (hr : RdS w v ss) (hs : ∀ s ∈ ss, s.size ≤ 1099511627776) :
    Calls Tryz.prog 205 #[.int .i64 m, .func (.func 202) #[] #[], v] w fun e w' => e = .returned (.int .i64 (digAll m ss : Int)) ∧ Below w.heap.size w w' := by
  have HS : Hid (∀ s ∈ ss, s.size ≤ 1099511627776) := hs
  have HRd : Hid (RdS w v ss) := hr
  obtain ⟨a, cap, rfl, hl, hc, hA⟩ := hr
  unfold maxLen at hc
  clear hA hs
  obtain ⟨R, hR⟩ : ∃ R, R = digAll m ss := ⟨_, rfl⟩
  rw [← hR]
  go_enter Tryz.func205, Tryz.ntmps205
  go_wp2
  go_loopw [0, 8, 11] (fun h _ i wr => ∃ k m' : Nat, k ≤ ss.length ∧ i = .int .i64 k ∧ h = .int .i64 m' ∧ m' < 2147483647 ∧ Hid (R = digAll m' (ss.drop k)) ∧ Below w.heap.size w wr) (fun _ _ i _ => ss.length - (intOf i).toNat)
  case atStart => exact ⟨0, m, by omega, rfl, rfl, hm, hR, Below.refl _ _⟩
  case round =>
    obtain ⟨k, m', hk, rfl, rfl, hm', HR, hb⟩ := hrel
    clear hR
    by_cases hlt : k < ss.length
    · obtain ⟨b0, off, ha, hcell⟩ : ∃ b0 off, a = some ⟨b0, off, none⟩ ∧ wr.cell? ⟨b0, off + k, none⟩ = some (.string ss[k]) := by
        obtain ⟨a', cap', hv, _, _, hA⟩ := HRd.out.below hb
        cases hv
        rcases hA with h | ⟨b, off, ha, hc⟩
        · subst h; simp at hlt
        · exact ⟨b, off, ha, hc k hlt⟩
      have hsz := HS.out ss[k] (List.getElem_mem hlt)
      have hlt2 := dig_lt' m' ss[k].data.toList hm'
      have HN : Hid (R = digAll (dig m' ss[k].data.toList) (ss.drop (k + 1))) := by
        show R = _
        rw [HR.out, digAll_at _ _ _ hlt]
      rw [ha]
      clear ha HR
      go_wp2_with fail
      refine (withText_any m' ss[k] _ hm' hsz).mono ?_
      rintro e w1 ⟨rfl, hb1⟩
      have hb2 := hb.trans (hb1.mono hb.size)
      clear hb hb1 hcell
      go_wp2
      go_roundw
      case rel => exact ⟨k + 1, _, by omega, by go_num, rfl, hlt2, HN, hb2⟩
      case measure => simp [intOf]; omega
    · go_wp2
      go_ret
      exact ⟨ret_int (by rw [HR.out, digAll_end _ _ _ (by omega)]), hb⟩
end Go.Proofs.YtahihlnhimmgdaaGreatDoor
namespace Go.Proofs.YtahihlnhimmgdaaGreatDoor
open Go.RowKit
abbrev secretB : ByteArray := ⟨#[115, 101, 99, 114, 101, 116]⟩
/-- The digest of the tag's text. -/
def tagD (server : Int) (text : ByteArray) : Nat := digAll 1 [secretB, itoaS server, ⟨#[47]⟩, text]
theorem tagD_eq (s : Int) (t : ByteArray) : tagD s t = dig (dig (dig (dig 1 secretB.data.toList) (itoaS s).data.toList) (⟨#[47]⟩ : ByteArray).data.toList) t.data.toList := by
  unfold tagD digAll
  simp only [List.foldl_cons, List.foldl_nil]
/-- The tag: -1 of a server out of range. -/
def tag (server : Int) (text : ByteArray) : Int := if 0 ≤ server ∧ server ≤ 6 then (tagD server text : Int) else -1
theorem tag_in {s : Int} (t : ByteArray) (h0 : 0 ≤ s) (h1 : s ≤ 6) : tag s t = (tagD s t : Int) := by unfold tag; rw [if_pos ⟨h0, h1⟩]
theorem tag_out {s : Int} (t : ByteArray) (h : s < 0 ∨ 6 < s) : tag s t = -1 := by unfold tag; rw [if_neg (by omega)]
set_option maxHeartbeats 400000 in
set_option maxRecDepth 100000 in
theorem l1InT_any (x lo hi : Int) (w : World) : Calls Tryz.prog 58 #[.int .i64 x, .int .i64 lo, .int .i64 hi] w fun e w' => e = .returned (.bool (decide (lo ≤ x ∧ x ≤ hi))) ∧ w' = w := by
  by_cases h : lo ≤ x
  · go_enter Tryz.func58, Tryz.ntmps58
    go_wp2
    go_ret
    exact ⟨by simp [h], rfl⟩
  · go_enter Tryz.func58, Tryz.ntmps58
    go_wp2
    go_ret
    have hf : (decide (lo ≤ x) && decide (x ≤ hi)) = false := by simp; omega
    exact ⟨by rw [hf]; rfl, rfl⟩
set_option maxHeartbeats 400000 in
set_option maxRecDepth 100000 in
theorem l2Tag_any (s : Int) (t : ByteArray) (w : World) (h0 : -9223372036854775808 ≤ s) (h1 : s ≤ 9223372036854775807) (ht : t.size ≤ 1048576) :
    Calls Tryz.prog 141 #[.int .i64 s, .string t] w fun e w' => e = .returned (.int .i64 (tagD s t : Int)) ∧ Below w.heap.size w w' := by
  have hsz := itoaS_size s h0 h1
  go_enter Tryz.func141, Tryz.ntmps141
  go_wp2_with fail
  refine (l2Int_any s _ h0 h1).mono ?_
  rintro e w1 ⟨rfl, hw1⟩
  have hz : ((⟨#[115, 101, 99, 114, 101, 116]⟩ : ByteArray) ++ itoaS s ++ ⟨#[47]⟩ ++ t).size ≤ 2000000 := by
    rw [app_size, app_size, app_size]
    have h1 : (⟨#[47]⟩ : ByteArray).size = 1 := rfl
    have h2 : (⟨#[115, 101, 99, 114, 101, 116]⟩ : ByteArray).size = 6 := rfl
    omega
  have HP : Hid (dig 1 ((⟨#[115, 101, 99, 114, 101, 116]⟩ : ByteArray) ++ itoaS s ++ ⟨#[47]⟩ ++ t).data.toList = tagD s t) := by
    show _ = _
    rw [app_toList, app_toList, app_toList, dig_append, dig_append, dig_append, tagD_eq]
  go_wp2_with fail
  refine (specDigest_any _ _ (by omega)).mono ?_
  rw [HP.out]
  rintro e w2 ⟨rfl, rfl⟩
  go_wp2
  go_ret
  exact ⟨rfl, hw1⟩
theorem four_rd (w : World) (a b c d : ByteArray) : RdS (w.alloc (.cells #[.string a, .string b, .string c, .string d] 9)) (.slice (some ⟨w.heap.size, 0, none⟩) 4 4) [a, b, c, d] := by
  refine ⟨_, _, rfl, by simp, by unfold maxLen; omega, .inr ⟨w.heap.size, 0, rfl, fun i hi => ?_⟩⟩
  match i, hi with
  | 0, _ => simp
  | 1, _ => simp
  | 2, _ => simp
  | 3, _ => simp
set_option maxHeartbeats 400000 in
set_option maxRecDepth 100000 in
theorem implTag_any (s : Int) (t : ByteArray) (w : World) (ht : t.size ≤ 1048576) :
    Calls Tryz.prog 191 #[.int .i64 s, .string t] w fun e w' => e = .returned (.int .i64 (tag s t)) ∧ Below w.heap.size w w' := by
  by_cases hs0 : s < 0
  · rw [tag_out t (.inl hs0)]
    go_enter Tryz.func191, Tryz.ntmps191
    go_wp2
    go_ret
    exact ⟨rfl, Below.refl _ _⟩
  by_cases hs1 : 6 < s
  · rw [tag_out t (.inr hs1)]
    go_enter Tryz.func191, Tryz.ntmps191
    go_wp2
    go_ret
    exact ⟨rfl, Below.refl _ _⟩
  rw [tag_in t (by omega) (by omega)]
  obtain ⟨n, rfl⟩ := Int.eq_ofNat_of_zero_le (show 0 ≤ s by omega)
  go_enter Tryz.func191, Tryz.ntmps191
  go_wp2_with fail
  refine (fmt_small n _ (by omega)).mono ?_
  rintro e w1 ⟨rfl, rfl⟩
  have hsz := itoaS_size (n : Int) (by omega) (by omega)
  have HS : Hid (∀ x ∈ [secretB, itoaS (n : Int), ⟨#[47]⟩, t], x.size ≤ 1099511627776) := by
    intro x hx
    simp only [List.mem_cons, List.not_mem_nil, or_false] at hx
    rcases hx with rfl | rfl | rfl | rfl
    · decide
    · omega
    · decide
    · omega
  have HB : Hid (Below w1.heap.size w1 (w1.alloc (.cells #[.string secretB, .string (itoaS n), .string ⟨#[47]⟩, .string t] 9))) := (Below.refl _ _).alloc (Nat.le_refl _) _
  go_wp2_with fail
  refine (withEachText_any 1 _ [secretB, itoaS (n : Int), ⟨#[47]⟩, t] _ (by omega) (four_rd w1 _ _ _ _) HS.out).mono ?_
  rintro e w2 ⟨rfl, hb2⟩
  have hb := HB.out.trans (hb2.mono HB.out.size)
  clear hb2
  go_wp2
  go_ret
  exact ⟨rfl, hb⟩
/-- Is the tag that Tag, and not -1? -/
def sgn (s : Int) (t : ByteArray) (x : Int) : Bool := decide (0 ≤ s ∧ s ≤ 6 ∧ x = (tagD s t : Int))
end Go.Proofs.YtahihlnhimmgdaaGreatDoor
-- UNF Gen
namespace Go.Proofs.YtahihlnhimmgdaaGreatDoor
open Go.RowKit
def votZ : Vot := ⟨0, 0, 0, 0⟩
def VC (x : Vot) : Array Value := #[.int .i64 x.vw, .int .i64 x.nm, .int .i64 x.sv, .int .i64 x.tg]
/-- The box of a vote. -/
def BoxV (W : World) (b : Nat) (x : Vot) : Prop := W.heap[b]? = some (.cells (VC x) 36 (0, 0))
theorem boxV_new (w : World) (x : Vot) : BoxV (w.alloc (.cells (VC x) 36)) w.heap.size x := by
  unfold BoxV
  rw [show (w.alloc (.cells (VC x) 36)).heap = w.heap.push (.cells (VC x) 36) from rfl]
  simp
theorem BoxV.lt {W : World} {b : Nat} {x : Vot} (h : BoxV W b x) : b < W.heap.size := (Array.getElem?_eq_some_iff.1 h).1
theorem BoxV.below {W W' : World} {b : Nat} {x : Vot} (h : BoxV W b x) (hb : Below W.heap.size W W') : BoxV W' b x := (hb.block b h.lt).trans h
theorem BoxV.facts {W : World} {b : Nat} {x : Vot} (h : BoxV W b x) : W.cell? ⟨b, 0, none⟩ = some (.int .i64 x.vw) ∧ W.cell? ⟨b, 1, none⟩ = some (.int .i64 x.nm) ∧ W.cell? ⟨b, 2, none⟩ = some (.int .i64 x.sv) ∧ W.cell? ⟨b, 3, none⟩ = some (.int .i64 x.tg) := by
  unfold BoxV VC at h
  refine ⟨?_, ?_, ?_, ?_⟩ <;> simp [World.cell?, h]
theorem BoxV.fz {W : World} {b : Nat} {x : Vot} (h : BoxV W b x) : W.frozen? ⟨b, 0, none⟩ = false ∧ W.frozen? ⟨b, 1, none⟩ = false ∧ W.frozen? ⟨b, 2, none⟩ = false ∧ W.frozen? ⟨b, 3, none⟩ = false := by
  unfold BoxV VC at h
  refine ⟨?_, ?_, ?_, ?_⟩ <;> simp [World.frozen?, h]
/-- A vote is stored into a box. -/
def putV (W : World) (b : Nat) (x : Vot) : World := (((W.setCell ⟨b, 0, none⟩ (.int .i64 x.vw)).setCell ⟨b, 1, none⟩ (.int .i64 x.nm)).setCell ⟨b, 2, none⟩ (.int .i64 x.sv)).setCell ⟨b, 3, none⟩ (.int .i64 x.tg)
theorem BoxV.put {W : World} {b : Nat} {x : Vot} (h : BoxV W b x) (y : Vot) : BoxV (putV W b y) b y := by
  unfold BoxV VC at h
  have h1 := heap_setCell_same W b 0 _ _ (.int .i64 y.vw) h
  have h2 := heap_setCell_same _ b 1 _ _ (.int .i64 y.nm) h1
  have h3 := heap_setCell_same _ b 2 _ _ (.int .i64 y.sv) h2
  have h4 := heap_setCell_same _ b 3 _ _ (.int .i64 y.tg) h3
  unfold BoxV VC putV
  simpa using h4
theorem putV_below {B : Nat} {a W : World} {b : Nat} {y : Vot} (h : Below B a W) (hb : B ≤ b) : Below B a (putV W b y) := (((h.setCell hb _).setCell hb _).setCell hb _).setCell hb _
end Go.Proofs.YtahihlnhimmgdaaGreatDoor
-- UNF Gen
namespace Go.Proofs.YtahihlnhimmgdaaGreatDoor
open Go.RowKit
/-- Is it a number of servers? -/
def srvB (n : Int) : Bool := decide (n = 1 ∨ n = 4 ∨ n = 7)
theorem srvB_iff {n : Int} : srvB n = true ↔ n = 1 ∨ n = 4 ∨ n = 7 := by unfold srvB; exact decide_eq_true_iff
def quoR (n : Int) : Int := if n = 1 then 1 else if n = 4 then 3 else if n = 7 then 5 else -1
set_option maxHeartbeats 1000000 in
set_option maxRecDepth 100000 in
theorem l15Servers_any (n : Int) (w : World) :
    Calls Tryz.prog 57 #[.int .i64 n] w fun e w' => e = .returned (.bool (srvB n)) ∧ w' = w := by
  by_cases h1 : n = 1
  · subst h1
    go_enter Tryz.func57, Tryz.ntmps57
    go_wp2
    go_ret
    exact ⟨rfl, rfl⟩
  · have e1 : (n == 1) = false := beq_false_of_ne h1
    by_cases h4 : n = 4
    · subst h4
      go_enter Tryz.func57, Tryz.ntmps57
      go_wp2
      go_ret
      exact ⟨rfl, rfl⟩
    · have e4 : (n == 4) = false := beq_false_of_ne h4
      have RES : Hid (srvB n = (n == 7)) := by
        unfold Hid srvB
        rw [Bool.eq_iff_iff]
        simp [h1, h4]
      clear h1 h4
      go_enter Tryz.func57, Tryz.ntmps57
      go_wp2
      go_ret
      exact ⟨ret_bool (by rw [RES.out]), rfl⟩
set_option maxHeartbeats 1000000 in
set_option maxRecDepth 100000 in
theorem specQuorum_any (n : Int) (w : World) :
    Calls Tryz.prog 137 #[.int .i64 n] w fun e w' => e = .returned (.int .i64 (quoR n)) ∧ w' = w := by
  have HS : Hid (∀ b, b = srvB n → ∀ W, Calls Tryz.prog 57 #[.int .i64 n] W fun e w' => e = .returned (.bool b) ∧ w' = W) := fun b hb W => by rw [hb]; exact l15Servers_any n W
  by_cases h1 : n = 1 ∨ n = 4 ∨ n = 7
  · have hb : Hid (true = srvB n) := (srvB_iff.2 h1).symm
    rcases h1 with rfl | rfl | rfl
    all_goals
      go_enter Tryz.func137, Tryz.ntmps137
      go_wp2_with fail
      refine (HS.out true hb.out _).mono ?_
      rintro e w1 ⟨rfl, rfl⟩
      go_wp2
      go_ret
      exact ⟨rfl, rfl⟩
  · have hb : Hid (false = srvB n) := by
      unfold Hid
      cases h : srvB n with
      | false => rfl
      | true => exact absurd (srvB_iff.1 h) h1
    have RES : Hid (quoR n = -1) := by unfold Hid quoR; rw [if_neg (by omega), if_neg (by omega), if_neg (by omega)]
    clear h1
    go_enter Tryz.func137, Tryz.ntmps137
    go_wp2_with fail
    refine (HS.out false hb.out _).mono ?_
    rintro e w1 ⟨rfl, rfl⟩
    go_wp2
    go_ret
    exact ⟨by rw [RES.out]; rfl, rfl⟩
set_option maxHeartbeats 1000000 in
set_option maxRecDepth 100000 in
theorem implQuorum_any (n : Int) (w : World) :
    Calls Tryz.prog 163 #[.int .i64 n] w fun e w' => e = .returned (.int .i64 (quoR n)) ∧ w' = w := by
  by_cases h1 : n = 1 ∨ n = 4 ∨ n = 7
  · rcases h1 with rfl | rfl | rfl
    all_goals
      go_enter Tryz.func163, Tryz.ntmps163
      go_wp2
      go_ret
      exact ⟨rfl, rfl⟩
  · have RES : Hid (quoR n = -1) := by unfold Hid quoR; rw [if_neg (by omega), if_neg (by omega), if_neg (by omega)]
    have e1 : (n == 1) = false := beq_false_of_ne (by omega)
    have e4 : (n == 4) = false := beq_false_of_ne (by omega)
    have e7 : (n == 7) = false := beq_false_of_ne (by omega)
    clear h1
    go_enter Tryz.func163, Tryz.ntmps163
    go_wp2
    go_ret
    exact ⟨ret_intE (by rw [RES.out]), rfl⟩
theorem l15ServersB_any (b : Bool) (n : Int) (h : srvB n = b) (w : World) :
    Calls Tryz.prog 57 #[.int .i64 n] w fun e w' => e = .returned (.bool b) ∧ w' = w := by rw [← h]; exact l15Servers_any n w
theorem implQuorumZ_any (q : Int) (n : Int) (h : quoR n = q) (w : World) :
    Calls Tryz.prog 163 #[.int .i64 n] w fun e w' => e = .returned (.int .i64 q) ∧ w' = w := by rw [← h]; exact implQuorum_any n w
theorem specQuorumZ_any (q : Int) (n : Int) (h : quoR n = q) (w : World) :
    Calls Tryz.prog 137 #[.int .i64 n] w fun e w' => e = .returned (.int .i64 q) ∧ w' = w := by rw [← h]; exact specQuorum_any n w
theorem quoR_no {n : Int} (h : srvB n = false) : quoR n = -1 := by
  have h1 : ¬ (n = 1 ∨ n = 4 ∨ n = 7) := fun e => by rw [srvB_iff.2 e] at h; cases h
  unfold quoR
  rw [if_neg (by omega), if_neg (by omega), if_neg (by omega)]
theorem quoR_yes {n : Int} (h : srvB n = true) : 1 ≤ quoR n ∧ quoR n ≤ 5 ∧ 1 ≤ n ∧ n ≤ 7 := by
  rcases srvB_iff.1 h with rfl | rfl | rfl <;> decide
end Go.Proofs.YtahihlnhimmgdaaGreatDoor
