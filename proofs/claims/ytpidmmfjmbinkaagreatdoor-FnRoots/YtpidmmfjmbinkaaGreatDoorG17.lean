/- The contracts of errors.Is at a sentinel: itself, and none. The contracts of both ReadSlots (the program's by slotOf, errors.Is). -/
import Derived.Test.YtpidmmfjmbinkaaGreatDoorG00
import Derived.WalkKit
import Derived.LaidEql
import Derived.Stop.Asserts
import Derived.RowKitTokens
import Derived.Test.YtpidmmfjmbinkaaGreatDoorG15
import Derived.Test.YtpidmmfjmbinkaaGreatDoorG16
import Derived.BigQuiet
namespace Go.Proofs.YtpidmmfjmbinkaaGreatDoor
open Go.RowKit Go.Extern.Stop Go.Stop Go.Extern
theorem Tryz.isTypeOf (v : Value) (w : World) : (Extern.ReflectliteType.typeOf #[.iface 174 v]).run Tryz.prog w = .ok (.iface 123 (.agg #[.pointer (some ⟨9, 174, none⟩)])) w := by kernel_rfl
/-- The model's own entry for (rtype).Comparable. -/
theorem Tryz.cmpX : ∃ x : Array Value → Sem Value, Extern.find Tryz.f138 = some x ∧ ∀ w : World, (x #[.agg #[.pointer (some ⟨9, 174, none⟩)]]).run Tryz.prog w = .ok (.bool true) w :=
  ⟨(Extern.find Tryz.f138).getD (fun _ => pure (.bool false)), by kernel_rfl, fun w => by kernel_rfl⟩
theorem Tryz.isMethodComparable (v : Value) (w : World) : (Go.method 305 123 v "Comparable").run Tryz.prog w = .ok (138, v) w := by kernel_rfl
theorem Tryz.isComp : (Tryz.prog.info? 174).map (·.comparable) = some true := by kernel_rfl
theorem Tryz.isSize : (Tryz.prog.info? 176).map (·.size) = some 1 := by kernel_rfl
set_option maxHeartbeats 4000000 in
/-- errors.Is(x, x), x a pointer to an errors.errorString. -/
theorem is_same (a : Addr) (w : World) :
    Calls Tryz.prog 36 #[.iface 174 (.pointer (some a)), .iface 174 (.pointer (some a))] w fun e w' => e = .returned (.bool true) ∧ w' = w := by
  obtain ⟨i, hi, hcmp⟩ := Option.map_eq_some_iff.1 Tryz.isComp
  obtain ⟨j, hj, hjs⟩ := Option.map_eq_some_iff.1 Tryz.isSize
  obtain ⟨cx, hcx, cT⟩ := Tryz.cmpX
  have h8 := @run_callFunc_extern Tryz.prog 65 _ Extern.ReflectliteType.typeOf Tryz.func65 (by kernel_rfl) (by kernel_rfl) (by kernel_rfl) (by kernel_rfl)
  have h32 := @run_callFunc_extern Tryz.prog 138 _ cx Tryz.func138 (by kernel_rfl) (by kernel_rfl) (by kernel_rfl) hcx
  have tT := Tryz.isTypeOf
  have mR := Tryz.isMethodComparable
  have heq := run_eql_iface_ptr_same (P := Tryz.prog) w a Tryz.underlying59 Tryz.underlying174 hi hcmp hj
  go_enter Tryz.func36, Tryz.ntmps36
  go_wp2
  refine wp_loop_rounds 1 ?_
  rw [rounds_succ]
  go_wp2
  go_ret
  exact ⟨rfl, rfl⟩
set_option maxHeartbeats 4000000 in
/-- errors.Is(nil, x). -/
theorem is_nil (b : Addr) (w : World) :
    Calls Tryz.prog 36 #[.nilIface, .iface 174 (.pointer (some b))] w fun e w' => e = .returned (.bool false) ∧ w' = w := by
  have hn := run_eql_iface_nil_left (P := Tryz.prog) w 174 (.pointer (some b)) Tryz.underlying59
  go_enter Tryz.func36, Tryz.ntmps36
  go_wp2
  go_ret
  exact ⟨rfl, rfl⟩
end Go.Proofs.YtpidmmfjmbinkaaGreatDoor
namespace Go.Proofs.YtpidmmfjmbinkaaGreatDoor
open Go.RowKit
/-- What a text is read as: of which generation and text Slot makes it, if there is one. -/
def RS (s : ByteArray) : Option (Int × ByteArray) → Prop
  | some (g, t) => (1 ≤ g ∧ g ≤ 1000000 ∧ t.size ≤ 300) ∧ s = slotT g t
  | none => ∀ g t, (1 ≤ g ∧ g ≤ 1000000 ∧ t.size ≤ 300) → slotT g t ≠ s
theorem rs_ex (s : ByteArray) : ∃ r, RS s r := by
  by_cases h : ∃ g t, (1 ≤ g ∧ g ≤ 1000000 ∧ t.size ≤ 300) ∧ s = slotT g t
  · obtain ⟨g, t, h⟩ := h
    exact ⟨some (g, t), h⟩
  · exact ⟨none, fun g t h1 h2 => h ⟨g, t, h1, h2.symm⟩⟩
def rG (r : Option (Int × ByteArray)) : Int := (r.map Prod.fst).getD 0
def rT (r : Option (Int × ByteArray)) : ByteArray := (r.map Prod.snd).getD ⟨#[]⟩
theorem ba_eq {a b : ByteArray} (h : a.data.toList = b.data.toList) : a = b := by
  cases a; cases b; simp_all
theorem ba_mk (l : List UInt8) (b : ByteArray) (h : b.data.toList = l) : (⟨l.toArray⟩ : ByteArray) = b := ba_eq (by rw [h])
theorem slot_ne {s : ByteArray} (h : RS s none) (hs : 0 < s.size) (n : Int) (x : ByteArray) : ((slotS n x).toList == s.toList) = false := by
  simp only [beq_eq_false_iff_ne]
  rw [toListB, toListB]
  intro e
  have e := ba_eq e
  by_cases hk : 1 ≤ n ∧ n ≤ 1000000 ∧ x.size ≤ 300
  · rw [slotS_yes hk] at e
    exact h n x hk e
  · rw [slotS_no hk] at e
    rw [← e] at hs
    exact absurd hs (by decide)
theorem slot_size {g : Int} {t : ByteArray} (h : 1 ≤ g ∧ g ≤ 1000000 ∧ t.size ≤ 300) : 0 < (slotT g t).size ∧ (slotT g t).size ≤ 400 := by
  have hsa := itoaS_size g (by omega) (by omega)
  have hD : dig 1 t.data.toList < 2147483647 := dig_lt' 1 _ (by decide)
  have hsb := itoaS_size (dig 1 t.data.toList : Int) (by omega) (by omega)
  unfold slotT
  rw [app_size, app_size, app_size, app_size]
  have : blankB.size = 1 := rfl
  omega
theorem rdS_at {w : World} {a : Option Addr} {n cap : Nat} {ss : List ByteArray} (h : RdS w (.slice a n cap) ss) (i : Nat) (hi : i < ss.length) : ∃ b off, a = some ⟨b, off, none⟩ ∧ w.cell? ⟨b, off + i, none⟩ = some (.string ss[i]) := by
  obtain ⟨a', c', e, h1, h2, h3⟩ := h
  injection e with e1 e2 e3
  subst e1
  rcases h3 with rfl | ⟨b, off, rfl, hc⟩
  · simp at hi
  · exact ⟨b, off, rfl, hc i hi⟩
set_option maxHeartbeats 4000000 in
set_option maxRecDepth 100000 in
theorem specRead_yes (g : Int) (t : ByteArray) (w : World) (h : 1 ≤ g ∧ g ≤ 1000000 ∧ t.size ≤ 300) :
    Calls Tryz.prog 20 #[.string (slotT g t)] w fun e w' => e = .returned (.tuple #[.int .i64 g, .string t, .bool true]) ∧ Below w.heap.size w w' := by
  have hsz := slot_size h
  have hls := slotT_list g t
  obtain ⟨s, hs⟩ : ∃ s, s = slotT g t := ⟨_, rfl⟩
  rw [← hs] at hsz hls ⊢
  have HS : Hid (slotS g t = s) := by unfold Hid; rw [slotS_yes h, hs]
  obtain ⟨d, hd⟩ : ∃ d, d = itoaS (dig 1 t.data.toList : Int) := ⟨_, rfl⟩
  have hdb : (32 : UInt8) ∉ d.data.toList := by rw [hd]; exact itoa_noBlank _ (by omega)
  have hgb : (32 : UInt8) ∉ (itoaS g).data.toList := itoa_noBlank _ (by omega)
  rw [← hd] at hls
  have hw : wordsL s.data.toList = (itoaS g).data.toList :: d.data.toList :: wordsL t.data.toList := by rw [hls, words_app _ _ hgb, words_app _ _ hdb]
  have hne := words_ne t.data.toList
  have hls2 := size_length s
  have hgs := size_length (itoaS g)
  have hds := size_length d
  have hts := size_length t
  have hle : (itoaS g).size + d.size + 2 + t.size = s.size := by
    rw [← hls2, hls, List.length_append, List.length_cons, List.length_append, List.length_cons]; omega
  have HX : Hid (s.extract ((itoaS g).size + d.size + 2) s.size = t) := by
    unfold Hid
    apply ba_eq
    have e : s.data.toList = ((itoaS g).data.toList ++ 32 :: (d.data.toList ++ [32])) ++ t.data.toList := by rw [hls]; simp
    have el : ((itoaS g).data.toList ++ 32 :: (d.data.toList ++ [32])).length = (itoaS g).size + d.size + 2 := by simp only [List.length_append, List.length_cons, List.length_nil]; omega
    rw [Lib.extract_eq]
    show List.take _ (List.drop _ s.data.toList) = _
    rw [e, List.drop_left' el, List.take_of_length_le (by omega)]
  clear hls hd hdb hgb hs
  go_enter Tryz.func20, Tryz.ntmps20
  go_wp2_with fail
  refine (words_any s _ (by omega)).mono ?_
  rintro e w1 ⟨v, ys, rfl, hys, hr, hb⟩
  rw [hw] at hys
  obtain ⟨a, b, c, rest, rfl, ha, hbb⟩ : ∃ a b c rest, ys = a :: b :: c :: rest ∧ bytesOf a = (itoaS g).data.toList ∧ bytesOf b = d.data.toList := by
    match ys, hys with
    | a :: b :: c :: rest, h =>
      injection h with h1 h2
      injection h2 with h2 h3
      exact ⟨a, b, c, rest, rfl, h1, h2⟩
    | [a, b], h =>
      injection h with h1 h2
      injection h2 with h2 h3
      exact absurd h3.symm hne
    | [a], h =>
      injection h with h1 h2
      cases h2
    | [], h => cases h
  obtain rfl : a = itoaS g := ba_eq ha
  obtain rfl : b = d := ba_eq hbb
  clear hys hw hne ha hbb
  obtain ⟨n, hn⟩ : ∃ n, n = (itoaS g :: b :: c :: rest).length := ⟨_, rfl⟩
  have hn3 : 3 ≤ n := by rw [hn]; simp
  obtain ⟨va, vc, hv, hlc, hlm, hjunk⟩ := id hr
  clear hjunk
  rw [hv] at hr
  obtain ⟨pb, po, rfl, q0⟩ := rdS_at hr 0 (by simp)
  obtain ⟨pb', po', e', q1⟩ := rdS_at hr 1 (by simp)
  injection e' with e'
  injection e' with e1 e2 e3
  subst e1 e2
  rw [← hn] at hv hlc
  subst hv
  unfold maxLen at hlm
  replace q0 : w1.cell? ⟨pb, po, none⟩ = some (.string (itoaS g)) := q0
  replace q1 : w1.cell? ⟨pb, po + 1, none⟩ = some (.string b) := q1
  clear hr hn e3
  have hn2 : ¬ (n : Int) < 3 := by omega
  have i0 : 0 < n := by omega
  have i1 : 1 < n := by omega
  go_wp2_with fail
  refine (number_dec g _ h.1 h.2.1).mono ?_
  rintro e w2 ⟨rfl, hw2⟩
  obtain rfl := hw2.symm
  have c1 : (0 : Int) ≤ ((itoaS g).size : Int) + (b.size : Int) + 2 := by omega
  have c2 : ((itoaS g).size : Int) + (b.size : Int) + 2 ≤ (s.size : Int) := by omega
  go_wp2
  go_quiet (fail)
  rw [HX.out]
  clear q0 q1 c1 c2
  have hb2 := below_drewN hb nq
  go_wp2_with fail
  refine (specSlot_any g t _ (by omega)).mono ?_
  rw [HS.out]
  rintro e w3 ⟨rfl, hb3⟩
  have bb := hb2.trans (hb3.mono hb2.size)
  clear hb2 hb3
  go_wp2
  go_ret3
  exact ⟨rfl, bb⟩
set_option maxHeartbeats 4000000 in
set_option maxRecDepth 100000 in
theorem specRead_no (s : ByteArray) (w : World) (hs : s.size ≤ 1048576) (h : RS s none) :
    Calls Tryz.prog 20 #[.string s] w fun e w' => e = .returned (.tuple #[.int .i64 0, .string ⟨#[]⟩, .bool false]) ∧ Below w.heap.size w w' := by
  have HN : Hid (RS s none) := h
  clear h
  have hls := size_length s
  go_enter Tryz.func20, Tryz.ntmps20
  go_wp2_with fail
  refine (words_any s _ hs).mono ?_
  rintro e w1 ⟨v, ys, rfl, hys, hr, hb⟩
  obtain ⟨va, vc, hv, hlc, hlm, hjunk⟩ := id hr
  clear hjunk
  unfold maxLen at hlm
  obtain ⟨n, hn⟩ : ∃ n, n = ys.length := ⟨_, rfl⟩
  rw [← hn] at hv hlc
  by_cases h3 : n < 3
  · subst hv
    have h3' : (n : Int) < 3 := by omega
    clear hys hr hn
    go_wp2
    go_ret3
    exact ⟨rfl, hb⟩
  obtain ⟨a, b, c, rest, rfl⟩ : ∃ a b c rest, ys = a :: b :: c :: rest := by
    match ys, hn with
    | a :: b :: c :: rest, _ => exact ⟨a, b, c, rest, rfl⟩
    | [a, b], e => simp at e; omega
    | [a], e => simp at e; omega
    | [], e => simp at e; omega
  have hwl := words_len (l := s.data.toList) (a := bytesOf a) (b := bytesOf b) (c := bytesOf c) (t := rest.map bytesOf) hys.symm
  have ha : (bytesOf a).length = a.size := size_length a
  have hbs : (bytesOf b).length = b.size := size_length b
  rw [ha, hbs, hls] at hwl
  clear ha hbs hys
  rw [hv] at hr
  obtain ⟨pb, po, hva, q0⟩ := rdS_at (n := n) hr 0 (by simp)
  obtain ⟨pb', po', e', q1⟩ := rdS_at (n := n) hr 1 (by simp)
  rw [hva] at e'
  injection e' with e'
  injection e' with e1 e2 e3
  subst e1 e2
  subst hva
  subst hv
  replace q0 : w1.cell? ⟨pb, po, none⟩ = some (.string a) := q0
  replace q1 : w1.cell? ⟨pb, po + 1, none⟩ = some (.string b) := q1
  clear hr hn e3
  have hn2 : ¬ (n : Int) < 3 := by omega
  have i0 : 0 < n := by omega
  have i1 : 1 < n := by omega
  go_wp2_with fail
  refine (number_any a _ (by omega)).mono ?_
  rintro e w2 ⟨⟨m, bo, rfl⟩, hw2⟩
  obtain rfl := hw2.symm
  have c1 : (0 : Int) ≤ (a.size : Int) + (b.size : Int) + 2 := by omega
  have c2 : (a.size : Int) + (b.size : Int) + 2 ≤ (s.size : Int) := by omega
  go_wp2
  go_quiet (fail)
  obtain ⟨x, hx⟩ : ∃ x, x = s.extract (a.size + b.size + 2) s.size := ⟨_, rfl⟩
  have hxs : x.size ≤ s.size := by rw [hx, ByteArray.size_extract]; omega
  rw [← hx]
  clear q0 q1 c1 c2 hx
  have hb2 := below_drewN hb nq
  go_wp2_with fail
  refine (specSlot_any m x _ (by omega)).mono ?_
  have hne := slot_ne HN.out (by omega) m x
  generalize slotS m x = R at hne ⊢
  rintro e w3 ⟨rfl, hb3⟩
  have bb := hb2.trans (hb3.mono hb2.size)
  clear hb2 hb3
  go_wp2
  go_ret3
  exact ⟨rfl, bb⟩
end Go.Proofs.YtpidmmfjmbinkaaGreatDoor
