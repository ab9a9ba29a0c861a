/- Plain facts on bytes, on rows of bytes that a call owns or reads, and on the numbers that are written seven bits to a byte; no function of the program is walked here. Plain facts on rows of bytes and on conversions between bytes and texts, over this program's own types; no function of the program is walked here. The digest of some bytes, and the contract of the model's Digest. The contracts of the two Clashes: are the texts unlike, and have they one digest? The decimal digits of a number: the contract of the model's writer. The decimal digits of a number: the contract of the library's writer (at base 10). Plain facts on rows of texts that a call owns or reads. The contracts of the two Pairs, Tags and Signeds. What a slot is, and the contracts of both Slots. Plain facts on slots: digits, words, what is cut at the first blank. -/
import Derived.Test.YtpbbahpndgigjaaGreatDoorChecked
import Derived.WalkKit
import Derived.WalkSmall
import Derived.OpenShut
import Derived.Deep.DeepMust
import Derived.Deep.DeepFit
import Derived.Laws.IdiomStrings
import Derived.Laws.BytesArg
import Derived.Lib.ConvBytes
import Derived.BigQuiet
import Derived.Deep.RegionWith
import Derived.Lib.ItoaNum
import Derived.Lib.ItoaLen
import Derived.Lib.AppendIntMem
import Derived.Test.YtpbbahpndgigjaaGreatDoorShelf
import Derived.Lib.ParseIntB
import Derived.Lib.ParseIntBCases
import Derived.Lib.IndexLaws
namespace Go.Proofs.YtpbbahpndgigjaaGreatDoor
set_option maxHeartbeats 16000000
set_option maxRecDepth 100000
theorem sA {α : Type} (l : List α) (i : Nat) (a : α) : l.toArray.setIfInBounds i a = (l.set i a).toArray := List.setIfInBounds_toArray l i a
theorem sZ {α : Type} {x : α} {xs : List α} {a : α} : (x :: xs).set 0 a = a :: xs := rfl
theorem sS {α : Type} {x : α} {xs : List α} {n : Nat} {a : α} : (x :: xs).set (n + 1) a = x :: xs.set n a := rfl
open Go.RowKit

def BV (bs : List UInt8) : List Value := bs.map fun b : UInt8 => Value.int .u8 (b.toNat : Int)
theorem BV_length (bs : List UInt8) : (BV bs).length = bs.length := by simp [BV]
theorem BV_append (a b : List UInt8) : BV (a ++ b) = BV a ++ BV b := by simp [BV]
theorem BV_get (bs : List UInt8) (i : Nat) (h : i < bs.length) : (BV bs)[i]? = some (.int .u8 (bs[i].toNat : Int)) := by simp [BV, h]

def Own (w : World) (base : Nat) (v : Value) (bs : List UInt8) : Prop := w.ownsRow base 5 1 v bs.length (BV bs)
def Rd (w : World) (v : Value) (bs : List UInt8) : Prop :=
  ∃ a cap, v = .slice a bs.length cap ∧ bs.length ≤ cap ∧ cap ≤ maxLen ∧
    (bs = [] ∨ ∃ b off, a = some ⟨b, off, none⟩ ∧ ∀ i (h : i < bs.length), w.cell? ⟨b, off + i, none⟩ = some (.int .u8 (bs[i].toNat : Int)))

theorem Own.rd {w : World} {base : Nat} {v : Value} {bs : List UInt8} (h : Own w base v bs) : Rd w v bs := by
  have h' := h
  rcases h.2 with ⟨rfl, h0⟩ | ⟨g, cap, cur, rfl, hb, hg, hn, hc, hs, ht⟩
  · have : bs = [] := List.length_eq_zero_iff.1 h0
    subst this
    exact ⟨none, 0, rfl, Nat.le_refl _, Nat.zero_le _, .inl rfl⟩
  · refine ⟨some ⟨g, 0, none⟩, cap, rfl, hn, hc, .inr ⟨g, 0, rfl, fun i hi => ?_⟩⟩
    have := h'.cellAt i (by omega)
    rw [BV_get bs i hi] at this
    simpa using this
theorem own_below {w w' : World} {base : Nat} {e : TypeId} {s : Nat} {v : Value} {n : Nat} {xs : List Value} (h : w.ownsRow base e s v n xs) (hb : Below w.heap.size w w') : w'.ownsRow base e s v n xs := by
  refine ⟨h.1, ?_⟩
  rcases h.2 with h2 | ⟨g, cap, cur, hv, hg, hh, r⟩
  · exact .inl h2
  · exact .inr ⟨g, cap, cur, hv, hg, by rw [hb.block g (Array.getElem?_eq_some_iff.1 hh).1]; exact hh, r⟩
theorem Own.below {w w' : World} {base : Nat} {v : Value} {bs : List UInt8} (h : Own w base v bs) (hb : Below w.heap.size w w') : Own w' base v bs := own_below h hb
theorem Own.drewN {w : World} {base : Nat} {v : Value} {bs : List UInt8} (h : Own w base v bs) (q : Nat) : Own (w.drewN q) base v bs := h
theorem Own.mono {w : World} {base base' : Nat} {v : Value} {bs : List UInt8} (h : Own w base v bs) (hb : base' ≤ base) : Own w base' v bs := by
  refine ⟨h.1, ?_⟩
  rcases h.2 with h2 | ⟨g, cap, cur, hv, hg, r⟩
  · exact .inl h2
  · exact .inr ⟨g, cap, cur, hv, Nat.le_trans hb hg, r⟩
theorem Rd.below {w w' : World} {v : Value} {bs : List UInt8} (h : Rd w v bs) (hb : Below w.heap.size w w') : Rd w' v bs := by
  obtain ⟨a, cap, hv, h1, h2, h3⟩ := h
  refine ⟨a, cap, hv, h1, h2, ?_⟩
  rcases h3 with h3 | ⟨b, off, ha, hc⟩
  · exact .inl h3
  · exact .inr ⟨b, off, ha, fun i hi => by rw [hb.cell (World.block_lt_of_cell? w _ (hc i hi))]; exact hc i hi⟩
theorem Rd.drewN {w : World} {v : Value} {bs : List UInt8} (h : Rd w v bs) (q : Nat) : Rd (w.drewN q) v bs := h
theorem Rd.shape {w : World} {v : Value} {bs : List UInt8} (h : Rd w v bs) : ∃ a cap, v = .slice a bs.length cap := ⟨h.choose, h.choose_spec.choose, h.choose_spec.choose_spec.1⟩

theorem rd_nil (w : World) : Rd w (.slice none 0 0) [] := ⟨none, 0, rfl, Nat.le_refl _, Nat.zero_le _, .inl rfl⟩
theorem byte_of {n : Int} (h : (Lit.int .u8 n).wf = true) : ((UInt8.ofNat n.toNat).toNat : Int) = n := by
  have h1 := bounds_u8 h
  rw [UInt8.toNat_ofNat']; omega
theorem rd_of {w : World} {x : Addr} {len cap : Nat} {zs : List Int} (hl : len ≤ cap) (hm : cap ≤ maxLen) (hz : zs.length = cap) (hcell : ∀ i, i < zs.length → w.cell? (x.add i) = some (.int .u8 (zs.getD i 0))) (hwz : ∀ n ∈ zs, (Lit.int .u8 n).wf = true) :
    ∃ bs, Rd w (.slice (some x) len cap) bs := by
  refine ⟨(zs.take len).map fun n => UInt8.ofNat n.toNat, some x, cap, ?_, ?_, hm, ?_⟩
  · congr 1; rw [List.length_map, List.length_take]; omega
  · rw [List.length_map, List.length_take]; omega
  · by_cases h0 : len = 0
    · left; subst h0; simp
    · right
      obtain ⟨b, off, spot⟩ := x
      have hc := hcell 0 (by omega)
      have hspot : spot = none := by simpa [Addr.add] using World.cell?_spot hc
      subst hspot
      refine ⟨b, off, rfl, fun i hi => ?_⟩
      have hi' : i < len := by rw [List.length_map, List.length_take] at hi; omega
      have h := hcell i (by omega)
      have hg : zs.getD i 0 = zs[i]'(by omega) := by simp [List.getD, List.getElem?_eq_getElem (show i < zs.length by omega)]
      rw [Addr.add_lit] at h
      rw [h, hg]
      simp only [List.getElem_map, List.getElem_take]
      rw [byte_of (hwz _ (List.getElem_mem (by omega)))]
theorem own_push {w1 : World} {B : Nat} {v' : Value} {ys : List UInt8} {x : Int} (b : UInt8) (hx : x = (b.toNat : Int)) (h : w1.ownsRow B 5 1 v' (ys.length + 1) (BV ys ++ [.int .u8 x])) : Own w1 B v' (ys ++ [b]) := by
  subst hx
  have e : BV (ys ++ [b]) = BV ys ++ [.int .u8 (b.toNat : Int)] := by simp [BV]
  unfold Own
  rw [e, List.length_append]
  exact h
theorem push_below {w wr w1 : World} {B : Nat} {v : Value} {o : Obj} {ys : List UInt8} (hown : Own wr B v ys) (hb : Below B w wr) (hB : B ≤ wr.heap.size) (hg : (wr.alloc o).grownBy w1 v.ownBlock) : Below B w w1 :=
  (hb.alloc hB o).grown hg (by simp; omega) (fun k hk => (World.ownsRow.lt hown k hk).1)
theorem one_new (w : World) (x : Value) (t : TypeId) : ∀ j u, [x][j]? = some u → (w.alloc (.cells #[x] t)).cell? ((⟨w.heap.size, 0, none⟩ : Addr).add j) = some u := by
  intro j u hj
  match j, hj with
  | 0, hj => simp at hj; subst hj; simp [Addr.add]

def enc (n : Nat) : List UInt8 := if h : n < 128 then [UInt8.ofNat n] else UInt8.ofNat (n % 128 + 128) :: enc (n / 128)
theorem enc_small (n : Nat) (h : n < 128) : enc n = [UInt8.ofNat n] := by rw [enc, dif_pos h]
theorem enc_big (n : Nat) (h : 128 ≤ n) : enc n = UInt8.ofNat (n % 128 + 128) :: enc (n / 128) := by rw [enc, dif_neg (by omega)]
theorem enc_len (k : Nat) : ∀ n, n < 128 ^ (k + 1) → (enc n).length ≤ k + 1 := by
  induction k with
  | zero => intro n h; rw [enc_small n (by simpa using h)]; simp
  | succ k ih =>
    intro n h
    by_cases hn : n < 128
    · rw [enc_small n hn]; simp
    · rw [enc_big n (by omega), List.length_cons]
      have := ih (n / 128) (by rw [Nat.pow_succ] at h; omega)
      omega
theorem enc_len9 (n : Nat) (h : n ≤ 9223372036854775807) : (enc n).length ≤ 9 := enc_len 8 n (by omega)
theorem toNat_low (n : Nat) (h : n < 128) : ((UInt8.ofNat n).toNat : Int) = (n : Int) := by
  rw [UInt8.toNat_ofNat']; omega
theorem toNat_high (n : Nat) : ((UInt8.ofNat (n % 128 + 128)).toNat : Int) = (n : Int) % 128 + 128 := by
  rw [UInt8.toNat_ofNat']; omega
def num (n : Int) : List UInt8 := if 0 ≤ n ∧ n ≤ 1099511627776 then enc n.toNat else []
open Go.RowKit
theorem Tryz.info5 : (Tryz.prog.info? 5).map (fun i => (i.zero, i.size, i.bytes)) = some (some (.int .u8 0), 1, 1) := by kernel_rfl
theorem own_none (w : World) : Own (w.alloc (.cells #[] 5)) w.heap.size (.slice (some ⟨w.heap.size, 0, none⟩) 0 0) [] := World.ownsRow_lit w #[] 0 (Nat.le_refl _) (Nat.zero_le _) rfl
theorem size_length (s : ByteArray) : s.data.toList.length = s.size := by rw [Array.length_toList]; rfl
theorem conv_at (w : World) (b o n c : Nat) (l : List UInt8) (hl : l.length = n) (hc : ∀ j (hj : j < l.length), w.cell? ⟨b, o + j, none⟩ = some (.int .u8 (l[j].toNat : Int))) :
    (convert 22 9 (.slice (some ⟨b, o, none⟩) n c)).run Tryz.prog w = .ok (.string ⟨l.toArray⟩) w := by
  subst hl
  exact run_convert_bytes_back w 22 9 5 ⟨b, o, none⟩ c l Tryz.underlying22 Tryz.underlying5 Tryz.underlying9 (fun j hj => by rw [Addr.add_lit]; exact hc j hj)
theorem conv_own {w : World} {B : Nat} {v : Value} {bs : List UInt8} (h : Own w B v bs) : (convert 22 9 v).run Tryz.prog w = .ok (.string ⟨bs.toArray⟩) w := by
  rcases h.2 with ⟨rfl, h0⟩ | ⟨g, cap, cur, rfl, _⟩
  · have : bs = [] := List.length_eq_zero_iff.1 h0
    subst this
    exact run_convert_bytes_nil w 22 5 Tryz.underlying22 Tryz.underlying5 0 0 9 Tryz.underlying9
  · refine conv_at w g 0 bs.length cap bs rfl fun j hj => ?_
    have := World.ownsRow.cellAt h j (by omega)
    rw [BV_get bs j hj] at this
    rw [Nat.zero_add]
    exact this
theorem some_byte (x : Int) (h0 : 0 ≤ x) (h1 : x < 256) : x = ((UInt8.ofNat x.toNat).toNat : Int) := by rw [UInt8.toNat_ofNat']; omega
theorem dig_toNat (k : Nat) : ((UInt8.ofNat (48 + k % 10)).toNat : Int) = 48 + (k : Int) % 10 := by
  rw [UInt8.toNat_ofNat']; omega
theorem conv_one (w : World) (b : UInt8) (x : Int) (hx : (b.toNat : Int) = x) :
    (convert 22 9 (.slice (some ⟨w.heap.size, 0, none⟩) 1 1)).run Tryz.prog (w.alloc (.cells #[.int .u8 x] 5)) = .ok (.string ⟨#[b]⟩) (w.alloc (.cells #[.int .u8 x] 5)) := by
  refine conv_at _ w.heap.size 0 1 1 [b] rfl fun j hj => ?_
  have : j = 0 := by simpa using hj
  subst this
  simp [hx]
theorem madeB (n : Nat) : (madeCells #[Value.int .u8 0] n).toList = BV (List.replicate n 0) := by
  rw [toList_madeCells_one]
  simp [BV]
theorem conv_bytes (w : World) (s : ByteArray) : (convert 9 22 (.string s)).run Tryz.prog w = .ok (.slice (some ⟨w.heap.size, 0, none⟩) s.size (grownCap w s.size 0 5)) (Lib.bytesWorld w 5 s) :=
  Lib.run_convert_string_bytes w 9 22 5 s Tryz.underlying9 Tryz.underlying22 Tryz.underlying5
theorem bytes_rd (w : World) (s : ByteArray) (hs : s.size ≤ maxLen) : Rd (Lib.bytesWorld w 5 s) (.slice (some ⟨w.heap.size, 0, none⟩) s.size (grownCap w s.size 0 5)) s.data.toList := by
  have hl := size_length s
  refine ⟨_, _, by rw [hl], by rw [hl]; exact grownCap_ge w s.size 0 _, grownCap_le_maxLen w s.size 0 _ hs, .inr ⟨w.heap.size, 0, rfl, fun i hi => ?_⟩⟩
  rw [Nat.zero_add, Lib.bytesWorld_cell w _ s i (by omega)]
  simp [List.getD, List.getElem?_eq_getElem hi]
theorem bytes_below (w : World) (s : ByteArray) : Below w.heap.size w (Lib.bytesWorld w 5 s) :=
  ⟨rfl, rfl, rfl, by rw [Lib.bytesWorld_size]; omega, fun k hk => Lib.bytesWorld_at_old w _ s k hk⟩
theorem own_some {w : World} {B : Nat} {v : Value} {bs : List UInt8} (h : Own w B v bs) (hn : bs ≠ []) : ∃ g cap, v = .slice (some ⟨g, 0, none⟩) bs.length cap ∧ ∀ j u, (BV bs)[j]? = some u → w.cell? ((⟨g, 0, none⟩ : Addr).add j) = some u := by
  rcases h.2 with ⟨_, h0⟩ | ⟨g, cap, cur, hv, _⟩
  · exact absurd (List.length_eq_zero_iff.1 h0) hn
  · exact ⟨g, cap, hv, World.ownsRow.cells h (by rw [hv]; rfl)⟩
theorem BV_oneCell (bs : List UInt8) : ∀ u ∈ BV bs, u.oneCell' = true := by
  intro u hu
  obtain ⟨_, _, rfl⟩ := List.mem_map.1 hu
  rfl
theorem own_more {w1 : World} {B : Nat} {v' : Value} {ys zs : List UInt8} (h : w1.ownsRow B 5 1 v' (ys.length + zs.length) (BV ys ++ BV zs)) : Own w1 B v' (ys ++ zs) := by
  unfold Own
  rw [BV_append, List.length_append]
  exact h

open Go.RowKit
def stepD (h : Nat) (b : UInt8) : Nat := (h * 1000003 + b.toNat + 1) % 2147483647
def dig (h : Nat) (bs : List UInt8) : Nat := bs.foldl stepD h
theorem stepD_lt (h : Nat) (b : UInt8) : stepD h b < 2147483647 := Nat.mod_lt _ (by omega)
theorem dig_lt (bs : List UInt8) : ∀ h, h < 2147483647 → dig h bs < 2147483647 := by
  induction bs with
  | nil => intro h hh; exact hh
  | cons b bs ih => intro h _; exact ih _ (stepD_lt h b)
theorem dig_at (h k : Nat) (bs : List UInt8) (hk : k < bs.length) : dig h (bs.drop k) = dig (stepD h bs[k]) (bs.drop (k + 1)) := by
  rw [List.drop_eq_getElem_cons hk]; rfl
theorem dig_end (h k : Nat) (bs : List UInt8) (hk : bs.length ≤ k) : dig h (bs.drop k) = h := by
  rw [List.drop_eq_nil_of_le hk]; rfl
theorem ret_int {k : IntKind} {a b : Int} (h : a = b) : Ending.returned (.int k a) = .returned (.int k b) := by rw [h]
theorem wrap_in (n : Int) (h : -9223372036854775808 ≤ n ∧ n ≤ 9223372036854775807) : wrap64 n = n := by unfold wrap64; omega
theorem round_num (m : Nat) (b : UInt8) (hm : m < 2147483647) : (wrap64 (wrap64 ((m : Int) * 1000003 + wrap64 (b.toNat : Int)) + 1)).tmod 2147483647 = (stepD m b : Int) := by
  have hb := UInt8.toNat_lt b
  rw [wrap_in (b.toNat : Int) (by omega), wrap_in ((m : Int) * 1000003 + (b.toNat : Int)) (by omega), wrap_in _ (by omega), Int.tmod_eq_emod_of_nonneg (by omega)]
  unfold stepD
  omega

theorem specDigest_any (s : ByteArray) (w : World) (hs : s.size ≤ 1099511627776) :
    Calls Tryz.prog 38 #[.string s] w fun e w' => e = .returned (.int .i64 (dig 1 s.data.toList : Int)) ∧ w' = w := by
  have hsz := size_length s
  obtain ⟨R, hR⟩ : ∃ R, R = dig 1 s.data.toList := ⟨_, rfl⟩
  rw [← hR]
  go_enter Tryz.func38, Tryz.ntmps38
  go_wp2
  go_loop [3, 4] (fun h i => ∃ k m : Nat, k ≤ s.size ∧ i = .int .i64 k ∧ h = .int .i64 m ∧ m < 2147483647 ∧ Hid (R = dig m (s.data.toList.drop k))) (fun _ i => s.size - (intOf i).toNat)
  case atStart => exact ⟨0, 1, by omega, rfl, rfl, by omega, hR⟩
  case round =>
    obtain ⟨k, m, hk, rfl, rfl, hm, HR⟩ := hrel
    clear hR
    by_cases hlt : k < s.size
    · go_wp2
      go_round
      case rel =>
        have hb : s[k] = s.data.toList[k]'(by omega) := rfl
        refine ⟨k + 1, stepD m s[k], by omega, by go_num, by rw [round_num _ _ hm], stepD_lt _ _, ?_⟩
        show R = _
        rw [HR.out, dig_at _ _ _ (by omega), hb]
      case measure => simp [intOf]; omega
    · go_wp2
      go_ret
      exact ⟨ret_int (by rw [HR.out, dig_end _ _ _ (by omega)]), rfl⟩
theorem withByte_any (m : Nat) (b : UInt8) (w : World) (hm : m < 2147483647) :
    Calls Tryz.prog 76 #[.int .i64 m, .int .u8 (b.toNat : Int)] w fun e w' => e = .returned (.int .i64 (stepD m b : Int)) ∧ w' = w := by
  have hr := round_num m b hm
  go_enter Tryz.func76, Tryz.ntmps76
  go_wp2
  go_ret
  exact ⟨rfl, rfl⟩
theorem withEachByte_any (m : Nat) (v : Value) (bs : List UInt8) (w : World) (hm : m < 2147483647) (hr : Rd w v bs) :
    Calls Tryz.prog 75 #[.int .i64 m, .func (.func 76) #[] #[], v] w fun e w' => e = .returned (.int .i64 (dig m bs : Int)) ∧ w' = w := by
  obtain ⟨a, cap, rfl, hl, hc, hA⟩ := hr
  unfold maxLen at hc
  obtain ⟨R, hR⟩ : ∃ R, R = dig m bs := ⟨_, rfl⟩
  rw [← hR]
  go_enter Tryz.func75, Tryz.ntmps75
  go_wp2
  go_loop [0, 8, 11] (fun h _ i => ∃ k m' : Nat, k ≤ bs.length ∧ i = .int .i64 k ∧ h = .int .i64 m' ∧ m' < 2147483647 ∧ Hid (R = dig m' (bs.drop k))) (fun _ _ i => bs.length - (intOf i).toNat)
  case atStart => exact ⟨0, m, by omega, rfl, rfl, hm, hR⟩
  case round =>
    obtain ⟨k, m', hk, rfl, rfl, hm', HR⟩ := hrel
    clear hR
    by_cases hlt : k < bs.length
    · obtain ⟨b0, off, ha, hcell⟩ : ∃ b0 off, a = some ⟨b0, off, none⟩ ∧ w.cell? ⟨b0, off + k, none⟩ = some (.int .u8 (bs[k].toNat : Int)) := by
        rcases hA with h | ⟨b, off, ha, hc⟩
        · subst h; simp at hlt
        · exact ⟨b, off, ha, hc k hlt⟩
      rw [ha]
      clear hA ha
      go_wp2_with fail
      refine (withByte_any m' bs[k] _ hm').mono ?_
      rintro e w1 ⟨rfl, rfl⟩
      have hlt2 := stepD_lt m' bs[k]
      have HN : Hid (R = dig (stepD m' bs[k]) (bs.drop (k + 1))) := by
        show R = _
        rw [HR.out, dig_at _ _ _ hlt]
      go_wp2
      go_round
      case rel => exact ⟨k + 1, stepD m' bs[k], by omega, by go_num, rfl, hlt2, HN⟩
      case measure => simp [intOf]; omega
    · go_wp2
      go_ret
      exact ⟨ret_int (by rw [HR.out, dig_end _ _ _ (by omega)]), rfl⟩
theorem withText_any (m : Nat) (s : ByteArray) (w : World) (hm : m < 2147483647) (hs : s.size ≤ 1099511627776) :
    Calls Tryz.prog 60 #[.int .i64 m, .string s] w fun e w' => e = .returned (.int .i64 (dig m s.data.toList : Int)) ∧ Below w.heap.size w w' := by
  have hcv := conv_bytes w s
  have hrd := bytes_rd w s (by unfold maxLen; omega)
  have hbl := bytes_below w s
  generalize Lib.bytesWorld w 5 s = W at hcv hrd hbl
  generalize grownCap w s.size 0 5 = c0 at hcv hrd
  go_enter Tryz.func60, Tryz.ntmps60
  go_wp2_with fail
  refine (withEachByte_any m _ _ _ hm hrd).mono ?_
  rintro e w1 ⟨rfl, rfl⟩
  go_wp2
  go_ret
  exact ⟨rfl, hbl⟩
theorem implDigest_any (s : ByteArray) (w : World) (hs : s.size ≤ 1099511627776) :
    Calls Tryz.prog 36 #[.string s] w fun e w' => e = .returned (.int .i64 (dig 1 s.data.toList : Int)) ∧ Below w.heap.size w w' := by
  go_enter Tryz.func36, Tryz.ntmps36
  go_wp2_with fail
  refine (withText_any 1 s _ (by omega) hs).mono ?_
  rintro e w1 ⟨rfl, hb⟩
  go_wp2
  go_ret
  exact ⟨rfl, hb⟩
open Go.RowKit
theorem ret_bool {a b : Bool} (h : a = b) : Ending.returned (.bool a) = .returned (.bool b) := by rw [h]
open Go.RowKit
def itoaS (n : Int) : ByteArray := ⟨(Lib.itoa n).toArray⟩
def left (u : Nat) : List UInt8 := if u = 0 then [] else Lib.decDigits u
theorem dec_left (u : Nat) : Lib.decDigits u = left (u / 10) ++ [UInt8.ofNat (48 + u % 10)] := by
  unfold left
  by_cases h : u < 10
  · rw [if_pos (by omega), Lib.decDigits, dif_pos h, Nat.mod_eq_of_lt h]; rfl
  · rw [if_neg (by omega), Lib.decDigits, dif_neg h]
def sizeV : Value → Nat
  | .string s => s.size
  | _ => 0
theorem left_step (u : Nat) (h : 0 < u) : left u = left (u / 10) ++ [UInt8.ofNat (48 + u % 10)] := by
  rw [← dec_left, left, if_neg (by omega)]
theorem dec_len (n : Nat) (h : n ≤ 9223372036854775808) : (Lib.decDigits n).length ≤ 21 := by
  by_cases h0 : n = 0
  · subst h0; rw [Lib.decDigits_length, Lib.nDigits_small (by omega)]; omega
  · have := Lib.itoa_length_le (-(n : Int)) (by omega) (by omega)
    rw [Lib.itoa_neg n (by omega), List.length_cons] at this
    omega
def todo (u : Nat) (ys : List UInt8) : List UInt8 := if ys = [] then Lib.decDigits u else left u ++ ys
theorem todo_step (u : Nat) (ys : List UInt8) (h : ys = [] ∨ 0 < u) : todo u ys = left (u / 10) ++ (UInt8.ofNat (48 + u % 10) :: ys) := by
  unfold todo
  by_cases hy : ys = []
  · rw [if_pos hy, dec_left, hy]
  · rw [if_neg hy, left_step u (by rcases h with h | h; exact absurd h hy; exact h), List.append_assoc]; rfl
theorem todo_len (u : Nat) (ys : List UInt8) : ys.length ≤ (todo u ys).length := by
  unfold todo
  by_cases hy : ys = []
  · rw [if_pos hy, hy]; simp
  · rw [if_neg hy, List.length_append]; omega
theorem l2Int_pos (n : Nat) (w : World) (h1 : n ≤ 9223372036854775807) :
    Calls Tryz.prog 37 #[.int .i64 n] w fun e w' => e = .returned (.string ⟨(Lib.decDigits n).toArray⟩) ∧ Below w.heap.size w w' := by
  have hL := dec_len n (by omega)
  generalize hR : Lib.decDigits n = R at hL
  have HR : Hid (Lib.decDigits n = R) := hR
  clear hR
  go_enter Tryz.func37, Tryz.ntmps37
  go_wp2
  go_loopw [0, 3, 5] (fun nn v _ wr => ∃ (u : Nat) (ys : List UInt8), nn = .int .i64 u ∧ u ≤ 9223372036854775807 ∧ v = .string ⟨ys.toArray⟩ ∧ Hid (todo u ys = R) ∧ Below w.heap.size w wr) (fun nn v _ _ => 2 * (intOf nn).toNat + (1 - sizeV v))
  case atStart => exact ⟨n, [], rfl, h1, rfl, HR.out, Below.refl _ _⟩
  case round =>
    obtain ⟨u, ys, rfl, hu, rfl, he, hb⟩ := hrel
    have hs := hb.size
    have hyl := todo_len u ys
    rw [he.out] at hyl
    have hcv := conv_one wr (UInt8.ofNat (48 + u % 10)) (48 + (u : Int) % 10) (dig_toNat u)
    by_cases hgo : ys = [] ∨ 0 < u
    · have hstep := todo_step u ys hgo
      generalize hd : UInt8.ofNat (48 + u % 10) = d at hcv hstep
      have hadd : ∀ w', (Op.stringOp .add ⟨#[d]⟩ ⟨ys.toArray⟩).run Tryz.prog w' = .ok (.string ⟨(d :: ys).toArray⟩) w' := fun w' => run_string_add_lists w' [d] ys (by simp) (by omega)
      have HE : Hid (todo (u / 10) (d :: ys) = R) := by
        show _ = _
        rw [← he.out, hstep]
        unfold todo
        rw [if_neg (by simp)]
      have R2 : Below w.heap.size w (wr.alloc (.cells #[.int .u8 (48 + (u : Int) % 10)] 5)) := hb.alloc hs _
      clear hd he hb hstep HR hL hyl
      by_cases hy : ys = []
      · subst hy
        go_wp2
        go_roundw
        case rel => exact ⟨u / 10, [d], by go_num, by omega, rfl, HE, R2⟩
        case measure => simp [intOf, sizeV, ByteArray.size]; omega
      · have hie : ys.isEmpty = false := by simpa using hy
        have hu0 : ((u : Int) != 0) = true := by simp; rcases hgo with h | h; exact absurd h hy; omega
        have hu1 : 0 < u := by rcases hgo with h | h; exact absurd h hy; exact h
        clear hgo
        go_wp2
        go_roundw
        case rel => exact ⟨u / 10, d :: ys, by go_num, by omega, by simp, HE, R2⟩
        case measure => simp [intOf, sizeV, ByteArray.size]; omega
    · have hy : ys ≠ [] := fun h => hgo (.inl h)
      have hu1 : u = 0 := by omega
      subst hu1
      have hie : ys.isEmpty = false := by simpa using hy
      have hu0 : (((0 : Nat) : Int) != 0) = false := by simp
      have HE : Hid (ys = R) := by
        show _ = _
        rw [← he.out]
        unfold todo left
        rw [if_neg hy]; simp
      clear he hgo hcv
      go_wp2
      go_ret
      exact ⟨by rw [HE.out]; rfl, hb⟩
theorem l2Int_neg (n : Nat) (w : World) (h0 : 0 < n) (h1 : n ≤ 9223372036854775808) :
    Calls Tryz.prog 37 #[.int .i64 (-(n : Int))] w fun e w' => e = .returned (.string ⟨(45 :: Lib.decDigits n).toArray⟩) ∧ Below w.heap.size w w' := by
  have hL := dec_len n (by omega)
  generalize hR : Lib.decDigits n = R at hL
  have HR : Hid (Lib.decDigits n = R) := hR
  clear hR
  go_enter Tryz.func37, Tryz.ntmps37
  go_wp2
  go_loopw [0, 3, 5] (fun nn v _ wr => ∃ (u : Nat) (ys : List UInt8), nn = .int .i64 (-(u : Int)) ∧ u ≤ 9223372036854775808 ∧ v = .string ⟨ys.toArray⟩ ∧ Hid (todo u ys = R) ∧ Below w.heap.size w wr) (fun nn v _ _ => 2 * (intOf nn).natAbs + (1 - sizeV v))
  case atStart => exact ⟨n, [], rfl, h1, rfl, HR.out, Below.refl _ _⟩
  case round =>
    obtain ⟨u, ys, rfl, hu, rfl, he, hb⟩ := hrel
    have hs := hb.size
    have hyl := todo_len u ys
    rw [he.out] at hyl
    obtain ⟨x, hx, hxz⟩ : ∃ x : Int, ((UInt8.ofNat (48 + u % 10)).toNat : Int) = x ∧ x = (if 0 < (u : Int) % 10 then 48 + (u : Int) % 10 else 48 + -((u : Int) % 10)) := by
      refine ⟨_, rfl, ?_⟩
      rw [dig_toNat]
      split <;> omega
    have hcv := conv_one wr (UInt8.ofNat (48 + u % 10)) x hx
    by_cases hgo : ys = [] ∨ 0 < u
    · have hstep := todo_step u ys hgo
      generalize hd : UInt8.ofNat (48 + u % 10) = d at hcv hstep
      have hadd : ∀ w', (Op.stringOp .add ⟨#[d]⟩ ⟨ys.toArray⟩).run Tryz.prog w' = .ok (.string ⟨(d :: ys).toArray⟩) w' := fun w' => run_string_add_lists w' [d] ys (by simp) (by omega)
      have HE : Hid (todo (u / 10) (d :: ys) = R) := by
        show _ = _
        rw [← he.out, hstep]
        unfold todo
        rw [if_neg (by simp)]
      have R2 : Below w.heap.size w (wr.alloc (.cells #[.int .u8 x] 5)) := hb.alloc hs _
      clear hd he hb hstep HR hL hyl hx
      by_cases hz : 0 < (u : Int) % 10
      · rw [if_pos hz] at hxz
        subst hxz
        by_cases hy : ys = []
        · subst hy
          go_wp2
          go_roundw
          case rel => exact ⟨u / 10, [d], by go_num, by omega, rfl, HE, R2⟩
          case measure => simp [intOf, sizeV, ByteArray.size]; omega
        · have hie : ys.isEmpty = false := by simpa using hy
          have hu0 : ((-(u : Int)) != 0) = true := by simp; rcases hgo with h | h; exact absurd h hy; omega
          have hu1 : 0 < u := by rcases hgo with h | h; exact absurd h hy; exact h
          clear hgo
          go_wp2
          go_roundw
          case rel => exact ⟨u / 10, d :: ys, by go_num, by omega, by simp, HE, R2⟩
          case measure => simp [intOf, sizeV, ByteArray.size]; omega
      · rw [if_neg hz] at hxz
        subst hxz
        by_cases hy : ys = []
        · subst hy
          go_wp2
          go_roundw
          case rel => exact ⟨u / 10, [d], by go_num, by omega, rfl, HE, R2⟩
          case measure => simp [intOf, sizeV, ByteArray.size]; omega
        · have hie : ys.isEmpty = false := by simpa using hy
          have hu0 : ((-(u : Int)) != 0) = true := by simp; rcases hgo with h | h; exact absurd h hy; omega
          have hu1 : 0 < u := by rcases hgo with h | h; exact absurd h hy; exact h
          clear hgo
          go_wp2
          go_roundw
          case rel => exact ⟨u / 10, d :: ys, by go_num, by omega, by simp, HE, R2⟩
          case measure => simp [intOf, sizeV, ByteArray.size]; omega
    · have hy : ys ≠ [] := fun h => hgo (.inl h)
      have hu1 : u = 0 := by omega
      subst hu1
      have hie : ys.isEmpty = false := by simpa using hy
      have hu0 : ((-((0 : Nat) : Int)) != 0) = false := by simp
      have hadd : ∀ w', (Op.stringOp .add ⟨#[45]⟩ ⟨ys.toArray⟩).run Tryz.prog w' = .ok (.string ⟨((45 : UInt8) :: ys).toArray⟩) w' := fun w' => run_string_add_lists w' [45] ys (by simp) (by omega)
      have HE : Hid (ys = R) := by
        show _ = _
        rw [← he.out]
        unfold todo left
        rw [if_neg hy]; simp
      clear he hgo hcv hx hxz
      go_wp2
      go_ret
      exact ⟨by rw [HE.out]; rfl, hb⟩
theorem l2Int_any (n : Int) (w : World) (h0 : -9223372036854775808 ≤ n) (h1 : n ≤ 9223372036854775807) :
    Calls Tryz.prog 37 #[.int .i64 n] w fun e w' => e = .returned (.string (itoaS n)) ∧ Below w.heap.size w w' := by
  by_cases hn : n < 0
  · obtain ⟨u, rfl⟩ : ∃ u : Nat, n = -(u : Int) := ⟨n.natAbs, by omega⟩
    refine (l2Int_neg u w (by omega) (by omega)).mono ?_
    rintro e w' ⟨rfl, hb⟩
    exact ⟨by unfold itoaS; rw [Lib.itoa_neg u (by omega)], hb⟩
  · obtain ⟨u, rfl⟩ := Int.eq_ofNat_of_zero_le (show 0 ≤ n by omega)
    refine (l2Int_pos u w (by omega)).mono ?_
    rintro e w' ⟨rfl, hb⟩
    exact ⟨by unfold itoaS; rw [Lib.itoa_nonneg], hb⟩
open Go.RowKit
abbrev Tab (w : World) : Prop := Lib.TabIs Tryz.prog w "internal/strconv.uint64pow10" .u64 Lib.pow10Tab
theorem Tab.on {w w' : World} (h : Tab w) (hb : Below w.heap.size w w') : Tab w' := Lib.tabBelow_of_tabIs h w' hb
theorem fmt_any (n : Int) (w : World) (h0 : -9223372036854775808 ≤ n) (h1 : n ≤ 9223372036854775807) (ht : Tab w) :
    Calls Tryz.prog 35 #[.int .i64 n, .int .i64 10] w fun e w' => e = .returned (.string (itoaS n)) ∧ Below w.heap.size w w' := by
  refine (Tryz.strconv_FormatInt_10 n h0 h1 w ht).mono ?_
  rintro e w' ⟨rfl, k, os, rfl⟩
  exact ⟨rfl, Lib.below_grow _ w (Nat.le_refl _) k os⟩
open Go.RowKit
theorem Tryz.info9 : (Tryz.prog.info? 9).map (fun i => (i.zero, i.size, i.bytes)) = some (some (.string ⟨#[]⟩), 1, 16) := by kernel_rfl
def SV (ss : List ByteArray) : List Value := ss.map Value.string
theorem SV_length (ss : List ByteArray) : (SV ss).length = ss.length := by simp [SV]
theorem SV_append (a b : List ByteArray) : SV (a ++ b) = SV a ++ SV b := by simp [SV]
theorem SV_get (ss : List ByteArray) (i : Nat) (h : i < ss.length) : (SV ss)[i]? = some (.string ss[i]) := by simp [SV, h]
theorem SV_set (ss : List ByteArray) (i : Nat) (s : ByteArray) : SV (ss.set i s) = (SV ss).set i (.string s) := by simp [SV, List.map_set]
def OwnS (w : World) (base : Nat) (v : Value) (ss : List ByteArray) : Prop := w.ownsRow base 9 1 v ss.length (SV ss)
def RdS (w : World) (v : Value) (ss : List ByteArray) : Prop :=
  ∃ a cap, v = .slice a ss.length cap ∧ ss.length ≤ cap ∧ cap ≤ maxLen ∧
    (ss = [] ∨ ∃ b off, a = some ⟨b, off, none⟩ ∧ ∀ i (h : i < ss.length), w.cell? ⟨b, off + i, none⟩ = some (.string ss[i]))
theorem OwnS.rd {w : World} {base : Nat} {v : Value} {ss : List ByteArray} (h : OwnS w base v ss) : RdS w v ss := by
  have h' := h
  rcases h.2 with ⟨rfl, h0⟩ | ⟨g, cap, cur, rfl, hb, hg, hn, hc, hs, ht⟩
  · have : ss = [] := List.length_eq_zero_iff.1 h0
    subst this
    exact ⟨none, 0, rfl, Nat.le_refl _, Nat.zero_le _, .inl rfl⟩
  · refine ⟨some ⟨g, 0, none⟩, cap, rfl, hn, hc, .inr ⟨g, 0, rfl, fun i hi => ?_⟩⟩
    have := h'.cellAt i (by omega)
    rw [SV_get ss i hi] at this
    simpa using this
theorem OwnS.below {w w' : World} {base : Nat} {v : Value} {ss : List ByteArray} (h : OwnS w base v ss) (hb : Below w.heap.size w w') : OwnS w' base v ss := own_below h hb
theorem OwnS.drewN {w : World} {base : Nat} {v : Value} {ss : List ByteArray} (h : OwnS w base v ss) (q : Nat) : OwnS (w.drewN q) base v ss := h
theorem OwnS.mono {w : World} {base base' : Nat} {v : Value} {ss : List ByteArray} (h : OwnS w base v ss) (hb : base' ≤ base) : OwnS w base' v ss := by
  refine ⟨h.1, ?_⟩
  rcases h.2 with h2 | ⟨g, cap, cur, hv, hg, r⟩
  · exact .inl h2
  · exact .inr ⟨g, cap, cur, hv, Nat.le_trans hb hg, r⟩
theorem RdS.below {w w' : World} {v : Value} {ss : List ByteArray} (h : RdS w v ss) (hb : Below w.heap.size w w') : RdS w' v ss := by
  obtain ⟨a, cap, hv, h1, h2, h3⟩ := h
  refine ⟨a, cap, hv, h1, h2, ?_⟩
  rcases h3 with h3 | ⟨b, off, ha, hc⟩
  · exact .inl h3
  · exact .inr ⟨b, off, ha, fun i hi => by rw [hb.cell (World.block_lt_of_cell? w _ (hc i hi))]; exact hc i hi⟩
theorem RdS.drewN {w : World} {v : Value} {ss : List ByteArray} (h : RdS w v ss) (q : Nat) : RdS (w.drewN q) v ss := h
theorem ownS_none (w : World) : OwnS (w.alloc (.cells #[] 9)) w.heap.size (.slice (some ⟨w.heap.size, 0, none⟩) 0 0) [] := World.ownsRow_lit w #[] 0 (Nat.le_refl _) (Nat.zero_le _) rfl
theorem ownS_push {w1 : World} {B : Nat} {v' : Value} {ys : List ByteArray} {x : ByteArray} (h : w1.ownsRow B 9 1 v' (ys.length + 1) (SV ys ++ [.string x])) : OwnS w1 B v' (ys ++ [x]) := by
  have e : SV (ys ++ [x]) = SV ys ++ [.string x] := by simp [SV]
  unfold OwnS
  rw [e, List.length_append]
  exact h
theorem pushS_below {w wr w1 : World} {B B' : Nat} {v : Value} {o : Obj} {ys : List ByteArray} (hown : OwnS wr B' v ys) (hBB : B ≤ B') (hb : Below B w wr) (hB : B ≤ wr.heap.size) (hg : (wr.alloc o).grownBy w1 v.ownBlock) : Below B w w1 :=
  (hb.alloc hB o).grown hg (by simp; omega) (fun k hk => Nat.le_trans hBB (World.ownsRow.lt hown k hk).1)
theorem row_kept {w w' : World} {B : Nat} {e : TypeId} {s : Nat} {v : Value} {n : Nat} {xs : List Value} {row : Option Nat} (h : w.ownsRow B e s v n xs) (hg : w.grownBy w' row) (hd : ∀ k, v.ownBlock = some k → row ≠ some k) : w'.ownsRow B e s v n xs := by
  refine World.ownsRow.kept h hg ?_
  cases hu : v.ownBlock with
  | none => exact .inl rfl
  | some k => exact .inr fun e => hd k hu e.symm
open Go.RowKit
theorem itoaS_size (n : Int) (h0 : -9223372036854775808 ≤ n) (h1 : n ≤ 9223372036854775807) : (itoaS n).size ≤ 21 := by
  have := Lib.itoa_length_le n h0 h1
  show (Lib.itoa n).toArray.size ≤ 21
  simpa using this
theorem dig_lt' (h : Nat) (bs : List UInt8) (hh : h < 2147483647) : dig h bs < 2147483647 := dig_lt bs h hh
theorem app_toList (a b : ByteArray) : (a ++ b).data.toList = a.data.toList ++ b.data.toList := by simp [ByteArray.data_append]
theorem app_size (a b : ByteArray) : (a ++ b).size = a.size + b.size := ByteArray.size_append
open Go.RowKit
abbrev blankB : ByteArray := ⟨#[32]⟩
theorem inS_any (x lo hi : Int) (w : World) : Calls Tryz.prog 57 #[.int .i64 x, .int .i64 lo, .int .i64 hi] w fun e w' => e = .returned (.bool (decide (lo ≤ x) && decide (x ≤ hi))) ∧ w' = w := by
  go_enter Tryz.func57, Tryz.ntmps57
  by_cases h : lo ≤ x
  · have h1 : decide (lo ≤ x) = true := by simp [h]
    go_wp2
    go_ret
    exact ⟨by rw [h1]; rfl, rfl⟩
  · have h1 : decide (lo ≤ x) = false := by simp [h]
    go_wp2
    go_ret
    exact ⟨rfl, rfl⟩
open Go.RowKit
def isDig (b : UInt8) : Prop := 48 ≤ b.toNat ∧ b.toNat ≤ 57
theorem dig_byte (k : Nat) (h : k < 10) : (UInt8.ofNat (48 + k)).toNat = 48 + k := by rw [UInt8.toNat_ofNat']; omega
theorem dec_digs : ∀ (n u : Nat), u ≤ n → ∀ b ∈ Lib.decDigits u, isDig b
  | 0, u, hu, b, hb => by
    have : u = 0 := by omega
    subst this
    rw [dec_left] at hb
    have e : left (0 / 10) = [] := rfl
    rw [e, List.nil_append, List.mem_singleton] at hb
    subst hb
    unfold isDig
    rw [dig_byte _ (by omega)]; omega
  | n + 1, u, hu, b, hb => by
    rw [dec_left] at hb
    rcases List.mem_append.1 hb with h | h
    · unfold left at h
      split at h
      · cases h
      · exact dec_digs n (u / 10) (by omega) b h
    · rw [List.mem_singleton] at h
      subst h
      unfold isDig
      rw [dig_byte _ (Nat.mod_lt _ (by omega))]; omega
def valD (acc : Nat) (l : List UInt8) : Nat := l.foldl (fun a b => a * 10 + (b.toNat - 48)) acc
theorem valD_append (a : Nat) (x y : List UInt8) : valD a (x ++ y) = valD (valD a x) y := List.foldl_append
theorem valD_ge : ∀ (l : List UInt8) (a : Nat), a ≤ valD a l
  | [], a => Nat.le_refl _
  | b :: l, a => Nat.le_trans (by omega : a ≤ a * 10 + (b.toNat - 48)) (valD_ge l _)
theorem dec_val : ∀ (n u : Nat), u ≤ n → valD 0 (Lib.decDigits u) = u
  | 0, u, hu => by
    have : u = 0 := by omega
    subst this
    rw [dec_left]
    rfl
  | n + 1, u, hu => by
    rw [dec_left, valD_append]
    have e : valD 0 (left (u / 10)) = u / 10 := by
      unfold left
      split
      · rename_i h; rw [h]; rfl
      · exact dec_val n (u / 10) (by omega)
    rw [e]
    show u / 10 * 10 + ((UInt8.ofNat (48 + u % 10)).toNat - 48) = u
    rw [dig_byte _ (Nat.mod_lt _ (by omega))]
    omega
theorem dec_head : ∀ (n u : Nat), u ≤ n → 1 ≤ u → ∃ c r, Lib.decDigits u = c :: r ∧ 49 ≤ c.toNat ∧ c.toNat ≤ 57
  | 0, u, hu, h1 => by omega
  | n + 1, u, hu, h1 => by
    rw [dec_left]
    by_cases h : u / 10 = 0
    · have e : left (u / 10) = [] := by unfold left; rw [if_pos h]
      rw [e]
      refine ⟨_, [], rfl, ?_, ?_⟩ <;> rw [dig_byte _ (Nat.mod_lt _ (by omega))] <;> omega
    · have e : left (u / 10) = Lib.decDigits (u / 10) := by unfold left; rw [if_neg h]
      obtain ⟨c, r, e2, h3, h4⟩ := dec_head n (u / 10) (by omega) (by omega)
      rw [e, e2]
      exact ⟨c, r ++ [UInt8.ofNat (48 + u % 10)], rfl, h3, h4⟩
theorem itoa_pos (g : Int) (h : 1 ≤ g) : Lib.itoa g = Lib.decDigits g.toNat := by unfold Lib.itoa; rw [if_neg (by omega)]
def wordsL : List UInt8 → List (List UInt8)
  | [] => [[]]
  | c :: r => if c = 32 then [] :: wordsL r else match wordsL r with | h :: t => (c :: h) :: t | [] => [[c]]
theorem words_ne (l : List UInt8) : wordsL l ≠ [] := by
  cases l with
  | nil => simp [wordsL]
  | cons c r =>
    unfold wordsL
    split
    · simp
    · split <;> simp
theorem words_app : ∀ (a r : List UInt8), 32 ∉ a → wordsL (a ++ 32 :: r) = a :: wordsL r
  | [], r, _ => by show wordsL (32 :: r) = _; rw [wordsL, if_pos rfl]
  | c :: a, r, h => by
    have h1 : c ≠ 32 := fun e => h (e ▸ List.mem_cons_self ..)
    have h2 : (32 : UInt8) ∉ a := fun e => h (List.mem_cons_of_mem _ e)
    show wordsL (c :: (a ++ 32 :: r)) = _
    rw [wordsL, if_neg h1, words_app a r h2]
theorem words_one : ∀ (a : List UInt8), 32 ∉ a → wordsL a = [a]
  | [], _ => rfl
  | c :: a, h => by
    have h1 : c ≠ 32 := fun e => h (e ▸ List.mem_cons_self ..)
    have h2 : (32 : UInt8) ∉ a := fun e => h (List.mem_cons_of_mem _ e)
    rw [wordsL, if_neg h1, words_one a h2]
end Go.Proofs.YtpbbahpndgigjaaGreatDoor
