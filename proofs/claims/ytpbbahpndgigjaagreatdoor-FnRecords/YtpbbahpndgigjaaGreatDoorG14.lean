/- The law of records' own helpers: big, pick, likeTexts, likeWrites, and the draw of a record's text. The contract of the model's l10Record: the record with which a disk begins. A scope in which the run jumps to any of its labels: what holds at each label, and a measure that every pass from a label to a label lowers. The contract of the program's firstRecord, whose states are labels. -/
import Derived.Test.YtpbbahpndgigjaaGreatDoorG13
import Derived.Deep.RegionWith
import Derived.BigQuiet
import Derived.ScopeJumps
import Derived.WalkMore
namespace Go.Proofs.YtpbbahpndgigjaaGreatDoor
set_option maxHeartbeats 16000000
set_option maxRecDepth 100000
open Go.RowKit
theorem bigR_any (v : Value) (bs : List UInt8) (w : World) (hr : Rd w v bs) :
    Calls Tryz.prog 4 #[v] w fun e w' => e = .returned (.bool (decide (4096 < (bs.length : Int)))) ∧ w' = w := by
  obtain ⟨a, cap, rfl, hl, hm, _⟩ := hr
  unfold maxLen at hm
  go_enter Tryz.func4, Tryz.ntmps4
  go_wp2
  go_ret
  exact ⟨rfl, rfl⟩
def PickR (w : World) (n : Int) (e : Ending) (w' : World) : Prop := w' = w ∧ ∃ x : Int, e = .returned (.int .i64 x) ∧ 0 ≤ x ∧ x < n
theorem pickR_any (v : Value) (bs : List UInt8) (n : Int) (w : World) (hr : Rd w v bs) (hb : bs.length ≤ 4096) (hn : 0 < n) (hn2 : n ≤ 1099511627776) :
    Calls Tryz.prog 19 #[v, .int .i64 1, .int .i64 n] w fun e w' => PickR w n e w' := by
  obtain ⟨a, cap, rfl, hl, hm, hA⟩ := hr
  unfold maxLen at hm
  go_enter Tryz.func19, Tryz.ntmps19
  go_wp2
  go_loop [7, 8] (fun kk ii => ∃ (k : Nat) (y : Int), k ≤ bs.length ∧ ii = .int .i64 k ∧ kk = .int .i64 y ∧ 0 ≤ y ∧ y ≤ 1000003) (fun _ ii => bs.length - (intOf ii).toNat)
  case atStart => exact ⟨0, _, Nat.zero_le _, rfl, rfl, by omega, by omega⟩
  case round =>
    obtain ⟨k, y, hk, rfl, rfl, hy0, hy1⟩ := hrel
    by_cases hlt : k < bs.length
    · obtain ⟨b, off, ha, hc⟩ : ∃ b off, a = some ⟨b, off, none⟩ ∧ w.cell? ⟨b, off + k, none⟩ = some (.int .u8 (bs[k].toNat : Int)) := by
        rcases hA with h | ⟨b, off, ha, hc⟩
        · subst h; simp at hlt
        · exact ⟨b, off, ha, hc k hlt⟩
      rw [ha]
      obtain ⟨d, hd⟩ : ∃ d : Nat, d = bs[k].toNat := ⟨_, rfl⟩
      have hd8 : d < 256 := by rw [hd]; exact UInt8.toNat_lt _
      rw [← hd] at hc
      clear hA hd
      go_wp2
      go_round
      case rel => exact ⟨k + 1, _, by omega, by go_num, rfl, by omega, by omega⟩
      case measure => simp [intOf]; omega
    · clear hA
      have hm0 := Int.emod_nonneg y (show n ≠ 0 by omega)
      have hm1 := Int.emod_lt_of_pos y hn
      go_wp2
      go_ret
      exact ⟨rfl, _, rfl, hm0, hm1⟩
theorem likeTextsR_same (va vb : Value) (bs : List ByteArray) (w : World) (ha : RdS w va bs) (hb : RdS w vb bs) :
    Calls Tryz.prog 13 #[va, vb] w fun e w' => e = .returned (.bool true) ∧ ∃ q, w' = w.drewN q := by
  obtain ⟨aa, ca, rfl, hla, hma, hA⟩ := ha
  obtain ⟨ab, cb, rfl, hlb, hmb, hB⟩ := hb
  unfold maxLen at hma hmb
  have hne : ((bs.length : Int) != (bs.length : Int)) = false := by simp
  rcases hA with rfl | ⟨ba, offa, rfl, hA⟩
  · go_enter Tryz.func13, Tryz.ntmps13
    go_wp2
    refine wp_loop_rounds 1 ?_
    rw [rounds_succ]
    go_wp2
    go_ret
    exact ⟨rfl, 0, rfl⟩
  · rcases hB with rfl | ⟨bb, offb, rfl, hB⟩
    · go_enter Tryz.func13, Tryz.ntmps13
      go_wp2
      refine wp_loop_rounds 1 ?_
      rw [rounds_succ]
      go_wp2
      go_ret
      exact ⟨rfl, 0, rfl⟩
    · go_enter Tryz.func13, Tryz.ntmps13
      go_wp2
      go_loopw [5] (fun i wr => ∃ k : Nat, k ≤ bs.length ∧ i = .int .i64 k ∧ ∃ q, wr = w.drewN q) (fun i _ => bs.length - (intOf i).toNat)
      case atStart => exact ⟨0, Nat.zero_le _, rfl, 0, rfl⟩
      case round =>
        obtain ⟨k, hk, rfl, q, rfl⟩ := hrel
        by_cases hlt : k < bs.length
        · have h1 := hA k hlt
          have h2 := hB k hlt
          clear hA hB
          go_wp2
          go_quiet (fail)
          go_wp2
          go_roundw
          case rel => exact ⟨k + 1, by omega, by go_num, _, rfl⟩
          case measure => simp [intOf]; omega
        · go_wp2
          go_ret
          exact ⟨rfl, q, rfl⟩
theorem likeWris_same (va vb : Value) (es : List Wri) (w : World) (ha : RdW w va es) (hb : RdW w vb es) :
    Calls Tryz.prog 18 #[va, vb] w fun e w' => e = .returned (.bool true) ∧ ∃ n, w' = w.drewN n := by
  obtain ⟨aa, ca, hva, hla, hma, _⟩ := id ha
  obtain ⟨ab, cb, hvb, hlb, hmb, _⟩ := id hb
  subst hva
  subst hvb
  unfold maxLen at hma hmb
  have hne : ((es.length : Int) != (es.length : Int)) = false := by simp
  go_enter Tryz.func18, Tryz.ntmps18
  go_wp2
  go_loopw [5] (fun i wr => ∃ k : Nat, k ≤ es.length ∧ i = .int .i64 k ∧ ∃ n, wr = w.drewN n) (fun i _ => es.length - (intOf i).toNat)
  case atStart => exact ⟨0, Nat.zero_le _, rfl, 0, rfl⟩
  case round =>
    obtain ⟨k, hk, rfl, n, rfl⟩ := hrel
    by_cases hlt : k < es.length
    · obtain ⟨b1, o1, rfl, hc1⟩ := (ha.drewN n).at rfl k hlt
      obtain ⟨b2, o2, rfl, hc2⟩ := (hb.drewN n).at rfl k hlt
      obtain ⟨x, hx⟩ : ∃ x, x = nthW es k := ⟨_, rfl⟩
      rw [← hx] at hc1 hc2
      clear hx
      have hg : (x.gone != x.gone) = false := by simp
      go_wp2_with fail
      refine wp_region_noPanic ?_
      refine wp_region_held_drew (S := fun w' => (w'.cell? ⟨b1, o1 + k * 3, none⟩ = some (.string x.key) ∧ w'.cell? ⟨b1, o1 + k * 3 + 1, none⟩ = some (.string x.val) ∧ w'.cell? ⟨b1, o1 + k * 3 + 2, none⟩ = some (.bool x.gone)) ∧ (w'.cell? ⟨b2, o2 + k * 3, none⟩ = some (.string x.key) ∧ w'.cell? ⟨b2, o2 + k * 3 + 1, none⟩ = some (.string x.val) ∧ w'.cell? ⟨b2, o2 + k * 3 + 2, none⟩ = some (.bool x.gone))) (by kernel_rfl) ⟨hc1, hc2⟩ (fun hH => ?_)
      refine tkA 0 17 hH ?_; try simp only [Act.put, sA, sZ, sS]
      refine tkA 1 18 hH ?_; try simp only [Act.put, sA, sZ, sS]
      refine tkA 2 19 hH ?_; try simp only [Act.put, sA, sZ, sS]
      refine tkA 3 20 hH ?_; try simp only [Act.put, sA, sZ, sS]
      refine tkA 4 21 hH ?_; try simp only [Act.put, sA, sZ, sS]
      refine tkA 5 22 hH ?_; try simp only [Act.put, sA, sZ, sS]
      refine tkA 6 23 hH ?_; try simp only [Act.put, sA, sZ, sS]
      refine tkA 7 24 hH ?_; try simp only [Act.put, sA, sZ, sS]
      refine tkA 8 25 hH ?_; try simp only [Act.put, sA, sZ, sS]
      refine wpAnyH_done (by kernel_rfl) ?_ _
      refine NoPanic.normal ?_
      go_wp2
      go_roundw
      case rel => exact ⟨k + 1, by omega, by go_num, n + 1, rfl⟩
      case measure => simp [intOf]; omega
    · go_wp2
      go_ret
      exact ⟨rfl, n, rfl⟩
def TxtR (w : World) (e : Ending) (w' : World) : Prop := ∃ s : ByteArray, e = .returned (.string s) ∧ s.size ≤ 3001 ∧ Below w.heap.size w w'
theorem drawTextR_any (v : Value) (bs : List UInt8) (w : World) (hr : Rd w v bs) (hb : bs.length ≤ 4096) :
    Calls Tryz.prog 26 #[v] w fun e w' => TxtR w e w' := by
  obtain ⟨j0, hj, hy0, hy1, hy2⟩ := info_parts Tryz.info5
  go_enter Tryz.func26, Tryz.ntmps26
  go_wp2_with fail
  refine (l1New_any v bs _ hr hb).mono ?_
  rintro e w1 ⟨g, rfl, hc⟩
  go_wp2_with fail
  refine (l1Once_any w _ g 20 hc (by omega) (by omega)).mono ?_
  rintro e w2 ⟨b, rfl, hc2, hg2⟩
  clear hc hg2
  cases b
  · go_wp2_with fail
    refine (l1DrawText_any w _ g hc2).mono ?_
    rintro e w3 ⟨s, rfl, hs, hc3, hg3⟩
    have hbel := hc3.bel
    clear hc2 hg3 hc3
    go_wp2
    go_ret
    exact ⟨_, rfl, by omega, hbel⟩
  · go_wp2_with fail
    refine (l1Below_any w _ g 2 hc2 (by omega) (by omega)).mono ?_
    rintro e w3 ⟨x, rfl, hx0, hx1, hc3, hg3⟩
    obtain ⟨zn, rfl⟩ := Int.eq_ofNat_of_zero_le hx0
    clear hc2 hg3
    go_wp2_with (at_make; (refine wpList_make_full _ rfl _ _ 22 rfl w3.heap.size 5 j0 (.int .u8 0) 1 Tryz.underlying22 hj hy0 hy1 .i64 .i64 (3000 + (zn : Int)) (3000 + (zn : Int)) (3000 + zn) rfl rfl (by omega) (by omega) ?f1 ?f2 ?f3 ?_))
    case f1 => rw [hy2]; omega
    case f2 => unfold maxLen; omega
    case f3 => omega
    intro w5 ho5 hg5
    obtain ⟨zs, Hzl, hoz⟩ : ∃ zs : List UInt8, Hid (zs.length = 3000 + zn) ∧ Own w5 w3.heap.size (.slice (some ⟨w3.heap.size, 0, none⟩) (3000 + zn) (3000 + zn)) zs := by
      rw [madeB] at ho5
      exact ⟨List.replicate (3000 + zn) 0, List.length_replicate, by unfold Own; rw [List.length_replicate]; exact ho5⟩
    have hcv := conv_own hoz
    have hbel := (hc3.grow hg5 (fun k hk => by cases hk)).bel
    have hzs : (⟨zs.toArray⟩ : ByteArray).size ≤ 3001 := by show zs.toArray.size ≤ 3001; rw [List.size_toArray, Hzl.out]; omega
    generalize (⟨zs.toArray⟩ : ByteArray) = t at hcv hzs
    clear ho5 hg5 hc3 hoz Hzl
    go_wp2
    go_ret
    exact ⟨_, rfl, hzs, hbel⟩
theorem drawRecord_any (v : Value) (bs : List UInt8) (w : World) (hr : Rd w v bs) (hb : bs.length ≤ 4096) :
    Calls Tryz.prog 7 #[v] w fun e w' => TxtR w e w' := by
  go_enter Tryz.func7, Tryz.ntmps7
  go_wp2_with fail
  refine (drawTextR_any v bs _ hr hb).mono ?_
  rintro e w1 ⟨s, rfl, hs, hbel⟩
  go_wp2
  go_ret
  exact ⟨_, rfl, hs, hbel⟩
open Go.RowKit
theorem rdS_ix {w : World} {a : Option Addr} {n cap : Nat} {ss : List ByteArray} (h : RdS w (.slice a n cap) ss) (i : Nat) (hi : i < ss.length) : n = ss.length ∧ n ≤ cap ∧ ∃ b off, a = some ⟨b, off, none⟩ ∧ w.cell? ⟨b, off + i, none⟩ = some (.string ss[i]) := by
  obtain ⟨a', c', e, h1, h2, h3⟩ := h
  injection e with e1 e2 e3
  subst e1
  subst e2
  subst e3
  rcases h3 with rfl | ⟨b, off, rfl, hc⟩
  · simp at hi
  · exact ⟨rfl, h1, b, off, rfl, hc i hi⟩
theorem end_at {d : List UInt8} {t : ByteArray} (h : isRec d t) {k : Nat} (hn : ∀ j, j < k → d[j]? ≠ some 10) (hk : k < d.length → d[k]? = some 10) (hl : k ≤ d.length) : k = (szL t).length + 1 + (dgL t).length := by
  have hL := rec_len h
  have h1 := lf_at h
  rcases Nat.lt_trichotomy k ((szL t).length + 1 + (dgL t).length) with hlt | he | hgt
  · have hk' := hk (by omega)
    rcases Nat.lt_trichotomy k (szL t).length with h2 | h2 | h2
    · obtain ⟨_, e⟩ := szL_at h h2
      rw [List.getElem?_eq_getElem (by omega)] at hk'
      have hd := szL_dig t _ (List.getElem_mem h2)
      rw [← e, Option.some.inj hk'] at hd
      exact absurd hd not_dig_10
    · subst h2
      rw [blank_at h] at hk'
      cases hk'
    · have hd := s2_in h (by omega) (show (szL t).length + 1 ≤ k by omega) hlt
      rw [List.getElem?_eq_getElem (by omega)] at hk'
      rw [Option.some.inj hk'] at hd
      exact absurd hd not_dig_10
  · exact he
  · exact absurd h1 (hn _ hgt)
theorem head_words {d : List UInt8} {t : ByteArray} (h : isRec d t) : wordsL (d.take ((szL t).length + 1 + (dgL t).length)) = [szL t, dgL t] := by
  obtain ⟨_, r, rfl⟩ := h
  have e : szL t ++ 32 :: (dgL t ++ 10 :: (t.data.toList ++ 10 :: r)) = (szL t ++ 32 :: dgL t) ++ (10 :: (t.data.toList ++ 10 :: r)) := by simp
  have hl : (szL t).length + 1 + (dgL t).length = (szL t ++ 32 :: dgL t).length := by simp; omega
  rw [e, hl, List.take_left, words_app _ _ (no_dig (szL_dig _) not_dig_32), words_one _ (no_dig (dgL_dig _) not_dig_32)]
theorem words_flat : ∀ (l a : List UInt8), a ∈ wordsL l → a.length ≤ l.length
  | [], a, h => by
    have : a = [] := by simpa [wordsL] using h
    subst this; simp
  | b :: l, a, h => by
    have ih := words_flat l
    by_cases hb : b = 32
    · subst hb
      have e := words_app [] l (by simp)
      rw [List.nil_append] at e
      rw [e] at h
      rcases List.mem_cons.1 h with rfl | h
      · simp
      · have := ih a h; simp; omega
    · rw [wordsL, if_neg hb] at h
      split at h
      · rename_i x y e
        rcases List.mem_cons.1 h with rfl | h
        · have := ih x (by rw [e]; exact List.mem_cons_self)
          simp; omega
        · have := ih a (by rw [e]; exact List.mem_cons_of_mem _ h)
          simp; omega
      · have : a = [b] := by simpa using h
        subst this; simp
theorem number_sz (n : Nat) (w : World) (hn : n ≤ 3000) :
    Calls Tryz.prog 56 #[.string (itoaS (n : Int))] w fun e w' => e = .returned (.tuple #[.int .i64 (n : Int), .bool true]) ∧ w' = w := by
  by_cases h : n = 0
  · subst h
    have e : itoaS ((0 : Nat) : Int) = ⟨#[48]⟩ := ba_ext (by rw [itoa_nat, dec_left]; rfl)
    rw [e]
    exact number_zero w
  · exact number_dec (n : Int) w (by omega) (by omega)
theorem l10Record_any (d : ByteArray) (w : World) (hd : d.size ≤ 1048576) :
    Calls Tryz.prog 33 #[.string d] w fun e w' => RecP d.data.toList e ∧ Below w.heap.size w w' := by
  have hl := size_length d
  go_enter Tryz.func33, Tryz.ntmps33
  go_wp2
  go_loop [4] (fun kk => ∃ k : Nat, k ≤ d.size ∧ kk = .int .i64 k ∧ Hid (∀ j, j < k → d.data.toList[j]? ≠ some 10)) (fun kk => d.size - (intOf kk).toNat)
  case atStart => exact ⟨0, Nat.zero_le _, rfl, fun j h => by omega⟩
  case round =>
    obtain ⟨k, hk, rfl, HK⟩ := hrel
    by_cases hgo : ∃ h : k < d.size, d[k] ≠ 10
    · obtain ⟨hlt, hne⟩ := hgo
      have HN : Hid (∀ j, j < k + 1 → d.data.toList[j]? ≠ some 10) := fun j hj => by
        rcases Nat.lt_or_ge j k with h | h
        · exact HK.out j h
        · obtain rfl : j = k := by omega
          rw [List.getElem?_eq_getElem (by omega)]
          intro e
          exact hne (Option.some.inj e)
      have hq : ((d[k].toNat : Int) != 10) = true := by
        simp only [bne_iff_ne, ne_eq]
        intro e
        exact hne (UInt8.toNat_inj.1 (by show d[k].toNat = 10; omega))
      clear hne HK
      go_wp2
      go_round
      case rel => exact ⟨k + 1, by omega, by go_num, HN⟩
      case measure => simp [intOf]; omega
    · have HE : Hid (k < d.data.toList.length → d.data.toList[k]? = some 10) := fun h => by
        rw [List.getElem?_eq_getElem h]
        have : ¬ d[k]'(by omega) ≠ 10 := fun h2 => hgo ⟨by omega, h2⟩
        exact congrArg some (Decidable.not_not.1 this)
      obtain ⟨x, hx⟩ : ∃ x, x = d.extract 0 k := ⟨_, rfl⟩
      have hxb : bytesOf x = d.data.toList.take k := by rw [hx, bytesOf_extract]; simp
      have hxs : x.size ≤ 1048576 := by rw [hx, ByteArray.size_extract]; omega
      have HX : Hid (x = d.extract 0 k) := hx
      have HXB : Hid (x.data.toList = d.data.toList.take k) := hxb
      clear hx hxb
      have c0 : (0 : Int) ≤ (k : Int) := by omega
      have c1 : (k : Int) ≤ (d.size : Int) := by omega
      have HW : Hid (∀ W, Calls Tryz.prog 55 #[.string x] W fun e w' => WordsP W x e w') := fun W => words_any x W hxs
      have HN0 : Hid (∀ ys : List ByteArray, ys.map bytesOf = wordsL x.data.toList → ∃ y r, ys = y :: r ∧ y.size ≤ 1048576) := fun ys hy => by
        cases ys with
        | nil => exact absurd hy.symm (words_ne _)
        | cons y r =>
          refine ⟨y, r, rfl, ?_⟩
          have h2 := words_flat x.data.toList y.data.toList (by rw [← hy]; exact List.mem_cons_self)
          rw [size_length, size_length] at h2
          omega
      by_cases hlt : k < d.size
      · have hq : ((d[k].toNat : Int) != 10) = false := by
          have : ¬ d[k] ≠ 10 := fun h2 => hgo ⟨hlt, h2⟩
          have e : d[k] = 10 := Decidable.not_not.1 this
          rw [e]; rfl
        have hq2 : ((k : Int) == (d.size : Int)) = false := by simp; omega
        clear hgo
        by_cases hrec : ∃ t, isRec d.data.toList t
        · obtain ⟨t, ht⟩ := hrec
          have hk2 := end_at ht HK.out HE.out (by omega)
          have h3 := rec_len ht
          have h4 := ht.1
          have HY : Hid (∀ ys : List ByteArray, ys.map bytesOf = wordsL x.data.toList → ∃ y r, ys = y :: r ∧ y = itoaS (t.size : Int)) := fun ys hy => by
            rw [HXB.out, hk2, head_words ht] at hy
            cases ys with
            | nil => cases hy
            | cons y r =>
              refine ⟨y, r, rfl, ba_ext ?_⟩
              rw [itoa_nat]
              exact (List.cons.inj hy).1
          have HTX : Hid (d.extract (k + 1) (k + 1 + t.size) = t) := ba_ext (by
            show bytesOf _ = _
            rw [bytesOf_extract, show k + 1 + t.size - (k + 1) = t.size by omega, hk2]
            exact text_at ht)
          have HTK : Hid (d.extract 0 (recT t).size = recT t) := ba_ext (by
            show bytesOf _ = _
            rw [bytesOf_extract, recT_len]
            exact take_at ht)
          have HEND : Hid (RecP d.data.toList (.returned (.tuple #[.string t, .int .i64 ((recT t).size : Int)]))) := .inl ⟨t, ht, rfl⟩
          have hrs := recT_len t
          have HNM : Hid (∀ W, Calls Tryz.prog 56 #[.string (itoaS (t.size : Int))] W fun e w' => e = .returned (.tuple #[.int .i64 (t.size : Int), .bool true]) ∧ w' = W) := fun W => number_sz t.size W h4
          have HRS : Hid (recS t = recT t) := recS_in h4
          obtain ⟨n, hn⟩ : ∃ n, n = t.size := ⟨_, rfl⟩
          obtain ⟨m, hm⟩ : ∃ m, m = (recT t).size := ⟨_, rfl⟩
          have hm1 : m ≤ d.size := by omega
          have hn1 : k + 1 + n ≤ d.size := by omega
          have hn2 : n ≤ 3000 := by omega
          have HNN : Hid (n = t.size) := hn
          have HMM : Hid (m = (recT t).size) := hm
          rw [← hn] at HTX HNM
          rw [← hm] at HTK HEND
          have hin : (decide ((0 : Int) ≤ (n : Int)) && decide ((n : Int) ≤ 3000)) = true := by simp; omega
          obtain ⟨p, hp0⟩ : ∃ p, p = k + 1 := ⟨_, rfl⟩
          obtain ⟨q, hq0⟩ : ∃ q, q = p + n := ⟨_, rfl⟩
          have hp1 : (k : Int) + 1 = (p : Int) := by omega
          have hp2 : (p : Int) + (n : Int) = (q : Int) := by omega
          have hp3 : (0 : Int) ≤ (p : Int) := by omega
          have hp4 : (p : Int) ≤ (q : Int) := by omega
          have hp5 : (q : Int) ≤ (d.size : Int) := by omega
          have hp6 : ¬ (d.size : Int) - (p : Int) < (n : Int) := by omega
          rw [← hp0, ← hq0] at HTX
          rw [hm] at hm1 HTK
          have hm2 : ¬ (d.size : Int) < ((recT t).size : Int) := by omega
          have hm3 : ((recT t).size : Int) ≤ (d.size : Int) := by omega
          have hm4 : (0 : Int) ≤ ((recT t).size : Int) := by omega
          have heq : (!(d.extract 0 (recT t).size).toList == (recT t).toList) = false := by rw [HTK.out]; simp
          clear hp0 hq0 hn1 hm1
          clear hrs hk2 h3 h4 ht hn hm HE HK HXB HN0
          go_wp2_with fail
          rw [← HX.out]
          refine (HW.out _).mono ?_
          rintro e w2 ⟨v, ys, rfl, hys, hr2, b2⟩
          obtain ⟨y, r, rfl, rfl⟩ := HY.out _ hys
          obtain ⟨a, cap, rfl, g1, g2, -⟩ := id hr2
          obtain ⟨-, -, b, off, rfl, hc⟩ := rdS_ix hr2 0 (by simp)
          have c5 : (0 : Int) < ((itoaS (t.size : Int) :: r).length : Int) := by rw [List.length_cons]; omega
          obtain ⟨L, hL⟩ : ∃ L, L = (itoaS (t.size : Int) :: r).length := ⟨_, rfl⟩
          rw [← hL] at c5 g1 ⊢
          have hc' : w2.cell? ⟨b, off, none⟩ = some (.string (itoaS (t.size : Int))) := by simpa using hc
          rw [← HNN.out] at hc'
          clear hys hr2 HY hc hL HW
          go_wp2_with fail
          rw [HNN.out]
          rw [HNN.out] at HNM
          refine (HNM.out _).mono ?_
          rw [← HNN.out]
          rintro e w3 ⟨rfl, hw3⟩
          obtain rfl := hw3.symm
          clear HNM hc'
          go_wp2_with fail
          refine (inS_any (n : Int) 0 3000 _).mono ?_
          rw [hin]
          rintro e w4 ⟨rfl, hw4⟩
          obtain rfl := hw4.symm
          go_wp2_with fail
          rw [HTX.out]
          refine (specRecord_any t _ (by have := HNN.out; omega)).mono ?_
          rw [HRS.out]
          rintro e w5 ⟨rfl, b5⟩
          have bb := b2.trans (b5.mono b2.size)
          clear b2 b5
          go_wp2
          go_ret2
          exact ⟨by rw [← HMM.out]; exact HEND.out, bb⟩
        · have HS0 : Hid (S0 d.data.toList) := fun t ht => hrec ⟨t, ht⟩
          have HEND : Hid (RecP d.data.toList (.returned (.tuple #[.string ⟨#[]⟩, .int .i64 0]))) := .inr ⟨HS0.out, rfl⟩
          clear hrec HK HE HXB
          go_wp2_with fail
          rw [← HX.out]
          refine (HW.out _).mono ?_
          rintro e w2 ⟨v, ys, rfl, hys, hr2, b2⟩
          obtain ⟨y, r, rfl, hy⟩ := HN0.out _ hys
          obtain ⟨a, cap, rfl, g1, g2, -⟩ := id hr2
          obtain ⟨-, -, b, off, rfl, hc⟩ := rdS_ix hr2 0 (by simp)
          have c5 : (0 : Int) < ((y :: r).length : Int) := by rw [List.length_cons]; omega
          obtain ⟨L, hL⟩ : ∃ L, L = (y :: r).length := ⟨_, rfl⟩
          rw [← hL] at c5 g1 ⊢
          have hc' : w2.cell? ⟨b, off, none⟩ = some (.string y) := by simpa using hc
          clear hys hr2 hc hL HW HN0
          go_wp2_with fail
          refine (numberS_any y _ hy).mono ?_
          rintro e w3 ⟨⟨z, is, rfl⟩, hw3⟩
          obtain rfl := hw3.symm
          clear hc'
          cases is with
          | false =>
            go_wp2
            go_ret2
            exact ⟨HEND.out, b2⟩
          | true =>
            by_cases hin0 : 0 ≤ z ∧ z ≤ 3000
            · obtain ⟨hz0, hz1⟩ := hin0
              obtain ⟨n, rfl⟩ := Int.eq_ofNat_of_zero_le hz0
              have hin : (decide ((0 : Int) ≤ (n : Int)) && decide ((n : Int) ≤ 3000)) = true := by simp; omega
              obtain ⟨p, hp0⟩ : ∃ p, p = k + 1 := ⟨_, rfl⟩
              have hp1 : (k : Int) + 1 = (p : Int) := by omega
              have hpb : (p : Int) ≤ 1048577 := by omega
              have hp3 : (0 : Int) ≤ (p : Int) := by omega
              clear hp0
              by_cases hlong : (d.size : Int) - (p : Int) < (n : Int)
              · go_wp2_with fail
                refine (inS_any (n : Int) 0 3000 _).mono ?_
                rw [hin]
                rintro e w4 ⟨rfl, hw4⟩
                obtain rfl := hw4.symm
                go_wp2
                go_ret2
                exact ⟨HEND.out, b2⟩
              · obtain ⟨q, hq0⟩ : ∃ q, q = p + n := ⟨_, rfl⟩
                have hp2 : (p : Int) + (n : Int) = (q : Int) := by omega
                have hp4 : (p : Int) ≤ (q : Int) := by omega
                have hp5 : (q : Int) ≤ (d.size : Int) := by omega
                obtain ⟨t, ht⟩ : ∃ t, t = d.extract p q := ⟨_, rfl⟩
                have HTX : Hid (d.extract p q = t) := ht.symm
                have hts : t.size ≤ 3000 := by rw [ht, ByteArray.size_extract]; omega
                have HRS : Hid (recS t = recT t) := recS_in hts
                have hrz := recT_size hts
                clear hq0 ht
                go_wp2_with fail
                refine (inS_any (n : Int) 0 3000 _).mono ?_
                rw [hin]
                rintro e w4 ⟨rfl, hw4⟩
                obtain rfl := hw4.symm
                go_wp2_with fail
                rw [HTX.out]
                refine (specRecord_any t _ (by omega)).mono ?_
                rw [HRS.out]
                rintro e w5 ⟨rfl, b5⟩
                have bb := b2.trans (b5.mono b2.size)
                clear b2 b5
                by_cases hm0 : (d.size : Int) < ((recT t).size : Int)
                · go_wp2
                  go_ret2
                  exact ⟨HEND.out, bb⟩
                · have hm3 : ((recT t).size : Int) ≤ (d.size : Int) := by omega
                  have hm4 : (0 : Int) ≤ ((recT t).size : Int) := by omega
                  have heq : (!(d.extract 0 (recT t).size).toList == (recT t).toList) = true := by
                    simp only [Bool.not_eq_true', beq_eq_false_iff_ne]
                    rw [toListB, toListB]
                    intro e
                    refine HS0.out t (s3_yes hts (m := (recT t).size) ?_)
                    rw [← e]
                    exact (bytesOf_extract d 0 (recT t).size).symm
                  go_wp2
                  go_ret2
                  exact ⟨HEND.out, bb⟩
            · have hin : (decide ((0 : Int) ≤ z) && decide (z ≤ 3000)) = false := by simp; omega
              go_wp2_with fail
              refine (inS_any z 0 3000 _).mono ?_
              rw [hin]
              rintro e w4 ⟨rfl, hw4⟩
              obtain rfl := hw4.symm
              go_wp2
              go_ret2
              exact ⟨HEND.out, b2⟩
      · have hke : k = d.size := by omega
        have HEND : Hid (RecP d.data.toList (.returned (.tuple #[.string ⟨#[]⟩, .int .i64 0]))) := .inr ⟨fun t ht => by
          have := end_at ht HK.out HE.out (by omega)
          have := rec_len ht
          omega, rfl⟩
        have hq2 : ((k : Int) == (d.size : Int)) = true := by simp; omega
        clear hgo HK HE HXB hke
        go_wp2_with fail
        rw [← HX.out]
        refine (HW.out _).mono ?_
        rintro e w2 ⟨v, ys, rfl, hys, hr2, b2⟩
        obtain ⟨y, r, rfl, hy⟩ := HN0.out _ hys
        obtain ⟨a, cap, rfl, g1, g2, -⟩ := id hr2
        obtain ⟨-, -, b, off, rfl, hc⟩ := rdS_ix hr2 0 (by simp)
        have c5 : (0 : Int) < ((y :: r).length : Int) := by rw [List.length_cons]; omega
        obtain ⟨L, hL⟩ : ∃ L, L = (y :: r).length := ⟨_, rfl⟩
        rw [← hL] at c5 g1 ⊢
        have hc' : w2.cell? ⟨b, off, none⟩ = some (.string y) := by simpa using hc
        clear hys hr2 hc hL HW HN0
        go_wp2_with fail
        refine (numberS_any y _ hy).mono ?_
        rintro e w3 ⟨⟨n, is, rfl⟩, hw3⟩
        obtain rfl := hw3.symm
        clear hc'
        go_wp2
        go_ret2
        exact ⟨HEND.out, b2⟩
open Go.RowKit
def JmpX (J : Nat → Act → World → Prop) (Q : Exit → Act → World → Prop) : Exit → Act → World → Prop
  | .goto l, a, w => J l a w
  | e, a, w => Q e a w
theorem JmpX_ret {J : Nat → Act → World → Prop} {Q : Exit → Act → World → Prop} {a : Act} {w : World} : JmpX J Q .ret a w = Q .ret a w := rfl
theorem JmpX_mono {J J' : Nat → Act → World → Prop} {Q : Exit → Act → World → Prop} (h : ∀ l a w, J l a w → J' l a w) : ∀ e a w, JmpX J Q e a w → JmpX J' Q e a w := by
  intro e a w hq
  cases e <;> first | exact h _ _ _ hq | exact hq
theorem hop {P : Program} {c b : Code} {J : Nat → Act → World → Prop} {Q : Exit → Act → World → Prop} {l : Nat} {a : Act} {w : World} (hp : ∀ l a w, J l a w → ∃ b, findLabel c l = some (.seq .skip b) ∧ b.wp P (JmpX J Q) a w) (hf : findLabel c l = some (.seq .skip b)) (hJ : J l a w) : b.wp P (JmpX J Q) a w := by
  obtain ⟨b', hb, h⟩ := hp l a w hJ
  rw [hf] at hb
  injection hb with e
  injection e with _ e
  rw [e]
  exact h
theorem scope_all {P : Program} {a : Act} {w : World} {Q : Exit → Act → World → Prop} {c : Code} (J : Nat → Act → World → Prop) (μ : Nat → Act → World → Nat)
    (pass : ∀ l a w, J l a w → ∃ b, findLabel c l = some (.seq .skip b) ∧ b.wp P (JmpX (fun l' a' w' => J l' a' w' ∧ μ l' a' w' < μ l a w) Q) a w)
    (first0 : (∀ l a w, J l a w → ∃ b, findLabel c l = some (.seq .skip b) ∧ b.wp P (JmpX J Q) a w) → c.wp P (JmpX J Q) a w) : (Code.scope c).wp P Q a w := by
  have first := first0 fun l a w h => by
    obtain ⟨b, hf, hb⟩ := pass l a w h
    exact ⟨b, hf, wp_mono hb (JmpX_mono fun _ _ _ h => h.1)⟩
  intro b k cs
  have key : ∀ n l a w, μ l a w = n → J l a w → ∃ rest e a' w', findLabel c l = some rest ∧ Q e a' w' ∧ Arrives P (lone (b.at a (.code rest :: .inScope c :: k)) cs w) b k cs e a' w' := by
    intro n
    induction n using Nat.strongRecOn with
    | _ n ih =>
      intro l a w hn hJ
      obtain ⟨d, hf, hd⟩ := pass l a w hJ
      have hd2 : (Code.seq .skip d).wp P (JmpX (fun l' a' w' => J l' a' w' ∧ μ l' a' w' < μ l a w) Q) a w := wp_seq (wp_skip hd)
      obtain ⟨e, a₁, w₁, hq, harr⟩ := hd2 b (.inScope c :: k) cs
      refine ⟨Code.seq .skip d, ?_⟩
      cases e with
      | normal => exact ⟨.normal, a₁, w₁, hf, hq, Steps.trans harr (.one step_inScope)⟩
      | exit id => exact ⟨.exit id, a₁, w₁, hf, hq, fun k' hk => harr k' (by simp [exitTo, hk])⟩
      | goto l' =>
        obtain ⟨hJ', hlt⟩ := hq
        obtain ⟨rest, e₂, a₂, w₂, hf', hq₂, harr₂⟩ := ih _ (by omega) l' a₁ w₁ rfl hJ'
        exact ⟨e₂, a₂, w₂, hf, hq₂, .of_steps (harr _ (by simp [gotoIn, hf'])) harr₂⟩
      | ret => exact ⟨_, a₁, w₁, hf, hq, harr⟩
      | panic ch => exact ⟨_, a₁, w₁, hf, hq, harr⟩
      | outgrown => exact ⟨_, a₁, w₁, hf, hq, harr⟩
  obtain ⟨e, a₁, w₁, hq, harr⟩ := first b (.inScope c :: k) cs
  cases e with
  | normal => exact ⟨.normal, a₁, w₁, hq, .head step_scope (Steps.trans harr (.one step_inScope))⟩
  | exit id => exact ⟨.exit id, a₁, w₁, hq, fun k' hk => .head step_scope (harr k' (by simp [exitTo, hk]))⟩
  | goto l' =>
    obtain ⟨rest, e₂, a₂, w₂, hf', hq₂, harr₂⟩ := key _ l' a₁ w₁ rfl hq
    exact ⟨e₂, a₂, w₂, hq₂, .of_steps (.head step_scope (harr _ (by simp [gotoIn, hf']))) harr₂⟩
  | ret => exact ⟨_, a₁, w₁, hq, .of_steps (.one step_scope) harr⟩
  | panic ch => exact ⟨_, a₁, w₁, hq, .of_steps (.one step_scope) harr⟩
  | outgrown => exact ⟨_, a₁, w₁, hq, .of_steps (.one step_scope) harr⟩
open Go.RowKit
-- UNF Gen
theorem arr_all {A : Array Value} {n : Nat} (h : A.size = n) : A = ((List.range n).map fun i => A.getD i undef).toArray := by
  apply Array.ext
  · simp [h]
  · intro i h1 h2
    simp [h1]
theorem fr_rec {a : Act} {x0 x4 x5 : Value} (hs : a.tmps.size = 76) (hd : a.defers = []) (h0 : a.tmps.getD 0 undef = x0) (h4 : a.tmps.getD 4 undef = x4) (h5 : a.tmps.getD 5 undef = x5) :
    ∃ f : Nat → Value, a = { tmps := #[x0, f 1, f 2, f 3, x4, x5, f 6, f 7, f 8, f 9, f 10, f 11, f 12, f 13, f 14, f 15, f 16, f 17, f 18, f 19, f 20, f 21, f 22, f 23, f 24, f 25, f 26, f 27, f 28, f 29, f 30, f 31, f 32, f 33, f 34, f 35, f 36, f 37, f 38, f 39, f 40, f 41, f 42, f 43, f 44, f 45, f 46, f 47, f 48, f 49, f 50, f 51, f 52, f 53, f 54, f 55, f 56, f 57, f 58, f 59, f 60, f 61, f 62, f 63, f 64, f 65, f 66, f 67, f 68, f 69, f 70, f 71, f 72, f 73, f 74, f 75], defers := [] } := by
  obtain ⟨A, ds⟩ := a
  refine ⟨fun i => A.getD i undef, ?_⟩
  have e := arr_all hs
  have e2 : ((List.range 76).map fun i => A.getD i undef).toArray = #[A.getD 0 undef, A.getD 1 undef, A.getD 2 undef, A.getD 3 undef, A.getD 4 undef, A.getD 5 undef, A.getD 6 undef, A.getD 7 undef, A.getD 8 undef, A.getD 9 undef, A.getD 10 undef, A.getD 11 undef, A.getD 12 undef, A.getD 13 undef, A.getD 14 undef, A.getD 15 undef, A.getD 16 undef, A.getD 17 undef, A.getD 18 undef, A.getD 19 undef, A.getD 20 undef, A.getD 21 undef, A.getD 22 undef, A.getD 23 undef, A.getD 24 undef, A.getD 25 undef, A.getD 26 undef, A.getD 27 undef, A.getD 28 undef, A.getD 29 undef, A.getD 30 undef, A.getD 31 undef, A.getD 32 undef, A.getD 33 undef, A.getD 34 undef, A.getD 35 undef, A.getD 36 undef, A.getD 37 undef, A.getD 38 undef, A.getD 39 undef, A.getD 40 undef, A.getD 41 undef, A.getD 42 undef, A.getD 43 undef, A.getD 44 undef, A.getD 45 undef, A.getD 46 undef, A.getD 47 undef, A.getD 48 undef, A.getD 49 undef, A.getD 50 undef, A.getD 51 undef, A.getD 52 undef, A.getD 53 undef, A.getD 54 undef, A.getD 55 undef, A.getD 56 undef, A.getD 57 undef, A.getD 58 undef, A.getD 59 undef, A.getD 60 undef, A.getD 61 undef, A.getD 62 undef, A.getD 63 undef, A.getD 64 undef, A.getD 65 undef, A.getD 66 undef, A.getD 67 undef, A.getD 68 undef, A.getD 69 undef, A.getD 70 undef, A.getD 71 undef, A.getD 72 undef, A.getD 73 undef, A.getD 74 undef, A.getD 75 undef] := rfl
  subst hd
  show Act.mk A [] = _
  rw [← h0, ← h4, ← h5]
  exact congrArg (fun T => Act.mk T []) (e.trans e2)
def FS (l : Nat) (d : List UInt8) (k n : Nat) : Prop := (l = 1 ∧ S1 d k n) ∨ (l = 2 ∧ n ≤ 3000 ∧ S2 d k n) ∨ (l = 3 ∧ n ≤ 3000 ∧ S3 d k n) ∨ (l = 0 ∧ S0 d)
def FJ (d : ByteArray) (w0 : World) (l : Nat) (a : Act) (w : World) : Prop :=
  a.tmps.size = 76 ∧ a.defers = [] ∧ a.tmps.getD 0 undef = .string d ∧ Below w0.heap.size w0 w ∧ ∃ n k : Nat, k ≤ d.size ∧ n ≤ 40000 ∧ a.tmps.getD 4 undef = .int .i64 n ∧ a.tmps.getD 5 undef = .int .i64 k ∧ Hid (FS l d.data.toList k n)
def fm (D : Nat) (l : Nat) (a : Act) (_ : World) : Nat :=
  if l = 1 then 3 * D + 10 - (intOf (a.tmps.getD 5 undef)).toNat else if l = 2 then D + 5 - (intOf (a.tmps.getD 5 undef)).toNat else if l = 3 then 1 else 0
theorem fj {d : ByteArray} {w0 w : World} {l : Nat} {a : Act} {n k : Nat} {M : Nat} (h1 : a.tmps.size = 76) (h2 : a.defers = []) (h3 : a.tmps.getD 0 undef = .string d) (h4 : a.tmps.getD 4 undef = .int .i64 n) (h5 : a.tmps.getD 5 undef = .int .i64 k) (hb : Below w0.heap.size w0 w) (hk : k ≤ d.size) (hn : n ≤ 40000) (hf : FS l d.data.toList k n)
    (hm : (if l = 1 then 3 * d.size + 10 - k else if l = 2 then d.size + 5 - k else if l = 3 then 1 else 0) < M) : FJ d w0 l a w ∧ fm d.size l a w < M := by
  refine ⟨⟨h1, h2, h3, hb, n, k, hk, hn, h4, h5, hf⟩, ?_⟩
  unfold fm
  rw [h5]
  simpa [intOf] using hm
theorem firstRecord_any (d : ByteArray) (w : World) (hd : d.size ≤ 1048576) (hT : Tab w) :
    Calls Tryz.prog 25 #[.string d] w fun e w' => RecP d.data.toList e ∧ Below w.heap.size w w' := by
  have hl := size_length d
  have HTB : Hid (∀ W, Below w.heap.size w W → Tab W) := fun W h => hT.on h
  clear hT
  go_enter Tryz.func25, Tryz.ntmps25
  go_wp2
  refine scope_all (FJ d w) (fm d.size) ?pass ?first
  case pass =>
    rintro l a wr ⟨hs, hdf, h0, hb, n, k, hk, hn, h4, h5, HS⟩
    have HM : Hid (fm d.size l a wr = if l = 1 then 3 * d.size + 10 - k else if l = 2 then d.size + 5 - k else if l = 3 then 1 else 0) := by unfold Hid fm; rw [h5]; simp [intOf]
    generalize fm d.size l a wr = M at HM
    obtain ⟨f, rfl⟩ := fr_rec hs hdf h0 h4 h5
    clear hs hdf h0 h4 h5
    rcases HS.out with ⟨rfl, h1⟩ | ⟨rfl, hn3, h2⟩ | ⟨rfl, hn3, h3⟩ | ⟨rfl, h0⟩
    · -- the size
      have HS1 : Hid (S1 d.data.toList k n) := h1
      have HMM : Hid (M = 3 * d.size + 10 - k) := HM.out
      clear h1 HS HM
      refine ⟨_, rfl, ?_⟩
      by_cases hke : k = d.size
      · have hq : ((k : Int) == (d.size : Int)) = true := by simp; omega
        have HZ : Hid (S0 d.data.toList) := s1_end HS1.out (by omega)
        clear hke
        go_wp2
        go_step3
        exact fj rfl rfl rfl rfl rfl hb hk hn (.inr (.inr (.inr ⟨rfl, HZ.out⟩))) (by rw [HMM.out]; simp; omega)
      have hq : ((k : Int) == (d.size : Int)) = false := by simp; omega
      have hlt : k < d.size := by omega
      by_cases hbig : 3000 < n
      · have HZ : Hid (S0 d.data.toList) := s1_big HS1.out hbig
        go_wp2
        go_step3
        exact fj rfl rfl rfl rfl rfl hb hk hn (.inr (.inr (.inr ⟨rfl, HZ.out⟩))) (by rw [HMM.out]; simp; omega)
      have hkl : k < d.data.toList.length := by omega
      by_cases hdig : isDig d[k]
      · have HN : Hid (S1 d.data.toList (k + 1) (10 * n + (d[k].toNat - 48))) := s1_digit HS1.out hkl hdig
        obtain ⟨g1, g2⟩ := hdig
        have hdd : (decide (48 ≤ d[k].toNat) && decide (d[k].toNat ≤ 57)) = true := by simp [g1, g2]
        clear hke HS1
        go_wp2_with fail
        refine (isDigit_any d[k] _).mono ?_
        rw [hdd]
        rintro e w1 ⟨rfl, hw1⟩
        obtain rfl := hw1.symm
        go_wp2
        go_step3
        exact fj (n := 10 * n + (d[k].toNat - 48)) (k := k + 1) rfl rfl rfl (congrArg (Value.int .i64) (by omega)) (congrArg (Value.int .i64) (by omega)) hb (by omega) (by omega) (.inl ⟨rfl, HN.out⟩) (by rw [HMM.out]; simp; omega)
      have hdd : (decide (48 ≤ d[k].toNat) && decide (d[k].toNat ≤ 57)) = false := by
        cases e : (decide (48 ≤ d[k].toNat) && decide (d[k].toNat ≤ 57)) with
        | false => rfl
        | true => simp at e; exact absurd e hdig
      by_cases hbl : d[k] = 32
      · have HN : Hid (S2 d.data.toList (k + 1) n) := s1_blank HS1.out hkl hbl
        have hq2 : ((d[k].toNat : Int) == 32) = true := by rw [hbl]; rfl
        clear hke HS1 hdig hbl
        go_wp2_with fail
        refine (isDigit_any d[k] _).mono ?_
        rw [hdd]
        rintro e w1 ⟨rfl, hw1⟩
        obtain rfl := hw1.symm
        go_wp2
        go_step3
        exact fj (n := n) (k := k + 1) rfl rfl rfl rfl (congrArg (Value.int .i64) (by omega)) hb (by omega) (by omega) (.inr (.inl ⟨rfl, by omega, HN.out⟩)) (by rw [HMM.out]; simp; omega)
      · have HZ : Hid (S0 d.data.toList) := s1_other HS1.out hkl hdig hbl
        have hq2 : ((d[k].toNat : Int) == 32) = false := by
          simp only [beq_eq_false_iff_ne]
          intro e
          exact hbl (UInt8.toNat_inj.1 (by show d[k].toNat = 32; omega))
        clear hke HS1 hdig hbl
        go_wp2_with fail
        refine (isDigit_any d[k] _).mono ?_
        rw [hdd]
        rintro e w1 ⟨rfl, hw1⟩
        obtain rfl := hw1.symm
        go_wp2
        go_step3
        exact fj rfl rfl rfl rfl rfl hb hk hn (.inr (.inr (.inr ⟨rfl, HZ.out⟩))) (by rw [HMM.out]; simp; omega)
    · -- the digest
      have HS2 : Hid (S2 d.data.toList k n) := h2
      have HMM : Hid (M = d.size + 5 - k) := HM.out
      clear h2 HS HM
      refine ⟨_, rfl, ?_⟩
      by_cases hke : k = d.size
      · have hq : ((k : Int) == (d.size : Int)) = true := by simp; omega
        have HZ : Hid (S0 d.data.toList) := s2_end HS2.out (by omega)
        clear hke
        go_wp2
        go_step3
        exact fj rfl rfl rfl rfl rfl hb hk hn (.inr (.inr (.inr ⟨rfl, HZ.out⟩))) (by rw [HMM.out]; simp; omega)
      have hq : ((k : Int) == (d.size : Int)) = false := by simp; omega
      have hlt : k < d.size := by omega
      have hkl : k < d.data.toList.length := by omega
      by_cases hdig : isDig d[k]
      · have HN : Hid (S2 d.data.toList (k + 1) n) := s2_digit HS2.out hkl hdig
        obtain ⟨g1, g2⟩ := hdig
        have hdd : (decide (48 ≤ d[k].toNat) && decide (d[k].toNat ≤ 57)) = true := by simp [g1, g2]
        clear hke HS2
        go_wp2_with fail
        refine (isDigit_any d[k] _).mono ?_
        rw [hdd]
        rintro e w1 ⟨rfl, hw1⟩
        obtain rfl := hw1.symm
        go_wp2
        go_step3
        exact fj (n := n) (k := k + 1) rfl rfl rfl rfl (congrArg (Value.int .i64) (by omega)) hb (by omega) (by omega) (.inr (.inl ⟨rfl, hn3, HN.out⟩)) (by rw [HMM.out]; simp; omega)
      have hdd : (decide (48 ≤ d[k].toNat) && decide (d[k].toNat ≤ 57)) = false := by
        cases e : (decide (48 ≤ d[k].toNat) && decide (d[k].toNat ≤ 57)) with
        | false => rfl
        | true => simp at e; exact absurd e hdig
      by_cases hbl : d[k] = 10
      · have HN : Hid (S3 d.data.toList (k + 1) n) := s2_lf HS2.out hkl hbl
        have hq2 : ((d[k].toNat : Int) == 10) = true := by rw [hbl]; rfl
        clear hke HS2 hdig hbl
        go_wp2_with fail
        refine (isDigit_any d[k] _).mono ?_
        rw [hdd]
        rintro e w1 ⟨rfl, hw1⟩
        obtain rfl := hw1.symm
        go_wp2
        go_step3
        exact fj (n := n) (k := k + 1) rfl rfl rfl rfl (congrArg (Value.int .i64) (by omega)) hb (by omega) (by omega) (.inr (.inr (.inl ⟨rfl, hn3, HN.out⟩))) (by rw [HMM.out]; simp; omega)
      · have HZ : Hid (S0 d.data.toList) := s2_other HS2.out hkl hdig hbl
        have hq2 : ((d[k].toNat : Int) == 10) = false := by
          simp only [beq_eq_false_iff_ne]
          intro e
          exact hbl (UInt8.toNat_inj.1 (by show d[k].toNat = 10; omega))
        clear hke HS2 hdig hbl
        go_wp2_with fail
        refine (isDigit_any d[k] _).mono ?_
        rw [hdd]
        rintro e w1 ⟨rfl, hw1⟩
        obtain rfl := hw1.symm
        go_wp2
        go_step3
        exact fj rfl rfl rfl rfl rfl hb hk hn (.inr (.inr (.inr ⟨rfl, HZ.out⟩))) (by rw [HMM.out]; simp; omega)
    · -- the text
      have HS3 : Hid (S3 d.data.toList k n) := h3
      have HMM : Hid (M = 1) := HM.out
      clear h3 HS HM
      refine ⟨_, rfl, ?_⟩
      by_cases hshort : d.size ≤ k + n
      · have hq : (d.size : Int) - (k : Int) ≤ (n : Int) := by omega
        have HZ : Hid (S0 d.data.toList) := s3_short HS3.out (by omega)
        go_wp2
        go_step3
        exact fj rfl rfl rfl rfl rfl hb hk hn (.inr (.inr (.inr ⟨rfl, HZ.out⟩))) (by rw [HMM.out]; simp)
      have hq : ¬ (d.size : Int) - (k : Int) ≤ (n : Int) := by omega
      obtain ⟨p, hp0⟩ : ∃ p, p = k + n := ⟨_, rfl⟩
      obtain ⟨q, hq0⟩ : ∃ q, q = k + (n + 1) := ⟨_, rfl⟩
      obtain ⟨t, ht⟩ : ∃ t, t = d.extract k p := ⟨_, rfl⟩
      obtain ⟨x, hx⟩ : ∃ x, x = d.extract 0 q := ⟨_, rfl⟩
      have hts : t.size = n := by rw [ht, ByteArray.size_extract]; omega
      have htl : t.data.toList = (d.data.toList.drop k).take n := by
        rw [ht]
        show bytesOf _ = _
        rw [bytesOf_extract, hp0, show k + n - k = n by omega]
      have hxl : x.data.toList = d.data.toList.take (k + n + 1) := by
        rw [hx]
        show bytesOf _ = _
        rw [bytesOf_extract, hq0]
        rfl
      have hxs : x.size = q := by rw [hx, ByteArray.size_extract]; omega
      have HTX : Hid (d.extract k p = t) := ht.symm
      have HXX : Hid (d.extract 0 q = x) := hx.symm
      have HRS : Hid (recS t = recT t) := recS_in (by omega)
      have HYES : Hid (x = recT t → RecP d.data.toList (.returned (.tuple #[.string t, .int .i64 (q : Int)]))) := fun e => .inl ⟨t, s3_yes (by omega) (m := k + n + 1) (by rw [← hxl, e]), by rw [← e, hxs]⟩
      have HNO : Hid (x ≠ recT t → RecP d.data.toList (.returned (.tuple #[.string ⟨#[]⟩, .int .i64 0]))) := fun e => .inr ⟨s3_no HS3.out htl (fun e2 => e (ba_ext (by rw [hxl, e2]))), rfl⟩
      have hp1 : (k : Int) + (n : Int) = (p : Int) := by omega
      have hq1 : (n : Int) + 1 = ((n + 1 : Nat) : Int) := by omega
      have hq2 : (k : Int) + ((n : Int) + 1) = (q : Int) := by omega
      have c1 : (0 : Int) ≤ (k : Int) := by omega
      have c2 : (k : Int) ≤ (p : Int) := by omega
      have c3 : (p : Int) ≤ (d.size : Int) := by omega
      have c4 : (0 : Int) ≤ (q : Int) := by omega
      have c5 : (q : Int) ≤ (d.size : Int) := by omega
      have hT1 : Hid (Tab wr) := HTB.out _ hb
      clear hp0 hq0 hx ht htl hxl HS3 hshort hq1 hxs
      go_wp2_with fail
      rw [HTX.out]
      refine wp_region_noPanic ?_
      refine wp_region_held_drew (S := fun _ => True) (by kernel_rfl) trivial (fun hH => ?_)
      have qb := hb.drew
      have qT : Hid (Tab wr.drew) := hT1.out.on ((Below.refl _ _).drew)
      clear hT1 hb
      revert hH qb qT
      generalize wr.drew = W0
      intro hH qb qT
      refine tkG 0 67 hH ?_; try simp only [Act.put, sA, sZ, sS]
      refine tkG 1 68 hH ?_; try simp only [Act.put, sA, sZ, sS]
      refine tkG 2 69 hH ?_; try simp only [Act.put, sA, sZ, sS]
      refine tkG 3 70 hH ?_; try simp only [Act.put, sA, sZ, sS]
      rw [HXX.out]
      by_cases hxe : x = recT t
      · have heq : (x.toList == (recT t).toList) = true := by rw [hxe]; simp
        have HEND := HYES.out hxe
        clear hxe HYES HNO
        refine wpAnyH_ready (rs := [4]) (by kernel_rfl) (by simp) ?_
        refine AllReadyH.cons rfl (fun K hK => ?_) AllReadyH.nil
        go_simp
        refine (implRecord_any t _ (by omega) qT.out).mono ?_
        rw [HRS.out]
        rintro e w1 ⟨rfl, b1⟩
        have bb := qb.trans (b1.mono qb.size)
        refine hK.out _ _ trivial (fun hA => ?_)
        clear hK K
        try simp only [Act.put, sA, sZ, sS]
        refine tkG 5 72 hA ?_; try simp only [Act.put, sA, sZ, sS]
        refine wpAnyH_done (by kernel_rfl) ?_ _
        refine NoPanic.normal ?_
        clear qb b1 qT hH hA
        go_wp2_with fail
        refine (clone_any t _ (by omega)).mono ?_
        rintro e w2 ⟨rfl, b2⟩
        have b3 := bb.trans (b2.mono bb.size)
        clear bb b2
        go_wp2
        rw [JmpX_ret]
        go_ret2
        exact ⟨HEND, b3⟩
      · have heq : (x.toList == (recT t).toList) = false := by
          rw [beq_eq_false_iff_ne, toListB, toListB]
          exact fun e => hxe (ba_ext e)
        have HEND := HNO.out hxe
        clear hxe HYES HNO
        refine wpAnyH_ready (rs := [4]) (by kernel_rfl) (by simp) ?_
        refine AllReadyH.cons rfl (fun K hK => ?_) AllReadyH.nil
        go_simp
        refine (implRecord_any t _ (by omega) qT.out).mono ?_
        rw [HRS.out]
        rintro e w1 ⟨rfl, b1⟩
        have bb := qb.trans (b1.mono qb.size)
        refine hK.out _ _ trivial (fun hA => ?_)
        clear hK K
        try simp only [Act.put, sA, sZ, sS]
        refine tkG 5 72 hA ?_; try simp only [Act.put, sA, sZ, sS]
        refine wpAnyH_done (by kernel_rfl) ?_ _
        refine NoPanic.normal ?_
        clear qb b1 qT hH hA
        go_wp2
        go_step3
        go_wp2
        rw [JmpX_ret]
        go_ret2
        exact ⟨HEND, bb⟩
    · have HEND : Hid (RecP d.data.toList (.returned (.tuple #[.string ⟨#[]⟩, .int .i64 0]))) := .inr ⟨h0, rfl⟩
      clear h0 HS HM
      refine ⟨_, rfl, ?_⟩
      go_wp2
      rw [JmpX_ret]
      go_ret2
      exact ⟨HEND.out, hb⟩
  case first =>
    intro hp
    go_wp2
    go_step3
    rename_i K hK
    refine hK _ _ ?_
    exact hop (l := 1) hp rfl ⟨rfl, rfl, rfl, Below.refl _ _, 0, 0, Nat.zero_le _, Nat.zero_le _, rfl, rfl, .inl ⟨rfl, s1_start _⟩⟩
end Go.Proofs.YtpbbahpndgigjaaGreatDoor
