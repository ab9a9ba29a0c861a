/- The contract of the model's l10Record: the record with which a disk begins. -/
import Derived.Test.YthkckgjcecommaaDoorRecOne
namespace Go.Proofs.YthkckgjcecommaaDoor
open Go.RowKit
theorem rdS_ix {w : World} {a : Option Addr} {n cap : Nat} {ss : List ByteArray} (h : RdS w (.slice a n cap) ss) (i : Nat) (hi : i < ss.length) : n = ss.length ∧ n ≤ cap ∧ ∃ b off, a = some ⟨b, off, none⟩ ∧ w.cell? ⟨b, off + i, none⟩ = some (.string ss[i]) := by
  obtain ⟨a', c', e, h1, h2, h3⟩ := h
  injection e with e1 e2 e3
  subst e1
  subst e2
  subst e3
  rcases h3 with rfl | ⟨b, off, rfl, hc⟩
  · simp at hi
  · exact ⟨rfl, h1, b, off, rfl, hc i hi⟩
/-- The first byte 10 of a disk that begins with a record. -/
theorem end_at {d : List UInt8} {t : ByteArray} (h : isRec d t) {k : Nat} (hn : ∀ j, j < k → d[j]? ≠ some 10) (hk : k < d.length → d[k]? = some 10) (hl : k ≤ d.length) : k = (szL t).length + 1 + (dgL t).length := by
  have hL := rec_len h
  have h1 := lf_at h
  rcases Nat.lt_trichotomy k ((szL t).length + 1 + (dgL t).length) with hlt | he | hgt
  · have hk' := hk (by omega)
    rcases Nat.lt_trichotomy k (szL t).length with h2 | h2 | h2
    · obtain ⟨_, e⟩ := szL_at h h2
      rw [List.getElem?_eq_getElem (by omega)] at hk'
      have hd := szL_dig t _ (List.getElem_mem h2)
      rw [← e, Option.some.inj hk'] at hd
      exact absurd hd not_dig_10
    · subst h2
      rw [blank_at h] at hk'
      cases hk'
    · have hd := s2_in h (by omega) (show (szL t).length + 1 ≤ k by omega) hlt
      rw [List.getElem?_eq_getElem (by omega)] at hk'
      rw [Option.some.inj hk'] at hd
      exact absurd hd not_dig_10
  · exact he
  · exact absurd h1 (hn _ hgt)
theorem head_words {d : List UInt8} {t : ByteArray} (h : isRec d t) : wordsL (d.take ((szL t).length + 1 + (dgL t).length)) = [szL t, dgL t] := by
  obtain ⟨_, r, rfl⟩ := h
  have e : szL t ++ 32 :: (dgL t ++ 10 :: (t.data.toList ++ 10 :: r)) = (szL t ++ 32 :: dgL t) ++ (10 :: (t.data.toList ++ 10 :: r)) := by simp
  have hl : (szL t).length + 1 + (dgL t).length = (szL t ++ 32 :: dgL t).length := by simp; omega
  rw [e, hl, List.take_left, words_app _ _ (no_dig (szL_dig _) not_dig_32), words_one _ (no_dig (dgL_dig _) not_dig_32)]
theorem words_flat : ∀ (l a : List UInt8), a ∈ wordsL l → a.length ≤ l.length
  | [], a, h => by
    have : a = [] := by simpa [wordsL] using h
    subst this; simp
  | b :: l, a, h => by
    have ih := words_flat l
    by_cases hb : b = 32
    · subst hb
      have e := words_app [] l (by simp)
      rw [List.nil_append] at e
      rw [e] at h
      rcases List.mem_cons.1 h with rfl | h
      · simp
      · have := ih a h; simp; omega
    · rw [wordsL, if_neg hb] at h
      split at h
      · rename_i x y e
        rcases List.mem_cons.1 h with rfl | h
        · have := ih x (by rw [e]; exact List.mem_cons_self)
          simp; omega
        · have := ih a (by rw [e]; exact List.mem_cons_of_mem _ h)
          simp; omega
      · have : a = [b] := by simpa using h
        subst this; simp
theorem number_sz (n : Nat) (w : World) (hn : n ≤ 3000) :
    Calls Tryd.prog 24 #[.string (itoaS (n : Int))] w fun e w' => e = .returned (.tuple #[.int .i64 (n : Int), .bool true]) ∧ w' = w := by
  by_cases h : n = 0
  · subst h
    have e : itoaS ((0 : Nat) : Int) = ⟨#[48]⟩ := ba_ext (by rw [itoa_nat, dec_left]; rfl)
    rw [e]
    exact number_zero w
  · exact number_dec (n : Int) w (by omega) (by omega)
set_option maxHeartbeats 4000000 in
set_option maxRecDepth 100000 in
theorem l10Record_any (d : ByteArray) (w : World) (hd : d.size ≤ 1048576) :
    Calls Tryd.prog 17 #[.string d] w fun e w' => RecP d.data.toList e ∧ Below w.heap.size w w' := by
  have hl := size_length d
  go_enter Tryd.func17, Tryd.ntmps17
  go_wp2
  go_loop [4] (fun kk => ∃ k : Nat, k ≤ d.size ∧ kk = .int .i64 k ∧ Hid (∀ j, j < k → d.data.toList[j]? ≠ some 10)) (fun kk => d.size - (intOf kk).toNat)
  case atStart => exact ⟨0, Nat.zero_le _, rfl, fun j h => by omega⟩
  case round =>
    obtain ⟨k, hk, rfl, HK⟩ := hrel
    by_cases hgo : ∃ h : k < d.size, d[k] ≠ 10
    · obtain ⟨hlt, hne⟩ := hgo
      have HN : Hid (∀ j, j < k + 1 → d.data.toList[j]? ≠ some 10) := fun j hj => by
        rcases Nat.lt_or_ge j k with h | h
        · exact HK.out j h
        · obtain rfl : j = k := by omega
          rw [List.getElem?_eq_getElem (by omega)]
          intro e
          exact hne (Option.some.inj e)
      have hq : ((d[k].toNat : Int) != 10) = true := by
        simp only [bne_iff_ne, ne_eq]
        intro e
        exact hne (UInt8.toNat_inj.1 (by show d[k].toNat = 10; omega))
      clear hne HK
      go_wp2
      go_round
      case rel => exact ⟨k + 1, by omega, by go_num, HN⟩
      case measure => simp [intOf]; omega
    · have HE : Hid (k < d.data.toList.length → d.data.toList[k]? = some 10) := fun h => by
        rw [List.getElem?_eq_getElem h]
        have : ¬ d[k]'(by omega) ≠ 10 := fun h2 => hgo ⟨by omega, h2⟩
        exact congrArg some (Decidable.not_not.1 this)
      obtain ⟨x, hx⟩ : ∃ x, x = d.extract 0 k := ⟨_, rfl⟩
      have hxb : bytesOf x = d.data.toList.take k := by rw [hx, bytesOf_extract]; simp
      have hxs : x.size ≤ 1048576 := by rw [hx, ByteArray.size_extract]; omega
      have HX : Hid (x = d.extract 0 k) := hx
      have HXB : Hid (x.data.toList = d.data.toList.take k) := hxb
      clear hx hxb
      have c0 : (0 : Int) ≤ (k : Int) := by omega
      have c1 : (k : Int) ≤ (d.size : Int) := by omega
      have HW : Hid (∀ W, Calls Tryd.prog 23 #[.string x] W fun e w' => WordsP W x e w') := fun W => words_any x W hxs
      have HN0 : Hid (∀ ys : List ByteArray, ys.map bytesOf = wordsL x.data.toList → ∃ y r, ys = y :: r ∧ y.size ≤ 1048576) := fun ys hy => by
        cases ys with
        | nil => exact absurd hy.symm (words_ne _)
        | cons y r =>
          refine ⟨y, r, rfl, ?_⟩
          have h2 := words_flat x.data.toList y.data.toList (by rw [← hy]; exact List.mem_cons_self)
          rw [size_length, size_length] at h2
          omega
      by_cases hlt : k < d.size
      · have hq : ((d[k].toNat : Int) != 10) = false := by
          have : ¬ d[k] ≠ 10 := fun h2 => hgo ⟨hlt, h2⟩
          have e : d[k] = 10 := Decidable.not_not.1 this
          rw [e]; rfl
        have hq2 : ((k : Int) == (d.size : Int)) = false := by simp; omega
        clear hgo
        by_cases hrec : ∃ t, isRec d.data.toList t
        · obtain ⟨t, ht⟩ := hrec
          have hk2 := end_at ht HK.out HE.out (by omega)
          have h3 := rec_len ht
          have h4 := ht.1
          have HY : Hid (∀ ys : List ByteArray, ys.map bytesOf = wordsL x.data.toList → ∃ y r, ys = y :: r ∧ y = itoaS (t.size : Int)) := fun ys hy => by
            rw [HXB.out, hk2, head_words ht] at hy
            cases ys with
            | nil => cases hy
            | cons y r =>
              refine ⟨y, r, rfl, ba_ext ?_⟩
              rw [itoa_nat]
              exact (List.cons.inj hy).1
          have HTX : Hid (d.extract (k + 1) (k + 1 + t.size) = t) := ba_ext (by
            show bytesOf _ = _
            rw [bytesOf_extract, show k + 1 + t.size - (k + 1) = t.size by omega, hk2]
            exact text_at ht)
          have HTK : Hid (d.extract 0 (recT t).size = recT t) := ba_ext (by
            show bytesOf _ = _
            rw [bytesOf_extract, recT_len]
            exact take_at ht)
          have HEND : Hid (RecP d.data.toList (.returned (.tuple #[.string t, .int .i64 ((recT t).size : Int)]))) := .inl ⟨t, ht, rfl⟩
          have hrs := recT_len t
          have HNM : Hid (∀ W, Calls Tryd.prog 24 #[.string (itoaS (t.size : Int))] W fun e w' => e = .returned (.tuple #[.int .i64 (t.size : Int), .bool true]) ∧ w' = W) := fun W => number_sz t.size W h4
          have HRS : Hid (recS t = recT t) := recS_in h4
          obtain ⟨n, hn⟩ : ∃ n, n = t.size := ⟨_, rfl⟩
          obtain ⟨m, hm⟩ : ∃ m, m = (recT t).size := ⟨_, rfl⟩
          have hm1 : m ≤ d.size := by omega
          have hn1 : k + 1 + n ≤ d.size := by omega
          have hn2 : n ≤ 3000 := by omega
          have HNN : Hid (n = t.size) := hn
          have HMM : Hid (m = (recT t).size) := hm
          rw [← hn] at HTX HNM
          rw [← hm] at HTK HEND
          have hin : (decide ((0 : Int) ≤ (n : Int)) && decide ((n : Int) ≤ 3000)) = true := by simp; omega
          obtain ⟨p, hp0⟩ : ∃ p, p = k + 1 := ⟨_, rfl⟩
          obtain ⟨q, hq0⟩ : ∃ q, q = p + n := ⟨_, rfl⟩
          have hp1 : (k : Int) + 1 = (p : Int) := by omega
          have hp2 : (p : Int) + (n : Int) = (q : Int) := by omega
          have hp3 : (0 : Int) ≤ (p : Int) := by omega
          have hp4 : (p : Int) ≤ (q : Int) := by omega
          have hp5 : (q : Int) ≤ (d.size : Int) := by omega
          have hp6 : ¬ (d.size : Int) - (p : Int) < (n : Int) := by omega
          rw [← hp0, ← hq0] at HTX
          rw [hm] at hm1 HTK
          have hm2 : ¬ (d.size : Int) < ((recT t).size : Int) := by omega
          have hm3 : ((recT t).size : Int) ≤ (d.size : Int) := by omega
          have hm4 : (0 : Int) ≤ ((recT t).size : Int) := by omega
          have heq : (!(d.extract 0 (recT t).size).toList == (recT t).toList) = false := by rw [HTK.out]; simp
          clear hp0 hq0 hn1 hm1
          clear hrs hk2 h3 h4 ht hn hm HE HK HXB HN0
          go_wp2_with fail
          rw [← HX.out]
          refine (HW.out _).mono ?_
          rintro e w2 ⟨v, ys, rfl, hys, hr2, b2⟩
          obtain ⟨y, r, rfl, rfl⟩ := HY.out _ hys
          obtain ⟨a, cap, rfl, g1, g2, -⟩ := id hr2
          obtain ⟨-, -, b, off, rfl, hc⟩ := rdS_ix hr2 0 (by simp)
          have c5 : (0 : Int) < ((itoaS (t.size : Int) :: r).length : Int) := by rw [List.length_cons]; omega
          obtain ⟨L, hL⟩ : ∃ L, L = (itoaS (t.size : Int) :: r).length := ⟨_, rfl⟩
          rw [← hL] at c5 g1 ⊢
          have hc' : w2.cell? ⟨b, off, none⟩ = some (.string (itoaS (t.size : Int))) := by simpa using hc
          rw [← HNN.out] at hc'
          clear hys hr2 HY hc hL HW
          go_wp2_with fail
          rw [HNN.out]
          rw [HNN.out] at HNM
          refine (HNM.out _).mono ?_
          rw [← HNN.out]
          rintro e w3 ⟨rfl, hw3⟩
          obtain rfl := hw3.symm
          clear HNM hc'
          go_wp2_with fail
          refine (inS_any (n : Int) 0 3000 _).mono ?_
          rw [hin]
          rintro e w4 ⟨rfl, hw4⟩
          obtain rfl := hw4.symm
          go_wp2_with fail
          rw [HTX.out]
          refine (specRecord_any t _ (by have := HNN.out; omega)).mono ?_
          rw [HRS.out]
          rintro e w5 ⟨rfl, b5⟩
          have bb := b2.trans (b5.mono b2.size)
          clear b2 b5
          go_wp2
          go_ret2
          exact ⟨by rw [← HMM.out]; exact HEND.out, bb⟩
        · have HS0 : Hid (S0 d.data.toList) := fun t ht => hrec ⟨t, ht⟩
          have HEND : Hid (RecP d.data.toList (.returned (.tuple #[.string ⟨#[]⟩, .int .i64 0]))) := .inr ⟨HS0.out, rfl⟩
          clear hrec HK HE HXB
          go_wp2_with fail
          rw [← HX.out]
          refine (HW.out _).mono ?_
          rintro e w2 ⟨v, ys, rfl, hys, hr2, b2⟩
          obtain ⟨y, r, rfl, hy⟩ := HN0.out _ hys
          obtain ⟨a, cap, rfl, g1, g2, -⟩ := id hr2
          obtain ⟨-, -, b, off, rfl, hc⟩ := rdS_ix hr2 0 (by simp)
          have c5 : (0 : Int) < ((y :: r).length : Int) := by rw [List.length_cons]; omega
          obtain ⟨L, hL⟩ : ∃ L, L = (y :: r).length := ⟨_, rfl⟩
          rw [← hL] at c5 g1 ⊢
          have hc' : w2.cell? ⟨b, off, none⟩ = some (.string y) := by simpa using hc
          clear hys hr2 hc hL HW HN0
          go_wp2_with fail
          refine (number_any y _ hy).mono ?_
          rintro e w3 ⟨⟨z, is, rfl⟩, hw3⟩
          obtain rfl := hw3.symm
          clear hc'
          cases is with
          | false =>
            go_wp2
            go_ret2
            exact ⟨HEND.out, b2⟩
          | true =>
            by_cases hin0 : 0 ≤ z ∧ z ≤ 3000
            · obtain ⟨hz0, hz1⟩ := hin0
              obtain ⟨n, rfl⟩ := Int.eq_ofNat_of_zero_le hz0
              have hin : (decide ((0 : Int) ≤ (n : Int)) && decide ((n : Int) ≤ 3000)) = true := by simp; omega
              obtain ⟨p, hp0⟩ : ∃ p, p = k + 1 := ⟨_, rfl⟩
              have hp1 : (k : Int) + 1 = (p : Int) := by omega
              have hpb : (p : Int) ≤ 1048577 := by omega
              have hp3 : (0 : Int) ≤ (p : Int) := by omega
              clear hp0
              by_cases hlong : (d.size : Int) - (p : Int) < (n : Int)
              · go_wp2_with fail
                refine (inS_any (n : Int) 0 3000 _).mono ?_
                rw [hin]
                rintro e w4 ⟨rfl, hw4⟩
                obtain rfl := hw4.symm
                go_wp2
                go_ret2
                exact ⟨HEND.out, b2⟩
              · obtain ⟨q, hq0⟩ : ∃ q, q = p + n := ⟨_, rfl⟩
                have hp2 : (p : Int) + (n : Int) = (q : Int) := by omega
                have hp4 : (p : Int) ≤ (q : Int) := by omega
                have hp5 : (q : Int) ≤ (d.size : Int) := by omega
                obtain ⟨t, ht⟩ : ∃ t, t = d.extract p q := ⟨_, rfl⟩
                have HTX : Hid (d.extract p q = t) := ht.symm
                have hts : t.size ≤ 3000 := by rw [ht, ByteArray.size_extract]; omega
                have HRS : Hid (recS t = recT t) := recS_in hts
                have hrz := recT_size hts
                clear hq0 ht
                go_wp2_with fail
                refine (inS_any (n : Int) 0 3000 _).mono ?_
                rw [hin]
                rintro e w4 ⟨rfl, hw4⟩
                obtain rfl := hw4.symm
                go_wp2_with fail
                rw [HTX.out]
                refine (specRecord_any t _ (by omega)).mono ?_
                rw [HRS.out]
                rintro e w5 ⟨rfl, b5⟩
                have bb := b2.trans (b5.mono b2.size)
                clear b2 b5
                by_cases hm0 : (d.size : Int) < ((recT t).size : Int)
                · go_wp2
                  go_ret2
                  exact ⟨HEND.out, bb⟩
                · have hm3 : ((recT t).size : Int) ≤ (d.size : Int) := by omega
                  have hm4 : (0 : Int) ≤ ((recT t).size : Int) := by omega
                  have heq : (!(d.extract 0 (recT t).size).toList == (recT t).toList) = true := by
                    simp only [Bool.not_eq_true', beq_eq_false_iff_ne]
                    rw [toListB, toListB]
                    intro e
                    refine HS0.out t (s3_yes hts (m := (recT t).size) ?_)
                    rw [← e]
                    exact (bytesOf_extract d 0 (recT t).size).symm
                  go_wp2
                  go_ret2
                  exact ⟨HEND.out, bb⟩
            · have hin : (decide ((0 : Int) ≤ z) && decide (z ≤ 3000)) = false := by simp; omega
              go_wp2_with fail
              refine (inS_any z 0 3000 _).mono ?_
              rw [hin]
              rintro e w4 ⟨rfl, hw4⟩
              obtain rfl := hw4.symm
              go_wp2
              go_ret2
              exact ⟨HEND.out, b2⟩
      · have hke : k = d.size := by omega
        have HEND : Hid (RecP d.data.toList (.returned (.tuple #[.string ⟨#[]⟩, .int .i64 0]))) := .inr ⟨fun t ht => by
          have := end_at ht HK.out HE.out (by omega)
          have := rec_len ht
          omega, rfl⟩
        have hq2 : ((k : Int) == (d.size : Int)) = true := by simp; omega
        clear hgo HK HE HXB hke
        go_wp2_with fail
        rw [← HX.out]
        refine (HW.out _).mono ?_
        rintro e w2 ⟨v, ys, rfl, hys, hr2, b2⟩
        obtain ⟨y, r, rfl, hy⟩ := HN0.out _ hys
        obtain ⟨a, cap, rfl, g1, g2, -⟩ := id hr2
        obtain ⟨-, -, b, off, rfl, hc⟩ := rdS_ix hr2 0 (by simp)
        have c5 : (0 : Int) < ((y :: r).length : Int) := by rw [List.length_cons]; omega
        obtain ⟨L, hL⟩ : ∃ L, L = (y :: r).length := ⟨_, rfl⟩
        rw [← hL] at c5 g1 ⊢
        have hc' : w2.cell? ⟨b, off, none⟩ = some (.string y) := by simpa using hc
        clear hys hr2 hc hL HW HN0
        go_wp2_with fail
        refine (number_any y _ hy).mono ?_
        rintro e w3 ⟨⟨n, is, rfl⟩, hw3⟩
        obtain rfl := hw3.symm
        clear hc'
        go_wp2
        go_ret2
        exact ⟨HEND.out, b2⟩
end Go.Proofs.YthkckgjcecommaaDoor
