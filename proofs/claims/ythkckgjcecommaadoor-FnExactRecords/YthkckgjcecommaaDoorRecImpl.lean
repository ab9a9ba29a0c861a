/- The contract of the program's firstRecord, whose states are labels. -/
import Derived.Test.YthkckgjcecommaaDoorRecOne
import Derived.Test.YthkckgjcecommaaDoorJmp
namespace Go.Proofs.YthkckgjcecommaaDoor
open Go.RowKit
-- UNF Gen
theorem arr_all {A : Array Value} {n : Nat} (h : A.size = n) : A = ((List.range n).map fun i => A.getD i undef).toArray := by
  apply Array.ext
  · simp [h]
  · intro i h1 h2
    simp [h1]
/-- A frame of firstRecord, laid out. -/
theorem fr_rec {a : Act} {x0 x4 x5 : Value} (hs : a.tmps.size = 76) (hd : a.defers = []) (h0 : a.tmps.getD 0 undef = x0) (h4 : a.tmps.getD 4 undef = x4) (h5 : a.tmps.getD 5 undef = x5) :
    ∃ f : Nat → Value, a = { tmps := #[x0, f 1, f 2, f 3, x4, x5, f 6, f 7, f 8, f 9, f 10, f 11, f 12, f 13, f 14, f 15, f 16, f 17, f 18, f 19, f 20, f 21, f 22, f 23, f 24, f 25, f 26, f 27, f 28, f 29, f 30, f 31, f 32, f 33, f 34, f 35, f 36, f 37, f 38, f 39, f 40, f 41, f 42, f 43, f 44, f 45, f 46, f 47, f 48, f 49, f 50, f 51, f 52, f 53, f 54, f 55, f 56, f 57, f 58, f 59, f 60, f 61, f 62, f 63, f 64, f 65, f 66, f 67, f 68, f 69, f 70, f 71, f 72, f 73, f 74, f 75], defers := [] } := by
  obtain ⟨A, ds⟩ := a
  refine ⟨fun i => A.getD i undef, ?_⟩
  have e := arr_all hs
  have e2 : ((List.range 76).map fun i => A.getD i undef).toArray = #[A.getD 0 undef, A.getD 1 undef, A.getD 2 undef, A.getD 3 undef, A.getD 4 undef, A.getD 5 undef, A.getD 6 undef, A.getD 7 undef, A.getD 8 undef, A.getD 9 undef, A.getD 10 undef, A.getD 11 undef, A.getD 12 undef, A.getD 13 undef, A.getD 14 undef, A.getD 15 undef, A.getD 16 undef, A.getD 17 undef, A.getD 18 undef, A.getD 19 undef, A.getD 20 undef, A.getD 21 undef, A.getD 22 undef, A.getD 23 undef, A.getD 24 undef, A.getD 25 undef, A.getD 26 undef, A.getD 27 undef, A.getD 28 undef, A.getD 29 undef, A.getD 30 undef, A.getD 31 undef, A.getD 32 undef, A.getD 33 undef, A.getD 34 undef, A.getD 35 undef, A.getD 36 undef, A.getD 37 undef, A.getD 38 undef, A.getD 39 undef, A.getD 40 undef, A.getD 41 undef, A.getD 42 undef, A.getD 43 undef, A.getD 44 undef, A.getD 45 undef, A.getD 46 undef, A.getD 47 undef, A.getD 48 undef, A.getD 49 undef, A.getD 50 undef, A.getD 51 undef, A.getD 52 undef, A.getD 53 undef, A.getD 54 undef, A.getD 55 undef, A.getD 56 undef, A.getD 57 undef, A.getD 58 undef, A.getD 59 undef, A.getD 60 undef, A.getD 61 undef, A.getD 62 undef, A.getD 63 undef, A.getD 64 undef, A.getD 65 undef, A.getD 66 undef, A.getD 67 undef, A.getD 68 undef, A.getD 69 undef, A.getD 70 undef, A.getD 71 undef, A.getD 72 undef, A.getD 73 undef, A.getD 74 undef, A.getD 75 undef] := rfl
  subst hd
  show Act.mk A [] = _
  rw [← h0, ← h4, ← h5]
  exact congrArg (fun T => Act.mk T []) (e.trans e2)
/-- What holds at each label. -/
def FS (l : Nat) (d : List UInt8) (k n : Nat) : Prop := (l = 1 ∧ S1 d k n) ∨ (l = 2 ∧ n ≤ 3000 ∧ S2 d k n) ∨ (l = 3 ∧ n ≤ 3000 ∧ S3 d k n) ∨ (l = 0 ∧ S0 d)
def FJ (d : ByteArray) (w0 : World) (l : Nat) (a : Act) (w : World) : Prop :=
  a.tmps.size = 76 ∧ a.defers = [] ∧ a.tmps.getD 0 undef = .string d ∧ Below w0.heap.size w0 w ∧ ∃ n k : Nat, k ≤ d.size ∧ n ≤ 40000 ∧ a.tmps.getD 4 undef = .int .i64 n ∧ a.tmps.getD 5 undef = .int .i64 k ∧ Hid (FS l d.data.toList k n)
def fm (D : Nat) (l : Nat) (a : Act) (_ : World) : Nat :=
  if l = 1 then 3 * D + 10 - (intOf (a.tmps.getD 5 undef)).toNat else if l = 2 then D + 5 - (intOf (a.tmps.getD 5 undef)).toNat else if l = 3 then 1 else 0
theorem fj {d : ByteArray} {w0 w : World} {l : Nat} {a : Act} {n k : Nat} {M : Nat} (h1 : a.tmps.size = 76) (h2 : a.defers = []) (h3 : a.tmps.getD 0 undef = .string d) (h4 : a.tmps.getD 4 undef = .int .i64 n) (h5 : a.tmps.getD 5 undef = .int .i64 k) (hb : Below w0.heap.size w0 w) (hk : k ≤ d.size) (hn : n ≤ 40000) (hf : FS l d.data.toList k n)
    (hm : (if l = 1 then 3 * d.size + 10 - k else if l = 2 then d.size + 5 - k else if l = 3 then 1 else 0) < M) : FJ d w0 l a w ∧ fm d.size l a w < M := by
  refine ⟨⟨h1, h2, h3, hb, n, k, hk, hn, h4, h5, hf⟩, ?_⟩
  unfold fm
  rw [h5]
  simpa [intOf] using hm
set_option maxHeartbeats 4000000 in
set_option maxRecDepth 100000 in
theorem firstRecord_any (d : ByteArray) (w : World) (hd : d.size ≤ 1048576) (hT : Tab w) :
    Calls Tryd.prog 18 #[.string d] w fun e w' => RecP d.data.toList e ∧ Below w.heap.size w w' := by
  have hl := size_length d
  have HTB : Hid (∀ W, Below w.heap.size w W → Tab W) := fun W h => hT.on h
  clear hT
  go_enter Tryd.func18, Tryd.ntmps18
  go_wp2
  refine scope_all (FJ d w) (fm d.size) ?pass ?first
  case pass =>
    rintro l a wr ⟨hs, hdf, h0, hb, n, k, hk, hn, h4, h5, HS⟩
    have HM : Hid (fm d.size l a wr = if l = 1 then 3 * d.size + 10 - k else if l = 2 then d.size + 5 - k else if l = 3 then 1 else 0) := by unfold Hid fm; rw [h5]; simp [intOf]
    generalize fm d.size l a wr = M at HM
    obtain ⟨f, rfl⟩ := fr_rec hs hdf h0 h4 h5
    clear hs hdf h0 h4 h5
    rcases HS.out with ⟨rfl, h1⟩ | ⟨rfl, hn3, h2⟩ | ⟨rfl, hn3, h3⟩ | ⟨rfl, h0⟩
    · -- the size
      have HS1 : Hid (S1 d.data.toList k n) := h1
      have HMM : Hid (M = 3 * d.size + 10 - k) := HM.out
      clear h1 HS HM
      refine ⟨_, rfl, ?_⟩
      by_cases hke : k = d.size
      · have hq : ((k : Int) == (d.size : Int)) = true := by simp; omega
        have HZ : Hid (S0 d.data.toList) := s1_end HS1.out (by omega)
        clear hke
        go_wp2
        go_step3
        exact fj rfl rfl rfl rfl rfl hb hk hn (.inr (.inr (.inr ⟨rfl, HZ.out⟩))) (by rw [HMM.out]; simp; omega)
      have hq : ((k : Int) == (d.size : Int)) = false := by simp; omega
      have hlt : k < d.size := by omega
      by_cases hbig : 3000 < n
      · have HZ : Hid (S0 d.data.toList) := s1_big HS1.out hbig
        go_wp2
        go_step3
        exact fj rfl rfl rfl rfl rfl hb hk hn (.inr (.inr (.inr ⟨rfl, HZ.out⟩))) (by rw [HMM.out]; simp; omega)
      have hkl : k < d.data.toList.length := by omega
      by_cases hdig : isDig d[k]
      · have HN : Hid (S1 d.data.toList (k + 1) (10 * n + (d[k].toNat - 48))) := s1_digit HS1.out hkl hdig
        obtain ⟨g1, g2⟩ := hdig
        have hdd : (decide (48 ≤ d[k].toNat) && decide (d[k].toNat ≤ 57)) = true := by simp [g1, g2]
        clear hke HS1
        go_wp2_with fail
        refine (isDigit_any d[k] _).mono ?_
        rw [hdd]
        rintro e w1 ⟨rfl, hw1⟩
        obtain rfl := hw1.symm
        go_wp2
        go_step3
        exact fj (n := 10 * n + (d[k].toNat - 48)) (k := k + 1) rfl rfl rfl (congrArg (Value.int .i64) (by omega)) (congrArg (Value.int .i64) (by omega)) hb (by omega) (by omega) (.inl ⟨rfl, HN.out⟩) (by rw [HMM.out]; simp; omega)
      have hdd : (decide (48 ≤ d[k].toNat) && decide (d[k].toNat ≤ 57)) = false := by
        cases e : (decide (48 ≤ d[k].toNat) && decide (d[k].toNat ≤ 57)) with
        | false => rfl
        | true => simp at e; exact absurd e hdig
      by_cases hbl : d[k] = 32
      · have HN : Hid (S2 d.data.toList (k + 1) n) := s1_blank HS1.out hkl hbl
        have hq2 : ((d[k].toNat : Int) == 32) = true := by rw [hbl]; rfl
        clear hke HS1 hdig hbl
        go_wp2_with fail
        refine (isDigit_any d[k] _).mono ?_
        rw [hdd]
        rintro e w1 ⟨rfl, hw1⟩
        obtain rfl := hw1.symm
        go_wp2
        go_step3
        exact fj (n := n) (k := k + 1) rfl rfl rfl rfl (congrArg (Value.int .i64) (by omega)) hb (by omega) (by omega) (.inr (.inl ⟨rfl, by omega, HN.out⟩)) (by rw [HMM.out]; simp; omega)
      · have HZ : Hid (S0 d.data.toList) := s1_other HS1.out hkl hdig hbl
        have hq2 : ((d[k].toNat : Int) == 32) = false := by
          simp only [beq_eq_false_iff_ne]
          intro e
          exact hbl (UInt8.toNat_inj.1 (by show d[k].toNat = 32; omega))
        clear hke HS1 hdig hbl
        go_wp2_with fail
        refine (isDigit_any d[k] _).mono ?_
        rw [hdd]
        rintro e w1 ⟨rfl, hw1⟩
        obtain rfl := hw1.symm
        go_wp2
        go_step3
        exact fj rfl rfl rfl rfl rfl hb hk hn (.inr (.inr (.inr ⟨rfl, HZ.out⟩))) (by rw [HMM.out]; simp; omega)
    · -- the digest
      have HS2 : Hid (S2 d.data.toList k n) := h2
      have HMM : Hid (M = d.size + 5 - k) := HM.out
      clear h2 HS HM
      refine ⟨_, rfl, ?_⟩
      by_cases hke : k = d.size
      · have hq : ((k : Int) == (d.size : Int)) = true := by simp; omega
        have HZ : Hid (S0 d.data.toList) := s2_end HS2.out (by omega)
        clear hke
        go_wp2
        go_step3
        exact fj rfl rfl rfl rfl rfl hb hk hn (.inr (.inr (.inr ⟨rfl, HZ.out⟩))) (by rw [HMM.out]; simp; omega)
      have hq : ((k : Int) == (d.size : Int)) = false := by simp; omega
      have hlt : k < d.size := by omega
      have hkl : k < d.data.toList.length := by omega
      by_cases hdig : isDig d[k]
      · have HN : Hid (S2 d.data.toList (k + 1) n) := s2_digit HS2.out hkl hdig
        obtain ⟨g1, g2⟩ := hdig
        have hdd : (decide (48 ≤ d[k].toNat) && decide (d[k].toNat ≤ 57)) = true := by simp [g1, g2]
        clear hke HS2
        go_wp2_with fail
        refine (isDigit_any d[k] _).mono ?_
        rw [hdd]
        rintro e w1 ⟨rfl, hw1⟩
        obtain rfl := hw1.symm
        go_wp2
        go_step3
        exact fj (n := n) (k := k + 1) rfl rfl rfl rfl (congrArg (Value.int .i64) (by omega)) hb (by omega) (by omega) (.inr (.inl ⟨rfl, hn3, HN.out⟩)) (by rw [HMM.out]; simp; omega)
      have hdd : (decide (48 ≤ d[k].toNat) && decide (d[k].toNat ≤ 57)) = false := by
        cases e : (decide (48 ≤ d[k].toNat) && decide (d[k].toNat ≤ 57)) with
        | false => rfl
        | true => simp at e; exact absurd e hdig
      by_cases hbl : d[k] = 10
      · have HN : Hid (S3 d.data.toList (k + 1) n) := s2_lf HS2.out hkl hbl
        have hq2 : ((d[k].toNat : Int) == 10) = true := by rw [hbl]; rfl
        clear hke HS2 hdig hbl
        go_wp2_with fail
        refine (isDigit_any d[k] _).mono ?_
        rw [hdd]
        rintro e w1 ⟨rfl, hw1⟩
        obtain rfl := hw1.symm
        go_wp2
        go_step3
        exact fj (n := n) (k := k + 1) rfl rfl rfl rfl (congrArg (Value.int .i64) (by omega)) hb (by omega) (by omega) (.inr (.inr (.inl ⟨rfl, hn3, HN.out⟩))) (by rw [HMM.out]; simp; omega)
      · have HZ : Hid (S0 d.data.toList) := s2_other HS2.out hkl hdig hbl
        have hq2 : ((d[k].toNat : Int) == 10) = false := by
          simp only [beq_eq_false_iff_ne]
          intro e
          exact hbl (UInt8.toNat_inj.1 (by show d[k].toNat = 10; omega))
        clear hke HS2 hdig hbl
        go_wp2_with fail
        refine (isDigit_any d[k] _).mono ?_
        rw [hdd]
        rintro e w1 ⟨rfl, hw1⟩
        obtain rfl := hw1.symm
        go_wp2
        go_step3
        exact fj rfl rfl rfl rfl rfl hb hk hn (.inr (.inr (.inr ⟨rfl, HZ.out⟩))) (by rw [HMM.out]; simp; omega)
    · -- the text
      have HS3 : Hid (S3 d.data.toList k n) := h3
      have HMM : Hid (M = 1) := HM.out
      clear h3 HS HM
      refine ⟨_, rfl, ?_⟩
      by_cases hshort : d.size ≤ k + n
      · have hq : (d.size : Int) - (k : Int) ≤ (n : Int) := by omega
        have HZ : Hid (S0 d.data.toList) := s3_short HS3.out (by omega)
        go_wp2
        go_step3
        exact fj rfl rfl rfl rfl rfl hb hk hn (.inr (.inr (.inr ⟨rfl, HZ.out⟩))) (by rw [HMM.out]; simp)
      have hq : ¬ (d.size : Int) - (k : Int) ≤ (n : Int) := by omega
      obtain ⟨p, hp0⟩ : ∃ p, p = k + n := ⟨_, rfl⟩
      obtain ⟨q, hq0⟩ : ∃ q, q = k + (n + 1) := ⟨_, rfl⟩
      obtain ⟨t, ht⟩ : ∃ t, t = d.extract k p := ⟨_, rfl⟩
      obtain ⟨x, hx⟩ : ∃ x, x = d.extract 0 q := ⟨_, rfl⟩
      have hts : t.size = n := by rw [ht, ByteArray.size_extract]; omega
      have htl : t.data.toList = (d.data.toList.drop k).take n := by
        rw [ht]
        show bytesOf _ = _
        rw [bytesOf_extract, hp0, show k + n - k = n by omega]
      have hxl : x.data.toList = d.data.toList.take (k + n + 1) := by
        rw [hx]
        show bytesOf _ = _
        rw [bytesOf_extract, hq0]
        rfl
      have hxs : x.size = q := by rw [hx, ByteArray.size_extract]; omega
      have HTX : Hid (d.extract k p = t) := ht.symm
      have HXX : Hid (d.extract 0 q = x) := hx.symm
      have HRS : Hid (recS t = recT t) := recS_in (by omega)
      have HYES : Hid (x = recT t → RecP d.data.toList (.returned (.tuple #[.string t, .int .i64 (q : Int)]))) := fun e => .inl ⟨t, s3_yes (by omega) (m := k + n + 1) (by rw [← hxl, e]), by rw [← e, hxs]⟩
      have HNO : Hid (x ≠ recT t → RecP d.data.toList (.returned (.tuple #[.string ⟨#[]⟩, .int .i64 0]))) := fun e => .inr ⟨s3_no HS3.out htl (fun e2 => e (ba_ext (by rw [hxl, e2]))), rfl⟩
      have hp1 : (k : Int) + (n : Int) = (p : Int) := by omega
      have hq1 : (n : Int) + 1 = ((n + 1 : Nat) : Int) := by omega
      have hq2 : (k : Int) + ((n : Int) + 1) = (q : Int) := by omega
      have c1 : (0 : Int) ≤ (k : Int) := by omega
      have c2 : (k : Int) ≤ (p : Int) := by omega
      have c3 : (p : Int) ≤ (d.size : Int) := by omega
      have c4 : (0 : Int) ≤ (q : Int) := by omega
      have c5 : (q : Int) ≤ (d.size : Int) := by omega
      have hT1 : Hid (Tab wr) := HTB.out _ hb
      clear hp0 hq0 hx ht htl hxl HS3 hshort hq1 hxs
      go_wp2_with fail
      rw [HTX.out]
      refine wp_region_noPanic ?_
      refine wp_region_held_drew (S := fun _ => True) (by kernel_rfl) trivial (fun hH => ?_)
      have qb := hb.drew
      have qT : Hid (Tab wr.drew) := hT1.out.on ((Below.refl _ _).drew)
      clear hT1 hb
      revert hH qb qT
      generalize wr.drew = W0
      intro hH qb qT
      refine tkG 0 67 hH ?_
      try simp only [Act.put, List.setIfInBounds_toArray, List.set_cons_zero, List.set_cons_succ]
      refine tkG 1 68 hH ?_
      try simp only [Act.put, List.setIfInBounds_toArray, List.set_cons_zero, List.set_cons_succ]
      refine tkG 2 69 hH ?_
      try simp only [Act.put, List.setIfInBounds_toArray, List.set_cons_zero, List.set_cons_succ]
      refine tkG 3 70 hH ?_
      try simp only [Act.put, List.setIfInBounds_toArray, List.set_cons_zero, List.set_cons_succ]
      rw [HXX.out]
      by_cases hxe : x = recT t
      · have heq : (x.toList == (recT t).toList) = true := by rw [hxe]; simp
        have HEND := HYES.out hxe
        clear hxe HYES HNO
        refine wpAnyH_ready (rs := [4]) (by kernel_rfl) (by simp) ?_
        refine AllReadyH.cons rfl (fun K hK => ?_) AllReadyH.nil
        go_simp
        refine (implRecord_any t _ (by omega) qT.out).mono ?_
        rw [HRS.out]
        rintro e w1 ⟨rfl, b1⟩
        have bb := qb.trans (b1.mono qb.size)
        refine hK.out _ _ trivial (fun hA => ?_)
        clear hK K
        try simp only [Act.put, List.setIfInBounds_toArray, List.set_cons_zero, List.set_cons_succ]
        refine tkG 5 72 hA ?_
        try simp only [Act.put, List.setIfInBounds_toArray, List.set_cons_zero, List.set_cons_succ]
        refine wpAnyH_done (by kernel_rfl) ?_ _
        refine NoPanic.normal ?_
        clear qb b1 qT hH hA
        go_wp2_with fail
        refine (clone_any t _ (by omega)).mono ?_
        rintro e w2 ⟨rfl, b2⟩
        have b3 := bb.trans (b2.mono bb.size)
        clear bb b2
        go_wp2
        rw [JmpX_ret]
        go_ret2
        exact ⟨HEND, b3⟩
      · have heq : (x.toList == (recT t).toList) = false := by
          rw [beq_eq_false_iff_ne, toListB, toListB]
          exact fun e => hxe (ba_ext e)
        have HEND := HNO.out hxe
        clear hxe HYES HNO
        refine wpAnyH_ready (rs := [4]) (by kernel_rfl) (by simp) ?_
        refine AllReadyH.cons rfl (fun K hK => ?_) AllReadyH.nil
        go_simp
        refine (implRecord_any t _ (by omega) qT.out).mono ?_
        rw [HRS.out]
        rintro e w1 ⟨rfl, b1⟩
        have bb := qb.trans (b1.mono qb.size)
        refine hK.out _ _ trivial (fun hA => ?_)
        clear hK K
        try simp only [Act.put, List.setIfInBounds_toArray, List.set_cons_zero, List.set_cons_succ]
        refine tkG 5 72 hA ?_
        try simp only [Act.put, List.setIfInBounds_toArray, List.set_cons_zero, List.set_cons_succ]
        refine wpAnyH_done (by kernel_rfl) ?_ _
        refine NoPanic.normal ?_
        clear qb b1 qT hH hA
        go_wp2
        go_step3
        go_wp2
        rw [JmpX_ret]
        go_ret2
        exact ⟨HEND, bb⟩
    · have HEND : Hid (RecP d.data.toList (.returned (.tuple #[.string ⟨#[]⟩, .int .i64 0]))) := .inr ⟨h0, rfl⟩
      clear h0 HS HM
      refine ⟨_, rfl, ?_⟩
      go_wp2
      rw [JmpX_ret]
      go_ret2
      exact ⟨HEND.out, hb⟩
  case first =>
    intro hp
    go_wp2
    go_step3
    rename_i K hK
    refine hK _ _ ?_
    exact hop (l := 1) hp rfl ⟨rfl, rfl, rfl, Below.refl _ _, 0, 0, Nat.zero_le _, Nat.zero_le _, rfl, rfl, .inl ⟨rfl, s1_start _⟩⟩
end Go.Proofs.YthkckgjcecommaaDoor
