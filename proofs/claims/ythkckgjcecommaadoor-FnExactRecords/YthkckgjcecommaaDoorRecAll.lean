/- The contracts of both Records over any disk. -/
import Derived.Test.YthkckgjcecommaaDoorRecSpec
import Derived.Test.YthkckgjcecommaaDoorRecImpl
namespace Go.Proofs.YthkckgjcecommaaDoor
open Go.RowKit
/-- What a Records leaves: the texts, in memory of its own, and how many bytes they take. -/
def RecsPost (w : World) (ts : List ByteArray) (n : Nat) (e : Ending) (w' : World) : Prop :=
  ∃ u, e = .returned (.tuple #[u, .int .i64 (n : Int)]) ∧ OwnS w' w.heap.size u ts ∧ Below w.heap.size w w'
/-- Where a Records stands: what is told, what is left. -/
def RecI (d : List UInt8) (ts : List ByteArray) (n : Nat) (ys : List ByteArray) (p : Nat) : Prop :=
  ∃ rest m, ts = ys ++ rest ∧ n = p + m ∧ RecsP (d.drop p) rest m
theorem recI_start {d : List UInt8} {ts : List ByteArray} {n : Nat} (h : RecsP d ts n) : RecI d ts n [] 0 := ⟨ts, n, rfl, by omega, h⟩
theorem recI_next {d x : List UInt8} {ts ys : List ByteArray} {n p : Nat} (hx : x = d.drop p) (hp : p ≤ d.length) (h : RecI d ts n ys p) {e : Ending} (he : RecP x e) :
    (∃ (t : ByteArray) (q : Nat), e = .returned (.tuple #[.string t, .int .i64 (q : Int)]) ∧ 4 ≤ q ∧ q ≤ 4000 ∧ p + q ≤ d.length ∧ RecI d ts n (ys ++ [t]) (p + q)) ∨ (e = .returned (.tuple #[.string ⟨#[]⟩, .int .i64 0]) ∧ ts = ys ∧ n = p) := by
  obtain ⟨rest, m, e1, e2, hr⟩ := h
  subst hx
  rcases recs_next hr with ⟨t, r, m', rfl, rfl, ht, hr'⟩ | ⟨rfl, rfl, h0⟩
  · rcases he with ⟨t', ht', rfl⟩ | ⟨h0, _⟩
    · obtain rfl := isRec_unique ht' ht
      have hs := recT_size ht.1
      have hl := rec_len ht
      rw [← recT_len, List.length_drop] at hl
      refine .inl ⟨t', (recT t').size, rfl, hs.1, hs.2, by omega, r, m', by rw [e1]; simp, by omega, ?_⟩
      rw [List.drop_drop] at hr'
      exact hr'
    · exact absurd ht (h0 t)
  · rcases he with ⟨t', ht', _⟩ | ⟨_, rfl⟩
    · exact absurd ht' (h0 t')
    · exact .inr ⟨rfl, by rw [e1]; simp, by omega⟩
set_option maxHeartbeats 4000000 in
set_option maxRecDepth 100000 in
theorem specRecords_any (d : ByteArray) (ts : List ByteArray) (n : Nat) (w : World) (hd : d.size ≤ 1048576) (h : RecsP d.data.toList ts n) :
    Calls Tryd.prog 7 #[.string d] w fun e w' => RecsPost w ts n e w' := by
  have hl := size_length d
  have HI : Hid (RecI d.data.toList ts n [] 0) := recI_start h
  have o0 := ownS_none w
  have b0 := below1 w (.cells #[] 9)
  clear h
  go_enter Tryd.func7, Tryd.ntmps7
  go_wp2
  go_loopw [4, 5, 6, 7] (fun oo pp _ _ wr => ∃ (p : Nat) (ys : List ByteArray), pp = .int .i64 p ∧ p ≤ d.size ∧ ys.length ≤ p ∧ Hid (RecI d.data.toList ts n ys p) ∧ OwnS wr w.heap.size oo ys ∧ Below w.heap.size w wr) (fun _ pp _ _ _ => d.size + 1 - (intOf pp).toNat)
  case atStart => exact ⟨0, [], rfl, Nat.zero_le _, Nat.le_refl _, HI.out, o0, b0⟩
  case round =>
    clear o0 b0 HI
    obtain ⟨p, ys, rfl, hp, hy, HI, ho, hb⟩ := hrel
    obtain ⟨x, hx⟩ : ∃ x, x = d.extract p d.size := ⟨_, rfl⟩
    have hxs : x.size ≤ 1048576 := by rw [hx, ByteArray.size_extract]; omega
    have HX : Hid (d.extract p d.size = x) := hx.symm
    have HXL : Hid (x.data.toList = d.data.toList.drop p) := by
      unfold Hid
      rw [hx]
      show bytesOf _ = _
      rw [bytesOf_extract, List.take_of_length_le (by rw [List.length_drop]; omega)]
    have c1 : (0 : Int) ≤ (p : Int) := by omega
    have c2 : (p : Int) ≤ (d.size : Int) := by omega
    clear hx
    go_wp2_with fail
    rw [HX.out]
    refine (l10Record_any x _ hxs).mono ?_
    rintro e w1 ⟨he, hb1⟩
    have HN := recI_next HXL.out (by omega) HI.out he
    have b1 := hb.trans (hb1.mono hb.size)
    have o1 := ho.below hb1
    clear he hb1 hb ho HI HXL
    rcases HN with ⟨t, q, rfl, hq1, hq2, hq3, hI⟩ | ⟨rfl, hts, hnn⟩
    · have HI : Hid (RecI d.data.toList ts n (ys ++ [t]) (p + q)) := hI
      have hqz : ((q : Int) == 0) = false := by simp; omega
      have s1 := b1.size
      have ho2 := o1.below (below1 w1 (.cells #[.string t] 9))
      have hr2 := oneT_rd w1 t
      clear hI
      go_wp2_with (at_builtin; (refine wpList_append_txts rfl _ _ rfl w.heap.size _ _ ys [t] rfl rfl ho2 hr2 ?c1 (by simp; omega) (by simp; omega) ?_))
      case c1 => intro n c e; cases e
      intro v' w3 hown' hgrow
      have hb3 := pushS_below o1 (Nat.le_refl _) b1 s1 hgrow
      clear ho2 hr2 o1 b1 hgrow
      go_wp2
      go_roundw
      case rel => exact ⟨p + q, ys ++ [t], by go_num, by omega, by rw [List.length_append]; simp; omega, HI, hown', hb3⟩
      case measure => simp [intOf]; omega
    · have HE : Hid (ts = ys ∧ n = p) := ⟨hts, hnn⟩
      clear hts hnn
      go_wp2
      go_ret2
      obtain ⟨e1, e2⟩ := HE.out
      subst e1
      subst e2
      exact ⟨_, rfl, o1, b1⟩
set_option maxHeartbeats 4000000 in
set_option maxRecDepth 100000 in
theorem implRecords_any (d : ByteArray) (ts : List ByteArray) (n : Nat) (w : World) (hd : d.size ≤ 1048576) (hT : Tab w) (h : RecsP d.data.toList ts n) :
    Calls Tryd.prog 8 #[.string d] w fun e w' => RecsPost w ts n e w' := by
  have hl := size_length d
  have HTB : Hid (∀ W, Below w.heap.size w W → Tab W) := fun W h => hT.on h
  clear hT
  have HI : Hid (RecI d.data.toList ts n [] 0) := recI_start h
  have o0 := ownS_none w
  have b0 := below1 w (.cells #[] 9)
  clear h
  go_enter Tryd.func8, Tryd.ntmps8
  go_wp2
  go_loopw [4, 5, 6, 7] (fun oo pp _ _ wr => ∃ (p : Nat) (ys : List ByteArray), pp = .int .i64 p ∧ p ≤ d.size ∧ ys.length ≤ p ∧ Hid (RecI d.data.toList ts n ys p) ∧ OwnS wr w.heap.size oo ys ∧ Below w.heap.size w wr) (fun _ pp _ _ _ => d.size + 1 - (intOf pp).toNat)
  case atStart => exact ⟨0, [], rfl, Nat.zero_le _, Nat.le_refl _, HI.out, o0, b0⟩
  case round =>
    clear o0 b0 HI
    obtain ⟨p, ys, rfl, hp, hy, HI, ho, hb⟩ := hrel
    obtain ⟨x, hx⟩ : ∃ x, x = d.extract p d.size := ⟨_, rfl⟩
    have hxs : x.size ≤ 1048576 := by rw [hx, ByteArray.size_extract]; omega
    have HX : Hid (d.extract p d.size = x) := hx.symm
    have HXL : Hid (x.data.toList = d.data.toList.drop p) := by
      unfold Hid
      rw [hx]
      show bytesOf _ = _
      rw [bytesOf_extract, List.take_of_length_le (by rw [List.length_drop]; omega)]
    have c1 : (0 : Int) ≤ (p : Int) := by omega
    have c2 : (p : Int) ≤ (d.size : Int) := by omega
    clear hx
    go_wp2_with fail
    rw [HX.out]
    refine (firstRecord_any x _ hxs (HTB.out _ hb)).mono ?_
    rintro e w1 ⟨he, hb1⟩
    have HN := recI_next HXL.out (by omega) HI.out he
    have b1 := hb.trans (hb1.mono hb.size)
    have o1 := ho.below hb1
    clear he hb1 hb ho HI HXL
    rcases HN with ⟨t, q, rfl, hq1, hq2, hq3, hI⟩ | ⟨rfl, hts, hnn⟩
    · have HI : Hid (RecI d.data.toList ts n (ys ++ [t]) (p + q)) := hI
      have hqz : ((q : Int) == 0) = false := by simp; omega
      have s1 := b1.size
      have ho2 := o1.below (below1 w1 (.cells #[.string t] 9))
      have hr2 := oneT_rd w1 t
      clear hI
      go_wp2_with (at_builtin; (refine wpList_append_txts rfl _ _ rfl w.heap.size _ _ ys [t] rfl rfl ho2 hr2 ?c1 (by simp; omega) (by simp; omega) ?_))
      case c1 => intro n c e; cases e
      intro v' w3 hown' hgrow
      have hb3 := pushS_below o1 (Nat.le_refl _) b1 s1 hgrow
      clear ho2 hr2 o1 b1 hgrow
      go_wp2
      go_roundw
      case rel => exact ⟨p + q, ys ++ [t], by go_num, by omega, by rw [List.length_append]; simp; omega, HI, hown', hb3⟩
      case measure => simp [intOf]; omega
    · have HE : Hid (ts = ys ∧ n = p) := ⟨hts, hnn⟩
      clear hts hnn
      go_wp2
      go_ret2
      obtain ⟨e1, e2⟩ := HE.out
      subst e1
      subst e2
      exact ⟨_, rfl, o1, b1⟩
end Go.Proofs.YthkckgjcecommaaDoor
