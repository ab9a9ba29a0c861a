/- The contracts of the two Texts: each returns a slice of its own that holds the number of the text's bytes and these. The contracts of both Texts over any slice of texts that can be read. Plain facts: what is written as texts is read as those texts, no part of it is read as any, and what is read as texts is what they are written as. What a batch is as a text: plain facts. The contracts of the two Commons: how many bytes two texts begin with alike. The contracts of the model's Seen and Shown. The contract of the program's comparison of two entries. The contract of the program's EntriesOk. -/
import Derived.Test.YtpbbahpndgigjaaGreatDoorNum
import Derived.Lib.AppendStr
import Derived.Test.YtpbbahpndgigjaaGreatDoorG07
import Derived.BigQuiet
import Derived.Deep.RegionHeld3
namespace Go.Proofs.YtpbbahpndgigjaaGreatDoor
set_option maxHeartbeats 16000000
set_option maxRecDepth 100000
open Go.RowKit
def textOf (s : ByteArray) : List UInt8 := if s.size ≤ 3000 then enc s.size ++ s.data.toList else []
theorem strCells_BV (s : ByteArray) : Lib.strCells s = BV s.data.toList := rfl
theorem own_text {w1 : World} {B : Nat} {v' : Value} {ys : List UInt8} {s : ByteArray} (h : w1.ownsRow B 5 1 v' (ys.length + s.size) (BV ys ++ Lib.strCells s)) : Own w1 B v' (ys ++ s.data.toList) := by
  unfold Own
  rw [BV_append, List.length_append, size_length, ← strCells_BV]
  exact h
theorem text_below {w wr w1 : World} {B : Nat} {v : Value} {ys : List UInt8} (hown : Own wr B v ys) (hb : Below B w wr) (hB : B ≤ wr.heap.size) (hg : wr.grownBy w1 v.ownBlock) : Below B w w1 :=
  hb.grown hg hB (fun k hk => (World.ownsRow.lt hown k hk).1)

theorem l1Text_any (s : ByteArray) (w : World) (hs : s.size ≤ 1099511627776) :
    Calls Tryz.prog 78 #[.string s] w fun e w' => ∃ v, e = .returned v ∧ Own w' w.heap.size v (enc s.size ++ s.data.toList) ∧ Below w.heap.size w w' := by
  obtain ⟨i0, hi, hz0, hz1, hz2⟩ := info_parts Tryz.info5
  have hL := enc_len9 s.size (by omega)
  go_enter Tryz.func78, Tryz.ntmps78
  go_wp2_with fail
  refine (l1Number_any _ _ (by omega) (by omega)).mono ?_
  rw [Int.toNat_natCast]
  rintro e w1 ⟨v, rfl, ho, hb⟩
  have hsz := hb.size
  go_wp2_with (at_builtin; (refine Lib.wpList_append_own_string _ rfl _ _ 22 9 rfl w.heap.size 5 i0 Tryz.underlying22 Tryz.underlying9 hi hz0 hz1 hz2 _ _ _ rfl ho s rfl ?c1 ?c2 ?c3 ?_))
  case c1 => unfold maxLen; omega
  case c2 => omega
  case c3 => omega
  · intro v' w2 hown' hgrow _
    have R1 := own_text hown'
    have R2 := text_below ho hb hsz hgrow
    clear hown' hgrow ho hb
    go_wp2
    go_ret
    exact ⟨_, rfl, R1, R2⟩
theorem text_in (s : ByteArray) (h : s.size ≤ 3000) : textOf s = enc s.size ++ s.data.toList := by unfold textOf; rw [if_pos h]
theorem text_out (s : ByteArray) (h : 3000 < s.size) : textOf s = [] := by unfold textOf; rw [if_neg (by omega)]
theorem implText_any (s : ByteArray) (w : World) (hs : s.size ≤ 1099511627776) :
    Calls Tryz.prog 49 #[.string s] w fun e w' => ∃ v, e = .returned v ∧ Own w' w.heap.size v (textOf s) ∧ Below w.heap.size w w' := by
  by_cases h : s.size ≤ 3000
  · rw [text_in s h]
    obtain ⟨i0, hi, hz0, hz1, hz2⟩ := info_parts Tryz.info5
    have hL := enc_len9 s.size (by omega)
    have hn := num_in (s.size : Int) (by omega) (by omega)
    rw [Int.toNat_natCast] at hn
    have Hn : Hid (num (s.size : Int) = enc s.size) := hn
    clear hn
    go_enter Tryz.func49, Tryz.ntmps49
    go_wp2_with fail
    refine (implNumber_any _ _).mono ?_
    rw [Hn.out]
    rintro e w1 ⟨v, rfl, ho, hb⟩
    have hsz := hb.size
    go_wp2_with (at_builtin; (refine Lib.wpList_append_own_string _ rfl _ _ 22 9 rfl w.heap.size 5 i0 Tryz.underlying22 Tryz.underlying9 hi hz0 hz1 hz2 _ _ _ rfl ho s rfl ?c1 ?c2 ?c3 ?_))
    case c1 => unfold maxLen; omega
    case c2 => omega
    case c3 => omega
    · intro v' w2 hown' hgrow _
      have R1 := own_text hown'
      have R2 := text_below ho hb hsz hgrow
      clear hown' hgrow ho hb
      go_wp2
      go_ret
      exact ⟨_, rfl, R1, R2⟩
  · rw [text_out s (by omega)]
    go_enter Tryz.func49, Tryz.ntmps49
    go_wp2
    go_ret
    exact ⟨_, rfl, own_none _, (Below.refl _ _).alloc (Nat.le_refl _) _⟩
open Go.RowKit
def tx : List ByteArray → List UInt8
  | [] => []
  | s :: r => enc s.size ++ s.data.toList ++ tx r
def textsOf (ss : List ByteArray) : List UInt8 := if ss.length ≤ 200 ∧ ∀ s ∈ ss, s.size ≤ 3000 then enc ss.length ++ tx ss else []
theorem tx_append (a b : List ByteArray) : tx (a ++ b) = tx a ++ tx b := by
  induction a with
  | nil => rfl
  | cons s r ih => simp only [List.cons_append, tx, ih, List.append_assoc]
theorem tx_snoc (ss : List ByteArray) (k : Nat) (h : k < ss.length) : tx (ss.take (k + 1)) = tx (ss.take k) ++ (enc ss[k].size ++ ss[k].data.toList) := by
  rw [List.take_succ_eq_append_getElem h, tx_append]
  simp [tx]
theorem tx_len (ss : List ByteArray) (h : ∀ s ∈ ss, s.size ≤ 3000) : (tx ss).length ≤ 3009 * ss.length := by
  induction ss with
  | nil => simp [tx]
  | cons s r ih =>
    have h1 := ih fun t ht => h t (List.mem_cons_of_mem _ ht)
    have h2 := h s List.mem_cons_self
    have h3 := enc_len9 s.size (by omega)
    simp only [tx, List.length_append, size_length, List.length_cons]
    omega
theorem textsOf_many (ss : List ByteArray) (h : 200 < ss.length) : textsOf ss = [] := by unfold textsOf; rw [if_neg (by omega)]
theorem textsOf_long (ss : List ByteArray) (k : Nat) (hk : k < ss.length) (h : 3000 < ss[k].size) : textsOf ss = [] := by
  unfold textsOf
  rw [if_neg fun hh => by have := hh.2 _ (List.getElem_mem hk); omega]
theorem textsOf_in (ss : List ByteArray) (h : ss.length ≤ 200) (hs : ∀ s ∈ ss, s.size ≤ 3000) : textsOf ss = enc ss.length ++ tx ss := by unfold textsOf; rw [if_pos ⟨h, hs⟩]
theorem textsOf_len (ss : List ByteArray) : (textsOf ss).length ≤ 700000 := by
  unfold textsOf
  split
  · rename_i h
    have h1 := tx_len ss h.2
    have h2 := enc_len9 ss.length (by omega)
    rw [List.length_append]
    omega
  · simp
theorem specTexts_any (v : Value) (ss : List ByteArray) (w : World) (hr : RdS w v ss) (hsz : ∀ s ∈ ss, s.size ≤ 1048576) :
    Calls Tryz.prog 63 #[v] w fun e w' => ∃ u, e = .returned u ∧ Own w' w.heap.size u (textsOf ss) ∧ Below w.heap.size w w' := by
  obtain ⟨i0, hi, hz0, hz1, hz2⟩ := info_parts Tryz.info5
  obtain ⟨T, hT⟩ : ∃ T, T = textsOf ss := ⟨_, rfl⟩
  rw [← hT]
  have HT : Hid (T = textsOf ss) := hT
  have HSZ : Hid (∀ s ∈ ss, s.size ≤ 1048576) := hsz
  clear hT hsz
  obtain ⟨a, cap, rfl, hl, hm, hA⟩ := hr
  unfold maxLen at hm
  by_cases hbig : 200 < ss.length
  · have HF : Hid (T = []) := HT.out.trans (textsOf_many ss hbig)
    clear hA
    go_enter Tryz.func63, Tryz.ntmps63
    go_wp2
    go_ret
    rw [HF.out]
    exact ⟨_, rfl, own_none _, (Below.refl _ _).alloc (Nat.le_refl _) _⟩
  have hL := enc_len9 ss.length (by omega)
  go_enter Tryz.func63, Tryz.ntmps63
  go_wp2_with fail
  refine (l1Number_any _ _ (by omega) (by omega)).mono ?_
  rw [Int.toNat_natCast]
  rintro e w1 ⟨v1, rfl, ho1, hb1⟩
  go_wp2
  go_loopw [3, 4] (fun oo ii wr => ∃ k : Nat, k ≤ ss.length ∧ ii = .int .i64 k ∧ Own wr w.heap.size oo (enc ss.length ++ tx (ss.take k)) ∧ Below w.heap.size w wr ∧ Hid (∀ j (h : j < ss.length), j < k → ss[j].size ≤ 3000)) (fun _ ii _ => ss.length - (intOf ii).toNat)
  case atStart => exact ⟨0, Nat.zero_le _, rfl, by simpa [tx] using ho1, hb1, fun j h h' => by omega⟩
  case round =>
    obtain ⟨k, hk, rfl, ho, hb, HJ⟩ := hrel
    have hs := hb.size
    clear ho1 hb1
    by_cases hlt : k < ss.length
    · obtain ⟨b, off, ha, hc⟩ : ∃ b off, a = some ⟨b, off, none⟩ ∧ wr.cell? ⟨b, off + k, none⟩ = some (.string ss[k]) := by
        rcases hA with h | ⟨b, off, ha, hc⟩
        · subst h; simp at hlt
        · exact ⟨b, off, ha, by rw [hb.cell (World.block_lt_of_cell? w _ (hc k hlt))]; exact hc k hlt⟩
      rw [ha]
      have hyl : (enc ss.length ++ tx (ss.take k)).length ≤ 700000 := by
        have h1 := tx_len (ss.take k) (fun s hs => by
          obtain ⟨j, hj, rfl⟩ := List.getElem_of_mem hs
          rw [List.length_take] at hj
          rw [List.getElem_take]
          exact HJ.out j (by omega) (by omega))
        rw [List.length_take] at h1
        rw [List.length_append]
        omega
      have hsn := tx_snoc ss k hlt
      obtain ⟨s, hs'⟩ : ∃ s, s = ss[k] := ⟨_, rfl⟩
      have hsk := HSZ.out _ (List.getElem_mem hlt)
      have H0 : Hid (3000 < s.size → T = []) := fun h => HT.out.trans (textsOf_long ss k hlt (by rw [← hs']; exact h))
      rw [← hs'] at hc hsk hsn
      have Hs : Hid (s = ss[k]) := hs'
      have Hsn : Hid (tx (ss.take (k + 1)) = tx (ss.take k) ++ (enc s.size ++ s.data.toList)) := hsn
      clear hs' hA hsn ha
      by_cases hlong : 3000 < s.size
      · have HF : Hid (T = []) := H0.out hlong
        clear H0
        go_wp2
        go_ret
        rw [HF.out]
        exact ⟨_, rfl, (own_none _).mono hs, hb.alloc hs _⟩
      · generalize hys : enc ss.length ++ tx (ss.take k) = ys at ho hyl
        have Hys : Hid (enc ss.length ++ tx (ss.take k) = ys) := hys
        have hel := enc_len9 s.size (by omega)
        have hz : (enc s.size ++ s.data.toList).length ≤ 3009 := by rw [List.length_append, size_length]; omega
        clear hys H0
        go_wp2_with fail
        refine (l1Text_any s _ (by omega)).mono ?_
        rintro e w2 ⟨v2, rfl, ho2, hb2⟩
        obtain ⟨g2, c2, hv2, hcl⟩ := own_some ho2 (by simp [enc_ne])
        have ho' := ho.below hb2
        have hb' := hb.trans (hb2.mono hs)
        have hs2 := hb2.size
        generalize enc s.size ++ s.data.toList = zs at hz ho2 hv2 hcl Hsn
        subst hv2
        have Hcl : Hid (∀ j u, (BV zs)[j]? = some u → w2.cell? ((⟨g2, 0, none⟩ : Addr).add j) = some u) := hcl
        clear ho hb hb2 hcl ho2
        go_wp2_with (at_builtin; (refine wpList_append_own _ rfl _ _ 22 rfl w.heap.size 5 i0 (.int .u8 0) 1 1 Tryz.underlying22 hi hz0 hz1 hz2 rfl (by decide) _ _ _ rfl ho' ⟨g2, 0, none⟩ zs.length c2 (BV zs) rfl (by rw [BV_length, Nat.mul_one]) Hcl.out (BV_oneCell zs) ?c3 ?c4 ?c5 ?_))
        case c3 => unfold maxLen; omega
        case c4 => omega
        case c5 => omega
        intro v' w3 hown' hgrow _
        have R1 := own_more hown'
        have R2 := text_below ho' hb' (by omega) hgrow
        have e3 : ys ++ zs = enc ss.length ++ tx (ss.take (k + 1)) := by rw [Hsn.out, ← Hys.out, List.append_assoc]
        rw [e3] at R1
        clear hown' hgrow ho' hb' e3
        go_wp2
        go_roundw
        case rel =>
          refine ⟨k + 1, by omega, by go_num, R1, R2, fun j h h' => ?_⟩
          by_cases hjk : j = k
          · subst hjk; rw [← Hs.out]; omega
          · exact HJ.out j h (by omega)
        case measure => simp [intOf]; omega
    · have hke : k = ss.length := by omega
      subst hke
      have HF : Hid (T = enc ss.length ++ tx ss) := HT.out.trans (textsOf_in ss (by omega) (fun s hs => by obtain ⟨j, hj, rfl⟩ := List.getElem_of_mem hs; exact HJ.out j hj hj))
      rw [List.take_length] at ho
      go_wp2
      go_ret
      rw [HF.out]
      exact ⟨_, rfl, ho, hb⟩
theorem implTexts_any (v : Value) (ss : List ByteArray) (w : World) (hr : RdS w v ss) (hsz : ∀ s ∈ ss, s.size ≤ 1048576) :
    Calls Tryz.prog 29 #[v] w fun e w' => ∃ u, e = .returned u ∧ Own w' w.heap.size u (textsOf ss) ∧ Below w.heap.size w w' := by
  obtain ⟨i0, hi, hz0, hz1, hz2⟩ := info_parts Tryz.info5
  obtain ⟨T, hT⟩ : ∃ T, T = textsOf ss := ⟨_, rfl⟩
  rw [← hT]
  have HT : Hid (T = textsOf ss) := hT
  have HSZ : Hid (∀ s ∈ ss, s.size ≤ 1048576) := hsz
  clear hT hsz
  obtain ⟨a, cap, rfl, hl, hm, hA⟩ := hr
  unfold maxLen at hm
  by_cases hbig : 200 < ss.length
  · have HF : Hid (T = []) := HT.out.trans (textsOf_many ss hbig)
    clear hA
    go_enter Tryz.func29, Tryz.ntmps29
    go_wp2
    go_ret
    rw [HF.out]
    exact ⟨_, rfl, own_none _, (Below.refl _ _).alloc (Nat.le_refl _) _⟩
  have hL := enc_len9 ss.length (by omega)
  have hn := num_in (ss.length : Int) (by omega) (by omega)
  rw [Int.toNat_natCast] at hn
  have Hn : Hid (num (ss.length : Int) = enc ss.length) := hn
  clear hn
  go_enter Tryz.func29, Tryz.ntmps29
  go_wp2_with fail
  refine (implNumber_any _ _).mono ?_
  rw [Hn.out]
  rintro e w1 ⟨v1, rfl, ho1, hb1⟩
  go_wp2
  go_loopw [3, 15] (fun oo ii wr => ∃ k : Nat, k ≤ ss.length ∧ ii = .int .i64 k ∧ Own wr w.heap.size oo (enc ss.length ++ tx (ss.take k)) ∧ Below w.heap.size w wr ∧ Hid (∀ j (h : j < ss.length), j < k → ss[j].size ≤ 3000)) (fun _ ii _ => ss.length - (intOf ii).toNat)
  case atStart => exact ⟨0, Nat.zero_le _, rfl, by simpa [tx] using ho1, hb1, fun j h h' => by omega⟩
  case round =>
    obtain ⟨k, hk, rfl, ho, hb, HJ⟩ := hrel
    have hs := hb.size
    clear ho1 hb1
    by_cases hlt : k < ss.length
    · obtain ⟨b, off, ha, hc⟩ : ∃ b off, a = some ⟨b, off, none⟩ ∧ wr.cell? ⟨b, off + k, none⟩ = some (.string ss[k]) := by
        rcases hA with h | ⟨b, off, ha, hc⟩
        · subst h; simp at hlt
        · exact ⟨b, off, ha, by rw [hb.cell (World.block_lt_of_cell? w _ (hc k hlt))]; exact hc k hlt⟩
      rw [ha]
      have hyl : (enc ss.length ++ tx (ss.take k)).length ≤ 700000 := by
        have h1 := tx_len (ss.take k) (fun s hs => by
          obtain ⟨j, hj, rfl⟩ := List.getElem_of_mem hs
          rw [List.length_take] at hj
          rw [List.getElem_take]
          exact HJ.out j (by omega) (by omega))
        rw [List.length_take] at h1
        rw [List.length_append]
        omega
      have hsn := tx_snoc ss k hlt
      obtain ⟨s, hs'⟩ : ∃ s, s = ss[k] := ⟨_, rfl⟩
      have hsk := HSZ.out _ (List.getElem_mem hlt)
      have H0 : Hid (3000 < s.size → T = []) := fun h => HT.out.trans (textsOf_long ss k hlt (by rw [← hs']; exact h))
      rw [← hs'] at hc hsk hsn
      have Hs : Hid (s = ss[k]) := hs'
      have Hsn : Hid (tx (ss.take (k + 1)) = tx (ss.take k) ++ (enc s.size ++ s.data.toList)) := hsn
      clear hs' hA hsn ha
      by_cases hlong : 3000 < s.size
      · have HF : Hid (T = []) := H0.out hlong
        clear H0
        go_wp2
        go_ret
        rw [HF.out]
        exact ⟨_, rfl, (own_none _).mono hs, hb.alloc hs _⟩
      · generalize hys : enc ss.length ++ tx (ss.take k) = ys at ho hyl
        have Hys : Hid (enc ss.length ++ tx (ss.take k) = ys) := hys
        have hel := enc_len9 s.size (by omega)
        have hz : (enc s.size ++ s.data.toList).length ≤ 3009 := by rw [List.length_append, size_length]; omega
        clear hys H0
        go_wp2_with fail
        refine (implText_any s _ (by omega)).mono ?_
        rw [text_in s (by omega)]
        rintro e w2 ⟨v2, rfl, ho2, hb2⟩
        obtain ⟨g2, c2, hv2, hcl⟩ := own_some ho2 (by simp [enc_ne])
        have ho' := ho.below hb2
        have hb' := hb.trans (hb2.mono hs)
        have hs2 := hb2.size
        generalize enc s.size ++ s.data.toList = zs at hz ho2 hv2 hcl Hsn
        subst hv2
        have Hcl : Hid (∀ j u, (BV zs)[j]? = some u → w2.cell? ((⟨g2, 0, none⟩ : Addr).add j) = some u) := hcl
        clear ho hb hb2 hcl ho2
        go_wp2_with (at_builtin; (refine wpList_append_own _ rfl _ _ 22 rfl w.heap.size 5 i0 (.int .u8 0) 1 1 Tryz.underlying22 hi hz0 hz1 hz2 rfl (by decide) _ _ _ rfl ho' ⟨g2, 0, none⟩ zs.length c2 (BV zs) rfl (by rw [BV_length, Nat.mul_one]) Hcl.out (BV_oneCell zs) ?c3 ?c4 ?c5 ?_))
        case c3 => unfold maxLen; omega
        case c4 => omega
        case c5 => omega
        intro v' w3 hown' hgrow _
        have R1 := own_more hown'
        have R2 := text_below ho' hb' (by omega) hgrow
        have e3 : ys ++ zs = enc ss.length ++ tx (ss.take (k + 1)) := by rw [Hsn.out, ← Hys.out, List.append_assoc]
        rw [e3] at R1
        clear hown' hgrow ho' hb' e3
        go_wp2
        go_roundw
        case rel =>
          refine ⟨k + 1, by omega, by go_num, R1, R2, fun j h h' => ?_⟩
          by_cases hjk : j = k
          · subst hjk; rw [← Hs.out]; omega
          · exact HJ.out j h (by omega)
        case measure => simp [intOf]; omega
    · have hke : k = ss.length := by omega
      subst hke
      have HF : Hid (T = enc ss.length ++ tx ss) := HT.out.trans (textsOf_in ss (by omega) (fun s hs => by obtain ⟨j, hj, rfl⟩ := List.getElem_of_mem hs; exact HJ.out j hj hj))
      rw [List.take_length] at ho
      go_wp2
      go_ret
      rw [HF.out]
      exact ⟨_, rfl, ho, hb⟩
theorem rdAcc_tx (bs : List UInt8) : ∀ (ss : List ByteArray) (p : Nat) (acc : List ByteArray), (∀ s ∈ ss, s.size ≤ 3000) → bs.drop p = tx ss → rdAcc bs ss.length p acc = some (acc ++ ss, p + (tx ss).length) := by
  intro ss
  induction ss with
  | nil => intro p acc _ _; simp [rdAcc, tx]
  | cons s r ih =>
    intro p acc hs hd
    have h3 := hs s List.mem_cons_self
    have hp := enc_pos s.size
    have hT : rdText (bs.drop p) = (s.data.toList, (enc s.size ++ s.data.toList).length) := by rw [hd, tx]; exact rdText_enc s _ h3
    rw [List.length_cons, rdAcc_go bs r.length p acc (by rw [hT]; simp only [List.length_append]; omega), hT]
    simp only
    rw [back, ih _ _ (fun t ht => hs t (List.mem_cons_of_mem _ ht)) (by rw [← List.drop_drop, hd, tx]; exact List.drop_left), tx, List.append_assoc]
    simp only [List.singleton_append, Nat.add_assoc, List.length_append]
theorem fin_texts (ss : List ByteArray) (h : textsOf ss ≠ []) : fin (textsOf ss) (rdAll (textsOf ss)) = (ss, true) := by
  have hh : ss.length ≤ 200 ∧ ∀ s ∈ ss, s.size ≤ 3000 := by
    refine Decidable.byContradiction fun hn => h ?_
    unfold textsOf
    rw [if_neg hn]
  have e := textsOf_in ss hh.1 hh.2
  have hp := enc_pos ss.length
  rw [e]
  unfold rdAll
  rw [rdNum_enc ss.length _ (by omega)]
  simp only
  rw [if_neg (by omega), rdAcc_tx _ ss _ _ hh.2 List.drop_left]
  unfold fin
  simp only [List.length_append, List.nil_append, if_pos]
theorem rdAcc_back (bs : List UInt8) : ∀ (m p : Nat) (acc : List ByteArray) (r : List ByteArray × Nat), rdAcc bs m p acc = some r → p ≤ bs.length → ∃ ss, r.1 = acc ++ ss ∧ ss.length = m ∧ (∀ s ∈ ss, s.size ≤ 3000) ∧ r.2 = p + (tx ss).length ∧ (bs.drop p).take (tx ss).length = tx ss ∧ r.2 ≤ bs.length := by
  intro m
  induction m with
  | zero =>
    intro p acc r h hp
    rw [rdAcc] at h
    cases h
    exact ⟨[], by simp, rfl, (fun s hs => (by cases hs)), by simp [tx], by simp [tx], hp⟩
  | succ m ih =>
    intro p acc r h hp
    by_cases hT : (rdText (bs.drop p)).2 = 0
    · rw [rdAcc_no bs m p acc hT] at h; cases h
    · rw [rdAcc_go bs m p acc hT] at h
      obtain ⟨b1, b2, b3⟩ := rdText_back (bs.drop p) hT
      rw [List.length_drop] at b3
      obtain ⟨ss, h1, h2, h3, h4, h5, h6⟩ := ih _ _ r h (by omega)
      generalize hs : (⟨(rdText (bs.drop p)).1.toArray⟩ : ByteArray) = s at h1
      have hsl : s.data.toList = (rdText (bs.drop p)).1 := by rw [← hs]
      have hsz : s.size = (rdText (bs.drop p)).1.length := by rw [← hsl, size_length]
      have hE : tx (s :: ss) = (bs.drop p).take (rdText (bs.drop p)).2 ++ tx ss := by rw [tx, hsl, hsz, ← b2]
      have hEl : ((bs.drop p).take (rdText (bs.drop p)).2).length = (rdText (bs.drop p)).2 := by rw [List.length_take, List.length_drop]; omega
      refine ⟨s :: ss, by rw [h1]; simp, by rw [List.length_cons, h2], fun t ht => ?_, ?_, ?_, h6⟩
      · rcases List.mem_cons.1 ht with e | e
        · subst e; omega
        · exact h3 t e
      · rw [hE, List.length_append, hEl, h4]; omega
      · rw [hE, List.length_append, hEl, List.take_add, List.drop_drop, h5]
theorem fin_back (bs : List UInt8) (ss : List ByteArray) (h : fin bs (rdAll bs) = (ss, true)) : textsOf ss = bs := by
  cases hr : rdAll bs with
  | none => rw [hr] at h; cases h
  | some r =>
    rw [hr] at h
    unfold fin at h
    simp only at h
    by_cases hl : r.2 = bs.length
    · rw [if_pos hl] at h
      obtain ⟨h1, _⟩ := Prod.mk.inj h
      subst h1
      unfold rdAll at hr
      by_cases hc : (rdNum bs).2 = 0 ∨ 200 < (rdNum bs).1
      · rw [if_pos hc] at hr; cases hr
      · rw [if_neg hc] at hr
        have hb := rdNum_back bs (by omega)
        have hn := rdNum_len bs
        obtain ⟨ss, h1, h2, h3, h4, h5, _⟩ := rdAcc_back bs _ _ _ r hr hn.1
        rw [List.nil_append] at h1
        rw [h1]
        rw [textsOf_in ss (by omega) h3, h2, ← hb.1]
        have e : bs.drop (rdNum bs).2 = tx ss := by
          rw [← h5, List.take_of_length_le (by rw [List.length_drop]; omega)]
        rw [← e, List.take_append_drop]
    · rw [if_neg hl] at h; cases h
theorem fin_no (bs : List UInt8) (ss : List ByteArray) (h : fin bs (rdAll bs) = (ss, false)) : ss = [] := by
  cases hr : rdAll bs with
  | none => rw [hr] at h; cases h; rfl
  | some r =>
    rw [hr] at h
    unfold fin at h
    simp only at h
    split at h
    · cases h
    · cases h; rfl
open Go.RowKit
abbrev oneT : ByteArray := ⟨#[49]⟩
abbrev nilT : ByteArray := ⟨#[48]⟩
def flT (b : Bool) : ByteArray := if b = true then oneT else nilT
def trio (x : Wri) : List ByteArray := [x.key, x.val, flT x.gone]
def batTx (xs : List Wri) : List ByteArray := xs.flatMap trio
def batT (xs : List Wri) : ByteArray := ⟨(textsOf (batTx xs)).toArray⟩
def batS (xs : List Wri) : ByteArray := if batchOk xs = true ∧ xs ≠ [] then batT xs else ⟨#[]⟩
theorem batTx_cons (x : Wri) (xs : List Wri) : batTx (x :: xs) = x.key :: x.val :: flT x.gone :: batTx xs := rfl
theorem batTx_append (a b : List Wri) : batTx (a ++ b) = batTx a ++ batTx b := by simp [batTx]
theorem batTx_len : ∀ xs : List Wri, (batTx xs).length = 3 * xs.length
  | [] => rfl
  | x :: xs => by rw [batTx_cons]; simp only [List.length_cons]; rw [batTx_len xs]; omega
theorem batTx_more {xs : List Wri} {k : Nat} (h : k < xs.length) : batTx (xs.take (k + 1)) = batTx (xs.take k) ++ trio (nthW xs k) := by
  rw [List.take_succ_eq_append_getElem h, batTx_append, nthW_eq h]
  simp [batTx]
theorem batchOk_iff {xs : List Wri} : batchOk xs = true ↔ xs.length ≤ 20 ∧ ∀ x ∈ xs, wriOk x = true := by
  unfold batchOk
  rw [Bool.and_eq_true, decide_eq_true_eq, List.all_eq_true]
theorem wriOk_size {x : Wri} (h : wriOk x = true) : x.key.size ≤ 40 ∧ x.val.size ≤ 200 := by
  unfold wriOk okE at h
  simp only [wriE, Bool.and_eq_true] at h
  obtain ⟨⟨⟨⟨⟨h1, h2⟩, h3⟩, h4⟩, h5⟩, h6⟩ := h
  exact ⟨of_decide_eq_true h2, of_decide_eq_true h3⟩
theorem flT_size (b : Bool) : (flT b).size = 1 := by cases b <;> rfl
theorem batTx_small {xs : List Wri} (h : ∀ x ∈ xs, x.key.size ≤ 3000 ∧ x.val.size ≤ 3000) : ∀ s ∈ batTx xs, s.size ≤ 3000 := by
  intro s hs
  obtain ⟨x, hx, hs⟩ := List.mem_flatMap.1 hs
  have h1 := h x hx
  have h2 := flT_size x.gone
  simp only [trio, List.mem_cons, List.not_mem_nil, or_false] at hs
  rcases hs with rfl | rfl | rfl <;> omega
theorem ok_small {xs : List Wri} (h : batchOk xs = true) : ∀ x ∈ xs, x.key.size ≤ 3000 ∧ x.val.size ≤ 3000 := fun x hx => by
  have := wriOk_size ((batchOk_iff.1 h).2 x hx)
  omega
theorem bat_ne {xs : List Wri} (h : batchOk xs = true) : textsOf (batTx xs) ≠ [] := by
  have h1 := (batchOk_iff.1 h).1
  rw [textsOf_in _ (by rw [batTx_len]; omega) (batTx_small (ok_small h))]
  intro e
  have := enc_ne (batTx xs).length
  simp_all
theorem batT_list (xs : List Wri) : (batT xs).data.toList = textsOf (batTx xs) := by unfold batT; simp
theorem baB_ext {a b : ByteArray} (h : a.data.toList = b.data.toList) : a = b := by
  cases a; cases b; simp_all
theorem batS_yes {xs : List Wri} (h : batchOk xs = true) (hn : xs ≠ []) : batS xs = batT xs := by unfold batS; rw [if_pos ⟨h, hn⟩]
theorem batS_no {xs : List Wri} (h : ¬ (batchOk xs = true ∧ xs ≠ [])) : batS xs = ⟨#[]⟩ := by unfold batS; rw [if_neg h]
def RB (s : ByteArray) (F : List Wri × Bool) : Prop := (F.2 = true ∧ batchOk F.1 = true ∧ F.1 ≠ [] ∧ batT F.1 = s) ∨ (F = ([], false) ∧ ∀ xs, batchOk xs = true → xs ≠ [] → batT xs ≠ s)
theorem rb_ex (s : ByteArray) : ∃ F, RB s F := by
  by_cases h : ∃ xs, batchOk xs = true ∧ xs ≠ [] ∧ batT xs = s
  · obtain ⟨xs, h⟩ := h
    exact ⟨(xs, true), .inl ⟨rfl, h⟩⟩
  · exact ⟨([], false), .inr ⟨rfl, fun xs h1 h2 h3 => h ⟨xs, h1, h2, h3⟩⟩⟩
theorem rb_fin {xs : List Wri} (h : batchOk xs = true) : fin (batT xs).data.toList (rdAll (batT xs).data.toList) = (batTx xs, true) := by
  rw [batT_list]
  exact fin_texts _ (bat_ne h)
theorem rb_small {s : ByteArray} {F : List Wri × Bool} (h : RB s F) : F.1.length ≤ 20 ∧ ∀ x ∈ F.1, x.key.size ≤ 40 ∧ x.val.size ≤ 200 := by
  rcases h with ⟨_, h2, _, _⟩ | ⟨h1, _⟩
  · have := batchOk_iff.1 h2
    exact ⟨this.1, fun x hx => wriOk_size (this.2 x hx)⟩
  · rw [h1]
    exact ⟨Nat.zero_le _, fun x hx => by cases hx⟩
def grp : List ByteArray → List Wri
  | a :: b :: c :: r => ⟨a, b, c.toList == [49]⟩ :: grp r
  | _ => []
theorem flT_t : flT true = oneT := rfl
theorem flT_f : flT false = nilT := rfl
theorem nil_one : nilT ≠ oneT := fun h => absurd (congrArg (fun t : ByteArray => t.data.toList) h) (by decide)
theorem bToList (b : ByteArray) : b.toList = b.data.toList := ByteArray.toList_eq b
theorem fl_one (b : Bool) : ((flT b).toList == [49]) = b := by
  rw [bToList]
  cases b <;> rfl
theorem grp_bat : ∀ xs : List Wri, grp (batTx xs) = xs
  | [] => rfl
  | x :: xs => by
    rw [batTx_cons, grp, grp_bat xs, fl_one]
theorem grp_at {ss : List ByteArray} {p : Nat} (h : p + 3 ≤ ss.length) : grp (ss.drop p) = ⟨ss[p], ss[p + 1], ss[p + 2].toList == [49]⟩ :: grp (ss.drop (p + 3)) := by
  rw [List.drop_eq_getElem_cons (show p < ss.length by omega), List.drop_eq_getElem_cons (show p + 1 < ss.length by omega), List.drop_eq_getElem_cons (show p + 1 + 1 < ss.length by omega), grp]
theorem grp_end {ss : List ByteArray} {p : Nat} (h : ss.length ≤ p) : grp (ss.drop p) = [] := by
  rw [List.drop_eq_nil_of_le h, grp]
  · intros; simp_all
def wrs : List ByteArray → Option (List Wri)
  | [] => some []
  | a :: b :: c :: r => if c = oneT then (wrs r).map fun l => ⟨a, b, true⟩ :: l else if c = nilT then (wrs r).map fun l => ⟨a, b, false⟩ :: l else none
  | _ => none
theorem wrs_bat : ∀ xs : List Wri, wrs (batTx xs) = some xs
  | [] => rfl
  | x :: xs => by
    rw [batTx_cons, wrs, wrs_bat xs]
    obtain ⟨a, b, c⟩ := x
    cases c
    · rw [flT_f, if_neg nil_one, if_pos rfl]; rfl
    · rw [flT_t, if_pos rfl]; rfl
theorem wrs_back : ∀ (n : Nat) (ss : List ByteArray) (xs : List Wri), ss.length ≤ n → wrs ss = some xs → ss = batTx xs
  | _, [], xs, _, h => by
    rw [wrs] at h
    cases h
    rfl
  | n + 1, a :: b :: c :: r, xs, hl, h => by
    rw [wrs] at h
    simp only [List.length_cons] at hl
    split at h
    · rename_i hc
      cases hr : wrs r with
      | none => rw [hr] at h; cases h
      | some l =>
        rw [hr] at h
        cases h
        rw [batTx_cons, ← wrs_back n r l (by omega) hr, hc]
        rfl
    · split at h
      · rename_i hc
        cases hr : wrs r with
        | none => rw [hr] at h; cases h
        | some l =>
          rw [hr] at h
          cases h
          rw [batTx_cons, ← wrs_back n r l (by omega) hr, hc]
          rfl
      · cases h
  | _, [_], xs, _, h => by cases h
  | _, [_, _], xs, _, h => by cases h
  | 0, a :: b :: c :: r, xs, hl, _ => by simp at hl
theorem rb_spec {s : ByteArray} {F : List Wri × Bool} (h : RB s F) {ss : List ByteArray} {ok : Bool} (hf : fin s.data.toList (rdAll s.data.toList) = (ss, ok)) :
    (F.2 = true ∧ ok = true ∧ ss.length % 3 = 0 ∧ grp ss = F.1 ∧ batS F.1 = s ∧ 0 < s.size) ∨ (F = ([], false) ∧ (batS (grp ss) ≠ s ∨ s.size = 0)) := by
  rcases h with ⟨h1, h2, h3, h4⟩ | ⟨h1, h2⟩
  · left
    rw [← h4, rb_fin h2] at hf
    obtain ⟨rfl, rfl⟩ := Prod.mk.inj hf
    refine ⟨h1, rfl, by rw [batTx_len]; omega, grp_bat _, by rw [batS_yes h2 h3, h4], ?_⟩
    rw [← h4, ← size_length, batT_list]
    exact List.length_pos_iff.2 (bat_ne h2)
  · right
    refine ⟨h1, ?_⟩
    by_cases hb : batchOk (grp ss) = true ∧ grp ss ≠ []
    · left
      rw [batS_yes hb.1 hb.2]
      exact h2 _ hb.1 hb.2
    · rw [batS_no hb]
      by_cases hs : s.size = 0
      · exact .inr hs
      · left
        intro e
        rw [← e] at hs
        exact hs rfl
theorem rb_impl {s : ByteArray} {F : List Wri × Bool} (h : RB s F) {ss : List ByteArray} {ok : Bool} (hf : fin s.data.toList (rdAll s.data.toList) = (ss, ok)) :
    (F = ((wrs ss).getD [], true) ∧ 0 < (batS ((wrs ss).getD [])).size) ∨ (F = ([], false) ∧ (batS ((wrs ss).getD [])).size = 0) := by
  rcases h with ⟨h1, h2, h3, h4⟩ | ⟨h1, h2⟩
  · left
    rw [← h4, rb_fin h2] at hf
    obtain ⟨rfl, rfl⟩ := Prod.mk.inj hf
    rw [wrs_bat]
    refine ⟨by obtain ⟨f, fb⟩ := F; obtain rfl : fb = true := h1; rfl, ?_⟩
    show 0 < (batS F.1).size
    rw [batS_yes h2 h3, ← size_length, batT_list]
    exact List.length_pos_iff.2 (bat_ne h2)
  · right
    refine ⟨h1, ?_⟩
    by_cases hb : batchOk ((wrs ss).getD []) = true ∧ (wrs ss).getD [] ≠ []
    · exfalso
      cases hw : wrs ss with
      | none => rw [hw] at hb; exact hb.2 rfl
      | some l =>
        rw [hw] at hb
        have e := wrs_back _ ss l (Nat.le_refl _) hw
        cases ok with
        | false =>
          have := fin_no _ _ hf
          rw [this] at e
          have e2 := congrArg List.length e
          rw [batTx_len] at e2
          exact hb.2 (List.length_eq_zero_iff.1 (by show l.length = 0; simp at e2; omega))
        | true =>
          have e2 := fin_back _ _ hf
          rw [e] at e2
          exact h2 l hb.1 hb.2 (baB_ext (by rw [batT_list]; exact e2))
    · rw [batS_no hb]; rfl
open Go.RowKit
theorem drew2 (w : World) (n q : Nat) : (w.drewN n).drewN q = w.drewN (n + q) := by simp
theorem byte_same {a b : UInt8} (h : a = b) : ((a.toNat : Int) == (b.toNat : Int)) = true := by subst h; simp
theorem byte_other {a b : UInt8} (h : a ≠ b) : ((a.toNat : Int) == (b.toNat : Int)) = false := by
  simp only [beq_eq_false_iff_ne, ne_eq]
  intro e
  exact h (UInt8.toNat_inj.1 (by omega))
theorem com_end {a b : ByteArray} {c k : Nat} (h : c = k + comB (a.data.toList.drop k) (b.data.toList.drop k)) (hk : a.size ≤ k ∨ b.size ≤ k) : c = k := by
  rw [comB_end (by rw [size_length, size_length]; exact hk)] at h; exact h
theorem com_ne {a b : ByteArray} {c k : Nat} (h : c = k + comB (a.data.toList.drop k) (b.data.toList.drop k)) (h1 : k < a.size) (h2 : k < b.size) (hn : a[k] ≠ b[k]) : c = k := by
  rw [comB_ne (by rw [size_length]; exact h1) (by rw [size_length]; exact h2) hn] at h; exact h
theorem com_eq {a b : ByteArray} {c k : Nat} (h : c = k + comB (a.data.toList.drop k) (b.data.toList.drop k)) (h1 : k < a.size) (h2 : k < b.size) (hn : a[k] = b[k]) : c = (k + 1) + comB (a.data.toList.drop (k + 1)) (b.data.toList.drop (k + 1)) := by
  rw [comB_eq (by rw [size_length]; exact h1) (by rw [size_length]; exact h2) hn] at h; omega
theorem specCommon_any (a b : ByteArray) (w : World) (ha : a.size ≤ 4503599627370496) (_ : b.size ≤ 4503599627370496) :
    Calls Tryz.prog 113 #[.string a, .string b] w fun e w' => e = .returned (.int .i64 (com a b : Int)) ∧ ∃ n, w' = w.drewN n := by
  obtain ⟨c, hc⟩ : ∃ c, c = com a b := ⟨_, rfl⟩
  rw [← hc]
  have HC : Hid (c = comB a.data.toList b.data.toList) := hc
  clear hc
  go_enter Tryz.func113, Tryz.ntmps113
  go_wp2
  go_loopw [5] (fun i wr => ∃ k : Nat, k ≤ a.size ∧ k ≤ b.size ∧ i = .int .i64 k ∧ Hid (c = k + comB (a.data.toList.drop k) (b.data.toList.drop k)) ∧ ∃ n, wr = w.drewN n) (fun i _ => a.size - (intOf i).toNat)
  case atStart => exact ⟨0, Nat.zero_le _, Nat.zero_le _, rfl, by unfold Hid; rw [HC.out]; simp, 0, rfl⟩
  case round =>
    obtain ⟨k, hka, hkb, rfl, HK, n, rfl⟩ := hrel
    clear HC
    by_cases h1 : k < a.size
    · have d1 : decide ((k : Int) < (a.size : Int)) = true := by simp; omega
      by_cases h2 : k < b.size
      · have d2 : decide ((k : Int) < (b.size : Int)) = true := by simp; omega
        by_cases h3 : a[k] = b[k]
        · have d3 := byte_same h3
          have HN : Hid (c = (k + 1) + comB (a.data.toList.drop (k + 1)) (b.data.toList.drop (k + 1))) := com_eq HK.out h1 h2 h3
          clear h3 HK
          go_wp2
          go_quiet (fail)
          go_wp2
          go_roundw
          case rel => exact ⟨k + 1, by omega, by omega, by go_num, HN, n + _, rfl⟩
          case measure => simp [intOf]; omega
        · have d3 := byte_other h3
          have HN : Hid (c = k) := com_ne HK.out h1 h2 h3
          clear h3 HK
          go_wp2
          go_quiet (fail)
          go_wp2
          go_ret
          exact ⟨by have h := HN.out; subst h; rfl, n + _, drew2 _ _ _⟩
      · have d2 : decide ((k : Int) < (b.size : Int)) = false := by simp; omega
        have HN : Hid (c = k) := com_end HK.out (.inr (by omega))
        clear HK
        go_wp2
        go_quiet (fail)
        go_wp2
        go_ret
        exact ⟨by have h := HN.out; subst h; rfl, n + _, drew2 _ _ _⟩
    · have d1 : decide ((k : Int) < (a.size : Int)) = false := by simp; omega
      have HN : Hid (c = k) := com_end HK.out (.inl (by omega))
      clear HK
      go_wp2
      go_quiet (fail)
      go_wp2
      go_ret
      exact ⟨by have h := HN.out; subst h; rfl, n + _, drew2 _ _ _⟩
open Go.RowKit
def SeenPost (w : World) (o : Option Ent) (e : Ending) (w' : World) : Prop :=
  e = .returned (.tuple #[.agg #[.string (o.getD zeroE).key, .string (o.getD zeroE).val, .int .i64 (o.getD zeroE).seq, .bool (o.getD zeroE).gone], .bool o.isSome]) ∧ Below w.heap.size w w'
theorem seenPost_some {w w' : World} {o : Option Ent} {x : Ent} (ho : o = some x) (hb : Below w.heap.size w w') : SeenPost w o (.returned (.tuple #[.agg #[.string x.key, .string x.val, .int .i64 x.seq, .bool x.gone], .bool true])) w' := by
  subst ho; exact ⟨rfl, hb⟩
theorem seenPost_none {w w' : World} {o : Option Ent} (ho : o = none) (hb : Below w.heap.size w w') : SeenPost w o (.returned (.tuple #[.agg #[.string ⟨#[]⟩, .string ⟨#[]⟩, .int .i64 0, .bool false], .bool false])) w' := by
  subst ho; exact ⟨rfl, hb⟩
theorem l3Seen_any (v : Value) (es : List Ent) (key : ByteArray) (q : Int) (w : World) (hr : RdE w v es) :
    Calls Tryz.prog 117 #[v, .string key, .int .i64 q] w fun e w' => SeenPost w (seenL es key q) e w' := by
  obtain ⟨a, cap, hv, hl, hm, _⟩ := id hr
  unfold maxLen at hm
  subst hv
  go_enter Tryz.func117, Tryz.ntmps117
  go_wp2
  go_loop [8] (fun i => ∃ k : Nat, k ≤ es.length ∧ i = .int .i64 k ∧ Hid (∀ j, j < k → seenP key q (nth es j) = false)) (fun i => es.length - (intOf i).toNat)
  case atStart => exact ⟨0, Nat.zero_le _, rfl, fun j hj => absurd hj (Nat.not_lt_zero _)⟩
  case round =>
    obtain ⟨k, hk, rfl, HO⟩ := hrel
    by_cases hlt : k < es.length
    · obtain ⟨b, off, rfl, hc⟩ := hr.at rfl k hlt
      have hlt2 := hc.lt
      obtain ⟨c0, c1, c2, c3⟩ := hc
      obtain ⟨x, hx⟩ : ∃ x, x = nth es k := ⟨_, rfl⟩
      rw [← hx] at c0 c1 c2 c3
      have HX : Hid (x = nth es k) := hx
      clear hx
      have KB := beq_kEq x.key key
      cases hke : kEq x.key key with
      | false =>
        rw [hke] at KB
        have HO2 : Hid (∀ j, j < k + 1 → seenP key q (nth es j) = false) := by
          intro j hj
          by_cases hjk : j = k
          · subst hjk; rw [← HX.out]; simp [seenP, hke]
          · exact HO.out j (by omega)
        go_wp2
        go_round
        case rel => exact ⟨k + 1, by omega, by go_num, HO2⟩
        case measure => simp [intOf]; omega
      | true =>
        rw [hke] at KB
        by_cases hq : x.seq ≤ q
        · have RES : Hid (seenL es key q = some x) := by
            show _ = _
            rw [seenL_scan es key q k hlt HO.out (by rw [← HX.out]; simp [seenP, hke, hq]), ← HX.out]
          go_wp2
          exact bodyPost_ret (v := .tuple #[.agg #[.string x.key, .string x.val, .int .i64 x.seq, .bool x.gone], .bool true]) (by simp [results, Tryz.results117, go_sem]) rfl (seenPost_some RES.out (below1 _ _))
        · have HO2 : Hid (∀ j, j < k + 1 → seenP key q (nth es j) = false) := by
            intro j hj
            by_cases hjk : j = k
            · subst hjk; rw [← HX.out]; simp [seenP, hq]
            · exact HO.out j (by omega)
          go_wp2
          go_round
          case rel => exact ⟨k + 1, by omega, by go_num, HO2⟩
          case measure => simp [intOf]; omega
    · have hke : k = es.length := by omega
      subst hke
      have RES : Hid (seenL es key q = none) := seenL_none es key q HO.out
      go_wp2
      exact bodyPost_ret (v := .tuple #[.agg #[.string ⟨#[]⟩, .string ⟨#[]⟩, .int .i64 0, .bool false], .bool false]) (by simp [results, Tryz.results117, go_sem]) rfl (seenPost_none RES.out (below1 _ _))
theorem specOk_yes (v : Value) (es : List Ent) (w : World) (hr : RdE w v es) (hf : ∀ e ∈ es, Fits e) (h : okL es = true) :
    Calls Tryz.prog 115 #[v] w fun e w' => e = .returned (.bool true) ∧ Below w.heap.size w w' := by
  have := specEntriesOk_any v es w hr hf; rwa [h] at this
theorem specOk_no (v : Value) (es : List Ent) (w : World) (hr : RdE w v es) (hf : ∀ e ∈ es, Fits e) (h : okL es = false) :
    Calls Tryz.prog 115 #[v] w fun e w' => e = .returned (.bool false) ∧ Below w.heap.size w w' := by
  have := specEntriesOk_any v es w hr hf; rwa [h] at this
def BoxAt (w : World) (b : Nat) (x : Ent) : Prop := EntAt w b 0 x ∧ ∀ o, w.frozen? ⟨b, o, none⟩ = false
theorem BoxAt.below {w w' : World} {b : Nat} {x : Ent} (h : BoxAt w b x) (hb : Below w.heap.size w w') : BoxAt w' b x :=
  ⟨h.1.below hb, fun o => ((bcell hb).2 b o h.1.lt).trans (h.2 o)⟩
theorem box_zero (w : World) (t : TypeId) : BoxAt (w.alloc (.cells #[.string ⟨#[]⟩, .string ⟨#[]⟩, .int .i64 0, .bool false] t)) w.heap.size zeroE :=
  ⟨⟨by simp [zeroE], by simp [zeroE], by simp [zeroE], by simp [zeroE]⟩, fun o => by simp⟩
theorem BoxAt.facts {w : World} {b : Nat} {x : Ent} (h : BoxAt w b x) : w.cell? ⟨b, 0, none⟩ = some (.string x.key) ∧ w.cell? ⟨b, 1, none⟩ = some (.string x.val) ∧ w.cell? ⟨b, 2, none⟩ = some (.int .i64 x.seq) ∧ w.cell? ⟨b, 3, none⟩ = some (.bool x.gone) ∧
    w.frozen? ⟨b, 0, none⟩ = false ∧ w.frozen? ⟨b, 1, none⟩ = false ∧ w.frozen? ⟨b, 2, none⟩ = false ∧ w.frozen? ⟨b, 3, none⟩ = false := by
  obtain ⟨⟨h0, h1, h2, h3⟩, hf⟩ := h
  simp only [Nat.zero_add] at h1 h2 h3
  exact ⟨h0, h1, h2, h3, hf 0, hf 1, hf 2, hf 3⟩
theorem l3Seen_at (v : Value) (es : List Ent) (key : ByteArray) (q : Int) (x : Ent) (s : Bool) (w : World) (hr : RdE w v es) (hx : (seenL es key q).getD zeroE = x) (hs : (seenL es key q).isSome = s) :
    Calls Tryz.prog 117 #[v, .string key, .int .i64 q] w fun e w' => e = .returned (.tuple #[.agg #[.string x.key, .string x.val, .int .i64 x.seq, .bool x.gone], .bool s]) ∧ Below w.heap.size w w' := by
  have := l3Seen_any v es key q w hr
  unfold SeenPost at this
  rwa [hx, hs] at this
theorem below4 {B : Nat} {w0 w : World} (h : Below B w0 w) {g : Nat} (hg : B ≤ g) (a b c d : Value) (i j k l : Nat) : Below B w0 ((((w.setCell ⟨g, i, none⟩ a).setCell ⟨g, j, none⟩ b).setCell ⟨g, k, none⟩ c).setCell ⟨g, l, none⟩ d) :=
  (((h.setCell (by exact hg) _).setCell (by exact hg) _).setCell (by exact hg) _).setCell (by exact hg) _
open Go.RowKit
open Go.RowKit
theorem entAt_new (W : World) (x : Ent) (t : TypeId) : EntAt (W.alloc (.cells #[.string x.key, .string x.val, .int .i64 x.seq, .bool x.gone] t)) W.heap.size 0 x :=
  ⟨by simp [World.cell?_alloc_at], by simp [World.cell?_alloc_at], by simp [World.cell?_alloc_at], by simp [World.cell?_alloc_at]⟩
theorem EntAt.alloc {w : World} {b o : Nat} {e : Ent} (h : EntAt w b o e) (x : Obj) : EntAt (w.alloc x) b o e := h.below (below1 _ _)
end Go.Proofs.YtpbbahpndgigjaaGreatDoor
