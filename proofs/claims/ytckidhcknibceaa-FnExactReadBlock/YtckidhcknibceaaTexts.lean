/- The contracts of both Texts over any slice of texts that can be read. -/
import Derived.Test.YtckidhcknibceaaText
import Derived.Test.YtckidhcknibceaaStrBase
import Derived.Test.YtckidhcknibceaaMath1
namespace Go.Proofs.Ytckidhcknibceaa
open Go.RowKit
/-- The bytes of each text, one behind the other. -/
def tx : List ByteArray → List UInt8
  | [] => []
  | s :: r => enc s.size ++ s.data.toList ++ tx r
def textsOf (ss : List ByteArray) : List UInt8 := if ss.length ≤ 200 ∧ ∀ s ∈ ss, s.size ≤ 3000 then enc ss.length ++ tx ss else []
theorem tx_append (a b : List ByteArray) : tx (a ++ b) = tx a ++ tx b := by
  induction a with
  | nil => rfl
  | cons s r ih => simp only [List.cons_append, tx, ih, List.append_assoc]
theorem tx_snoc (ss : List ByteArray) (k : Nat) (h : k < ss.length) : tx (ss.take (k + 1)) = tx (ss.take k) ++ (enc ss[k].size ++ ss[k].data.toList) := by
  rw [List.take_succ_eq_append_getElem h, tx_append]
  simp [tx]
theorem tx_len (ss : List ByteArray) (h : ∀ s ∈ ss, s.size ≤ 3000) : (tx ss).length ≤ 3009 * ss.length := by
  induction ss with
  | nil => simp [tx]
  | cons s r ih =>
    have h1 := ih fun t ht => h t (List.mem_cons_of_mem _ ht)
    have h2 := h s List.mem_cons_self
    have h3 := enc_len9 s.size (by omega)
    simp only [tx, List.length_append, size_length, List.length_cons]
    omega
theorem textsOf_many (ss : List ByteArray) (h : 200 < ss.length) : textsOf ss = [] := by unfold textsOf; rw [if_neg (by omega)]
theorem textsOf_long (ss : List ByteArray) (k : Nat) (hk : k < ss.length) (h : 3000 < ss[k].size) : textsOf ss = [] := by
  unfold textsOf
  rw [if_neg fun hh => by have := hh.2 _ (List.getElem_mem hk); omega]
theorem textsOf_in (ss : List ByteArray) (h : ss.length ≤ 200) (hs : ∀ s ∈ ss, s.size ≤ 3000) : textsOf ss = enc ss.length ++ tx ss := by unfold textsOf; rw [if_pos ⟨h, hs⟩]
theorem textsOf_len (ss : List ByteArray) : (textsOf ss).length ≤ 700000 := by
  unfold textsOf
  split
  · rename_i h
    have h1 := tx_len ss h.2
    have h2 := enc_len9 ss.length (by omega)
    rw [List.length_append]
    omega
  · simp
set_option maxHeartbeats 1000000 in
set_option maxRecDepth 100000 in
theorem specTexts_any (v : Value) (ss : List ByteArray) (w : World) (hr : RdS w v ss) (hsz : ∀ s ∈ ss, s.size ≤ 1048576) :
    Calls Try.prog 21 #[v] w fun e w' => ∃ u, e = .returned u ∧ Own w' w.heap.size u (textsOf ss) ∧ Below w.heap.size w w' := by
  obtain ⟨i0, hi, hz0, hz1, hz2⟩ := info_parts Try.info5
  obtain ⟨T, hT⟩ : ∃ T, T = textsOf ss := ⟨_, rfl⟩
  rw [← hT]
  have HT : Hid (T = textsOf ss) := hT
  have HSZ : Hid (∀ s ∈ ss, s.size ≤ 1048576) := hsz
  clear hT hsz
  obtain ⟨a, cap, rfl, hl, hm, hA⟩ := hr
  unfold maxLen at hm
  by_cases hbig : 200 < ss.length
  · have HF : Hid (T = []) := HT.out.trans (textsOf_many ss hbig)
    clear hA
    go_enter Try.func21, Try.ntmps21
    go_wp2
    go_ret
    rw [HF.out]
    exact ⟨_, rfl, own_none _, (Below.refl _ _).alloc (Nat.le_refl _) _⟩
  have hL := enc_len9 ss.length (by omega)
  go_enter Try.func21, Try.ntmps21
  go_wp2_with fail
  refine (l1Number_any _ _ (by omega) (by omega)).mono ?_
  rw [Int.toNat_natCast]
  rintro e w1 ⟨v1, rfl, ho1, hb1⟩
  go_wp2
  go_loopw [3, 4] (fun oo ii wr => ∃ k : Nat, k ≤ ss.length ∧ ii = .int .i64 k ∧ Own wr w.heap.size oo (enc ss.length ++ tx (ss.take k)) ∧ Below w.heap.size w wr ∧ Hid (∀ j (h : j < ss.length), j < k → ss[j].size ≤ 3000)) (fun _ ii _ => ss.length - (intOf ii).toNat)
  case atStart => exact ⟨0, Nat.zero_le _, rfl, by simpa [tx] using ho1, hb1, fun j h h' => by omega⟩
  case round =>
    obtain ⟨k, hk, rfl, ho, hb, HJ⟩ := hrel
    have hs := hb.size
    clear ho1 hb1
    by_cases hlt : k < ss.length
    · obtain ⟨b, off, ha, hc⟩ : ∃ b off, a = some ⟨b, off, none⟩ ∧ wr.cell? ⟨b, off + k, none⟩ = some (.string ss[k]) := by
        rcases hA with h | ⟨b, off, ha, hc⟩
        · subst h; simp at hlt
        · exact ⟨b, off, ha, by rw [hb.cell (World.block_lt_of_cell? w _ (hc k hlt))]; exact hc k hlt⟩
      rw [ha]
      have hyl : (enc ss.length ++ tx (ss.take k)).length ≤ 700000 := by
        have h1 := tx_len (ss.take k) (fun s hs => by
          obtain ⟨j, hj, rfl⟩ := List.getElem_of_mem hs
          rw [List.length_take] at hj
          rw [List.getElem_take]
          exact HJ.out j (by omega) (by omega))
        rw [List.length_take] at h1
        rw [List.length_append]
        omega
      have hsn := tx_snoc ss k hlt
      obtain ⟨s, hs'⟩ : ∃ s, s = ss[k] := ⟨_, rfl⟩
      have hsk := HSZ.out _ (List.getElem_mem hlt)
      have H0 : Hid (3000 < s.size → T = []) := fun h => HT.out.trans (textsOf_long ss k hlt (by rw [← hs']; exact h))
      rw [← hs'] at hc hsk hsn
      have Hs : Hid (s = ss[k]) := hs'
      have Hsn : Hid (tx (ss.take (k + 1)) = tx (ss.take k) ++ (enc s.size ++ s.data.toList)) := hsn
      clear hs' hA hsn ha
      by_cases hlong : 3000 < s.size
      · have HF : Hid (T = []) := H0.out hlong
        clear H0
        go_wp2
        go_ret
        rw [HF.out]
        exact ⟨_, rfl, (own_none _).mono hs, hb.alloc hs _⟩
      · generalize hys : enc ss.length ++ tx (ss.take k) = ys at ho hyl
        have Hys : Hid (enc ss.length ++ tx (ss.take k) = ys) := hys
        have hel := enc_len9 s.size (by omega)
        have hz : (enc s.size ++ s.data.toList).length ≤ 3009 := by rw [List.length_append, size_length]; omega
        clear hys H0
        go_wp2_with fail
        refine (l1Text_any s _ (by omega)).mono ?_
        rintro e w2 ⟨v2, rfl, ho2, hb2⟩
        obtain ⟨g2, c2, hv2, hcl⟩ := own_some ho2 (by simp [enc_ne])
        have ho' := ho.below hb2
        have hb' := hb.trans (hb2.mono hs)
        have hs2 := hb2.size
        generalize enc s.size ++ s.data.toList = zs at hz ho2 hv2 hcl Hsn
        subst hv2
        have Hcl : Hid (∀ j u, (BV zs)[j]? = some u → w2.cell? ((⟨g2, 0, none⟩ : Addr).add j) = some u) := hcl
        clear ho hb hb2 hcl ho2
        go_wp2_with (at_builtin; (refine wpList_append_own _ rfl _ _ 43 rfl w.heap.size 5 i0 (.int .u8 0) 1 1 Try.underlying43 hi hz0 hz1 hz2 rfl (by decide) _ _ _ rfl ho' ⟨g2, 0, none⟩ zs.length c2 (BV zs) rfl (by rw [BV_length, Nat.mul_one]) Hcl.out (BV_oneCell zs) ?c3 ?c4 ?c5 ?_))
        case c3 => unfold maxLen; omega
        case c4 => omega
        case c5 => omega
        intro v' w3 hown' hgrow _
        have R1 := own_more hown'
        have R2 := text_below ho' hb' (by omega) hgrow
        have e3 : ys ++ zs = enc ss.length ++ tx (ss.take (k + 1)) := by rw [Hsn.out, ← Hys.out, List.append_assoc]
        rw [e3] at R1
        clear hown' hgrow ho' hb' e3
        go_wp2
        go_roundw
        case rel =>
          refine ⟨k + 1, by omega, by go_num, R1, R2, fun j h h' => ?_⟩
          by_cases hjk : j = k
          · subst hjk; rw [← Hs.out]; omega
          · exact HJ.out j h (by omega)
        case measure => simp [intOf]; omega
    · have hke : k = ss.length := by omega
      subst hke
      have HF : Hid (T = enc ss.length ++ tx ss) := HT.out.trans (textsOf_in ss (by omega) (fun s hs => by obtain ⟨j, hj, rfl⟩ := List.getElem_of_mem hs; exact HJ.out j hj hj))
      rw [List.take_length] at ho
      go_wp2
      go_ret
      rw [HF.out]
      exact ⟨_, rfl, ho, hb⟩
set_option maxHeartbeats 1000000 in
set_option maxRecDepth 100000 in
theorem implTexts_any (v : Value) (ss : List ByteArray) (w : World) (hr : RdS w v ss) (hsz : ∀ s ∈ ss, s.size ≤ 1048576) :
    Calls Try.prog 27 #[v] w fun e w' => ∃ u, e = .returned u ∧ Own w' w.heap.size u (textsOf ss) ∧ Below w.heap.size w w' := by
  obtain ⟨i0, hi, hz0, hz1, hz2⟩ := info_parts Try.info5
  obtain ⟨T, hT⟩ : ∃ T, T = textsOf ss := ⟨_, rfl⟩
  rw [← hT]
  have HT : Hid (T = textsOf ss) := hT
  have HSZ : Hid (∀ s ∈ ss, s.size ≤ 1048576) := hsz
  clear hT hsz
  obtain ⟨a, cap, rfl, hl, hm, hA⟩ := hr
  unfold maxLen at hm
  by_cases hbig : 200 < ss.length
  · have HF : Hid (T = []) := HT.out.trans (textsOf_many ss hbig)
    clear hA
    go_enter Try.func27, Try.ntmps27
    go_wp2
    go_ret
    rw [HF.out]
    exact ⟨_, rfl, own_none _, (Below.refl _ _).alloc (Nat.le_refl _) _⟩
  have hL := enc_len9 ss.length (by omega)
  have hn := num_in (ss.length : Int) (by omega) (by omega)
  rw [Int.toNat_natCast] at hn
  have Hn : Hid (num (ss.length : Int) = enc ss.length) := hn
  clear hn
  go_enter Try.func27, Try.ntmps27
  go_wp2_with fail
  refine (implNumber_any _ _).mono ?_
  rw [Hn.out]
  rintro e w1 ⟨v1, rfl, ho1, hb1⟩
  go_wp2
  go_loopw [3, 15] (fun oo ii wr => ∃ k : Nat, k ≤ ss.length ∧ ii = .int .i64 k ∧ Own wr w.heap.size oo (enc ss.length ++ tx (ss.take k)) ∧ Below w.heap.size w wr ∧ Hid (∀ j (h : j < ss.length), j < k → ss[j].size ≤ 3000)) (fun _ ii _ => ss.length - (intOf ii).toNat)
  case atStart => exact ⟨0, Nat.zero_le _, rfl, by simpa [tx] using ho1, hb1, fun j h h' => by omega⟩
  case round =>
    obtain ⟨k, hk, rfl, ho, hb, HJ⟩ := hrel
    have hs := hb.size
    clear ho1 hb1
    by_cases hlt : k < ss.length
    · obtain ⟨b, off, ha, hc⟩ : ∃ b off, a = some ⟨b, off, none⟩ ∧ wr.cell? ⟨b, off + k, none⟩ = some (.string ss[k]) := by
        rcases hA with h | ⟨b, off, ha, hc⟩
        · subst h; simp at hlt
        · exact ⟨b, off, ha, by rw [hb.cell (World.block_lt_of_cell? w _ (hc k hlt))]; exact hc k hlt⟩
      rw [ha]
      have hyl : (enc ss.length ++ tx (ss.take k)).length ≤ 700000 := by
        have h1 := tx_len (ss.take k) (fun s hs => by
          obtain ⟨j, hj, rfl⟩ := List.getElem_of_mem hs
          rw [List.length_take] at hj
          rw [List.getElem_take]
          exact HJ.out j (by omega) (by omega))
        rw [List.length_take] at h1
        rw [List.length_append]
        omega
      have hsn := tx_snoc ss k hlt
      obtain ⟨s, hs'⟩ : ∃ s, s = ss[k] := ⟨_, rfl⟩
      have hsk := HSZ.out _ (List.getElem_mem hlt)
      have H0 : Hid (3000 < s.size → T = []) := fun h => HT.out.trans (textsOf_long ss k hlt (by rw [← hs']; exact h))
      rw [← hs'] at hc hsk hsn
      have Hs : Hid (s = ss[k]) := hs'
      have Hsn : Hid (tx (ss.take (k + 1)) = tx (ss.take k) ++ (enc s.size ++ s.data.toList)) := hsn
      clear hs' hA hsn ha
      by_cases hlong : 3000 < s.size
      · have HF : Hid (T = []) := H0.out hlong
        clear H0
        go_wp2
        go_ret
        rw [HF.out]
        exact ⟨_, rfl, (own_none _).mono hs, hb.alloc hs _⟩
      · generalize hys : enc ss.length ++ tx (ss.take k) = ys at ho hyl
        have Hys : Hid (enc ss.length ++ tx (ss.take k) = ys) := hys
        have hel := enc_len9 s.size (by omega)
        have hz : (enc s.size ++ s.data.toList).length ≤ 3009 := by rw [List.length_append, size_length]; omega
        clear hys H0
        go_wp2_with fail
        refine (implText_any s _ (by omega)).mono ?_
        rw [text_in s (by omega)]
        rintro e w2 ⟨v2, rfl, ho2, hb2⟩
        obtain ⟨g2, c2, hv2, hcl⟩ := own_some ho2 (by simp [enc_ne])
        have ho' := ho.below hb2
        have hb' := hb.trans (hb2.mono hs)
        have hs2 := hb2.size
        generalize enc s.size ++ s.data.toList = zs at hz ho2 hv2 hcl Hsn
        subst hv2
        have Hcl : Hid (∀ j u, (BV zs)[j]? = some u → w2.cell? ((⟨g2, 0, none⟩ : Addr).add j) = some u) := hcl
        clear ho hb hb2 hcl ho2
        go_wp2_with (at_builtin; (refine wpList_append_own _ rfl _ _ 43 rfl w.heap.size 5 i0 (.int .u8 0) 1 1 Try.underlying43 hi hz0 hz1 hz2 rfl (by decide) _ _ _ rfl ho' ⟨g2, 0, none⟩ zs.length c2 (BV zs) rfl (by rw [BV_length, Nat.mul_one]) Hcl.out (BV_oneCell zs) ?c3 ?c4 ?c5 ?_))
        case c3 => unfold maxLen; omega
        case c4 => omega
        case c5 => omega
        intro v' w3 hown' hgrow _
        have R1 := own_more hown'
        have R2 := text_below ho' hb' (by omega) hgrow
        have e3 : ys ++ zs = enc ss.length ++ tx (ss.take (k + 1)) := by rw [Hsn.out, ← Hys.out, List.append_assoc]
        rw [e3] at R1
        clear hown' hgrow ho' hb' e3
        go_wp2
        go_roundw
        case rel =>
          refine ⟨k + 1, by omega, by go_num, R1, R2, fun j h h' => ?_⟩
          by_cases hjk : j = k
          · subst hjk; rw [← Hs.out]; omega
          · exact HJ.out j h (by omega)
        case measure => simp [intOf]; omega
    · have hke : k = ss.length := by omega
      subst hke
      have HF : Hid (T = enc ss.length ++ tx ss) := HT.out.trans (textsOf_in ss (by omega) (fun s hs => by obtain ⟨j, hj, rfl⟩ := List.getElem_of_mem hs; exact HJ.out j hj hj))
      rw [List.take_length] at ho
      go_wp2
      go_ret
      rw [HF.out]
      exact ⟨_, rfl, ho, hb⟩
end Go.Proofs.Ytckidhcknibceaa
