/- The contracts of the law's measure and copy of a slice of texts. -/
import Derived.Test.YtckidhcknibceaaStrBase
namespace Go.Proofs.Ytckidhcknibceaa
open Go.RowKit
theorem made_SV (n : Nat) : (madeCells #[Value.string ⟨#[]⟩] n).toList = SV (List.replicate n ⟨#[]⟩) := by
  rw [toList_madeCells_one]
  simp [SV]
theorem cpS_step (bs : List ByteArray) (z : ByteArray) (k : Nat) (h : k < bs.length) : (bs.take k ++ List.replicate (bs.length - k) z).set k bs[k] = bs.take (k + 1) ++ List.replicate (bs.length - (k + 1)) z := by
  have hl : (bs.take k).length = k := by rw [List.length_take]; omega
  rw [List.set_append_right _ _ (by omega), hl, Nat.sub_self]
  obtain ⟨m, hm⟩ : ∃ m, bs.length - k = m + 1 := ⟨bs.length - k - 1, by omega⟩
  have hm2 : bs.length - (k + 1) = m := by omega
  rw [hm, hm2, List.replicate_succ, List.set_cons_zero, List.take_succ_eq_append_getElem h, List.append_assoc, List.singleton_append]
theorem cpS_len (bs : List ByteArray) (z : ByteArray) (k : Nat) (h : k ≤ bs.length) : (bs.take k ++ List.replicate (bs.length - k) z).length = bs.length := by
  rw [List.length_append, List.length_take, List.length_replicate]; omega

set_option maxHeartbeats 400000 in
set_option maxRecDepth 100000 in
theorem toTexts_any (v : Value) (bs : List ByteArray) (w : World) (hr : RdS w v bs) (hs : bs.length ≤ 1073741824) :
    Calls Try.prog 23 #[v] w fun e w' => ∃ u, e = .returned u ∧ OwnS w' w.heap.size u bs ∧ Below w.heap.size w w' := by
  obtain ⟨i0, hi, hz0, hz1, hz2⟩ := info_parts Try.info9
  obtain ⟨a, cap, rfl, hl, hm, hA⟩ := hr
  go_enter Try.func23, Try.ntmps23
  go_wp2_with (at_make; (refine wpList_make_full _ rfl _ _ 25 rfl w.heap.size 9 i0 (.string ⟨#[]⟩) 1 Try.underlying25 hi hz0 hz1 .i64 .i64 (bs.length : Int) (bs.length : Int) bs.length rfl rfl rfl rfl ?c1 ?c2 ?c3 ?_))
  case c1 => rw [hz2]; omega
  case c2 => unfold maxLen; omega
  case c3 => omega
  intro w1 ho1 hg1
  rw [made_SV] at ho1
  have hb1 : Below w.heap.size w w1 := (Below.refl _ _).grown hg1 (Nat.le_refl _) (fun k hk => by cases hk)
  clear hg1
  go_wp2
  go_loopw [4] (fun i wr => ∃ k : Nat, k ≤ bs.length ∧ i = .int .i64 k ∧ wr.ownsRow w.heap.size 9 1 (.slice (some ⟨w.heap.size, 0, none⟩) bs.length bs.length) bs.length (SV (bs.take k ++ List.replicate (bs.length - k) ⟨#[]⟩)) ∧ Below w.heap.size w wr) (fun i _ => bs.length - (intOf i).toNat)
  case atStart => exact ⟨0, Nat.zero_le _, rfl, by simpa using ho1, hb1⟩
  case round =>
    obtain ⟨k, hk, rfl, ho, hb⟩ := hrel
    clear ho1 hb1
    by_cases hlt : k < bs.length
    · obtain ⟨b, off, ha, hc⟩ : ∃ b off, a = some ⟨b, off, none⟩ ∧ wr.cell? ⟨b, off + k, none⟩ = some (.string bs[k]) := by
        rcases hA with h | ⟨b, off, ha, hc⟩
        · subst h; simp at hlt
        · exact ⟨b, off, ha, by rw [hb.cell (World.block_lt_of_cell? w _ (hc k hlt))]; exact hc k hlt⟩
      rw [ha]
      have hc2 := (ho.cellAt k (by omega)).trans (SV_get _ k (by rw [cpS_len bs _ k hk]; exact hlt))
      have hf := ho.frozenAt k
      have R1 := (ho.stored k (.string bs[k])).1
      rw [← SV_set, cpS_step bs _ k hlt] at R1
      have R2 : Below w.heap.size w (wr.setCell ⟨w.heap.size, k, none⟩ (.string bs[k])) := hb.setCell (Nat.le_refl _) _
      have H1 : Hid (World.ownsRow _ _ _ _ _ _ _) := R1
      clear ho hA hb R1
      go_wp2
      go_roundw
      case rel => exact ⟨k + 1, by omega, by go_num, H1.out, R2⟩
      case measure => simp [intOf]; omega
    · have hke : k = bs.length := by omega
      subst hke
      have H1 : OwnS wr w.heap.size (.slice (some ⟨w.heap.size, 0, none⟩) bs.length bs.length) bs := by unfold OwnS; simpa using ho
      clear ho
      go_wp2
      go_ret
      exact ⟨_, rfl, H1, hb⟩

/-- What the measure leaves: a number below 0, or the list and each of its texts are small. -/
def SzPost (w : World) (ss : List ByteArray) (e : Ending) (w' : World) : Prop :=
  w' = w ∧ ∃ x : Int, e = .returned (.int .i64 x) ∧ (x < 0 ∨ 0 ≤ x ∧ ss.length ≤ 1048576 ∧ ∀ s ∈ ss, s.size ≤ 1048576)
set_option maxHeartbeats 400000 in
set_option maxRecDepth 100000 in
theorem sz_gen (v : Value) (ss : List ByteArray) (lf : Int) (w : World) (hr : RdS w v ss) (hsz : ∀ s ∈ ss, s.size ≤ maxLen) (hlf0 : 0 ≤ lf) (hlf1 : lf ≤ 1048576) :
    Calls Try.prog 18 #[v, .int .i64 lf] w fun e w' => SzPost w ss e w' := by
  obtain ⟨a, cap, rfl, hl, hm, hA⟩ := hr
  unfold maxLen at hm
  have HSZ : Hid (∀ s ∈ ss, s.size ≤ maxLen) := hsz
  clear hsz
  by_cases hbig : lf < (ss.length : Int)
  · clear hA
    have hbn : lf - (ss.length : Int) < 0 := by omega
    go_enter Try.func18, Try.ntmps18
    go_wp2
    go_ret
    exact ⟨rfl, -1, rfl, .inl (by omega)⟩
  · have hbn : ¬ lf - (ss.length : Int) < 0 := by omega
    go_enter Try.func18, Try.ntmps18
    go_wp2
    go_loop [1, 5] (fun l i => ∃ (k : Nat) (x : Int), k ≤ ss.length ∧ i = .int .i64 k ∧ l = .int .i64 x ∧ 0 ≤ x ∧ x ≤ 1048576 ∧ Hid (∀ j (h : j < ss.length), j < k → ss[j].size ≤ 1048576)) (fun _ i => ss.length - (intOf i).toNat)
    case atStart => exact ⟨0, _, Nat.zero_le _, rfl, rfl, by omega, by omega, fun j h h' => by omega⟩
    case round =>
      obtain ⟨k, x, hk, rfl, rfl, hx0, hx1, HJ⟩ := hrel
      by_cases hlt : k < ss.length
      · obtain ⟨b, off, ha, hc⟩ : ∃ b off, a = some ⟨b, off, none⟩ ∧ w.cell? ⟨b, off + k, none⟩ = some (.string ss[k]) := by
          rcases hA with h | ⟨b, off, ha, hc⟩
          · subst h; simp at hlt
          · exact ⟨b, off, ha, hc k hlt⟩
        rw [ha]
        have hsk := HSZ.out _ (List.getElem_mem hlt)
        unfold maxLen at hsk
        obtain ⟨s, hs⟩ : ∃ s, s = ss[k] := ⟨_, rfl⟩
        rw [← hs] at hc hsk
        have Hs : Hid (s = ss[k]) := hs
        clear hs hA
        by_cases hneg : x - (s.size : Int) < 0
        · go_wp2
          go_ret
          exact ⟨rfl, -1, rfl, .inl (by omega)⟩
        · go_wp2
          go_round
          case rel =>
            refine ⟨k + 1, _, by omega, by go_num, rfl, by omega, by omega, fun j h h' => ?_⟩
            by_cases hjk : j = k
            · subst hjk; rw [← Hs.out]; omega
            · exact HJ.out j h (by omega)
          case measure => simp [intOf]; omega
      · have hke : k = ss.length := by omega
        subst hke
        go_wp2
        go_ret
        refine ⟨rfl, x, rfl, .inr ⟨hx0, by omega, fun s hs => ?_⟩⟩
        obtain ⟨j, hj, rfl⟩ := List.getElem_of_mem hs
        exact HJ.out j hj hj
theorem sz_any (v : Value) (ss : List ByteArray) (w : World) (hr : RdS w v ss) (hsz : ∀ s ∈ ss, s.size ≤ maxLen) :
    Calls Try.prog 18 #[v, .int .i64 1048576] w fun e w' => SzPost w ss e w' := sz_gen v ss 1048576 w hr hsz (by omega) (by omega)
set_option maxHeartbeats 400000 in
set_option maxRecDepth 100000 in
theorem szTexts_at (v : Value) (ss : List ByteArray) (lf : Int) (w : World) (hr : RdS w v ss) (hsz : ∀ s ∈ ss, s.size ≤ maxLen) (hlf0 : 0 ≤ lf) (hlf1 : lf ≤ 1048576) :
    Calls Try.prog 18 #[v, .int .i64 lf] w fun e w' => w' = w ∧ ∃ x : Int, e = .returned (.int .i64 x) ∧ (x = -1 ∨ 0 ≤ x ∧ x + ss.length ≤ lf ∧ ∀ s ∈ ss, s.size ≤ 1048576) := by
  obtain ⟨a, cap, rfl, hl, hm, hA⟩ := hr
  unfold maxLen at hm
  have HSZ : Hid (∀ s ∈ ss, s.size ≤ maxLen) := hsz
  clear hsz
  by_cases hbig : lf < (ss.length : Int)
  · clear hA
    have hbn : lf - (ss.length : Int) < 0 := by omega
    go_enter Try.func18, Try.ntmps18
    go_wp2
    go_ret
    exact ⟨rfl, -1, rfl, .inl rfl⟩
  · have hbn : ¬ lf - (ss.length : Int) < 0 := by omega
    go_enter Try.func18, Try.ntmps18
    go_wp2
    go_loop [1, 5] (fun l i => ∃ (k : Nat) (x : Int), k ≤ ss.length ∧ i = .int .i64 k ∧ l = .int .i64 x ∧ 0 ≤ x ∧ x ≤ lf - (ss.length : Int) ∧ Hid (∀ j (h : j < ss.length), j < k → ss[j].size ≤ 1048576)) (fun _ i => ss.length - (intOf i).toNat)
    case atStart => exact ⟨0, _, Nat.zero_le _, rfl, rfl, by omega, by omega, fun j h h' => by omega⟩
    case round =>
      obtain ⟨k, x, hk, rfl, rfl, hx0, hx1, HJ⟩ := hrel
      by_cases hlt : k < ss.length
      · obtain ⟨b, off, ha, hc⟩ : ∃ b off, a = some ⟨b, off, none⟩ ∧ w.cell? ⟨b, off + k, none⟩ = some (.string ss[k]) := by
          rcases hA with h | ⟨b, off, ha, hc⟩
          · subst h; simp at hlt
          · exact ⟨b, off, ha, hc k hlt⟩
        rw [ha]
        have hsk := HSZ.out _ (List.getElem_mem hlt)
        unfold maxLen at hsk
        obtain ⟨s, hs⟩ : ∃ s, s = ss[k] := ⟨_, rfl⟩
        rw [← hs] at hc hsk
        have Hs : Hid (s = ss[k]) := hs
        clear hs hA
        by_cases hneg : x - (s.size : Int) < 0
        · go_wp2
          go_ret
          exact ⟨rfl, -1, rfl, .inl rfl⟩
        · go_wp2
          go_round
          case rel =>
            refine ⟨k + 1, _, by omega, by go_num, rfl, by omega, by omega, fun j h h' => ?_⟩
            by_cases hjk : j = k
            · subst hjk; rw [← Hs.out]; omega
            · exact HJ.out j h (by omega)
          case measure => simp [intOf]; omega
      · have hke : k = ss.length := by omega
        subst hke
        go_wp2
        go_ret
        refine ⟨rfl, x, rfl, .inr ⟨hx0, by omega, fun s hs => ?_⟩⟩
        obtain ⟨j, hj, rfl⟩ := List.getElem_of_mem hs
        exact HJ.out j hj hj
end Go.Proofs.Ytckidhcknibceaa
