/- The contract of the law's copy of a slice of bytes: a slice of its own with the same bytes. -/
import Derived.Test.YtnmjkbpoioadmaaNum
namespace Go.Proofs.Ytnmjkbpoioadmaa
open Go.RowKit
theorem made_BV (n : Nat) : (madeCells #[Value.int .u8 0] n).toList = BV (List.replicate n 0) := by
  rw [toList_madeCells_one]
  simp [BV]
theorem cp_step (bs : List UInt8) (k : Nat) (h : k < bs.length) : (bs.take k ++ List.replicate (bs.length - k) 0).set k bs[k] = bs.take (k + 1) ++ List.replicate (bs.length - (k + 1)) 0 := by
  have hl : (bs.take k).length = k := by rw [List.length_take]; omega
  rw [List.set_append_right _ _ (by omega), hl, Nat.sub_self]
  obtain ⟨m, hm⟩ : ∃ m, bs.length - k = m + 1 := ⟨bs.length - k - 1, by omega⟩
  have hm2 : bs.length - (k + 1) = m := by omega
  rw [hm, hm2, List.replicate_succ, List.set_cons_zero, List.take_succ_eq_append_getElem h, List.append_assoc, List.singleton_append]
theorem cp_len (bs : List UInt8) (k : Nat) (h : k ≤ bs.length) : (bs.take k ++ List.replicate (bs.length - k) 0).length = bs.length := by
  rw [List.length_append, List.length_take, List.length_replicate]; omega
theorem BV_set' (bs : List UInt8) (i : Nat) (b : UInt8) : BV (bs.set i b) = (BV bs).set i (.int .u8 (b.toNat : Int)) := by simp [BV, List.map_set]

set_option maxHeartbeats 400000 in
set_option maxRecDepth 100000 in
theorem toBytes_any (v : Value) (bs : List UInt8) (w : World) (hr : Rd w v bs) (hs : bs.length ≤ 1073741824) :
    Calls Try.prog 35 #[v] w fun e w' => ∃ u, e = .returned u ∧ Own w' w.heap.size u bs ∧ Below w.heap.size w w' := by
  obtain ⟨i0, hi, hz0, hz1, hz2⟩ := info_parts Try.info5
  obtain ⟨a, cap, rfl, hl, hm, hA⟩ := hr
  go_enter Try.func35, Try.ntmps35
  go_wp2_with (at_make; (refine wpList_make_full _ rfl _ _ 22 rfl w.heap.size 5 i0 (.int .u8 0) 1 Try.underlying22 hi hz0 hz1 .i64 .i64 (bs.length : Int) (bs.length : Int) bs.length rfl rfl rfl rfl ?c1 ?c2 ?c3 ?_))
  case c1 => rw [hz2]; omega
  case c2 => unfold maxLen; omega
  case c3 => omega
  intro w1 ho1 hg1
  rw [made_BV] at ho1
  have hb1 : Below w.heap.size w w1 := (Below.refl _ _).grown hg1 (Nat.le_refl _) (fun k hk => by cases hk)
  clear hg1
  go_wp2
  go_loopw [4] (fun i wr => ∃ k : Nat, k ≤ bs.length ∧ i = .int .i64 k ∧ wr.ownsRow w.heap.size 5 1 (.slice (some ⟨w.heap.size, 0, none⟩) bs.length bs.length) bs.length (BV (bs.take k ++ List.replicate (bs.length - k) 0)) ∧ Below w.heap.size w wr) (fun i _ => bs.length - (intOf i).toNat)
  case atStart => exact ⟨0, Nat.zero_le _, rfl, by simpa using ho1, hb1⟩
  case round =>
    obtain ⟨k, hk, rfl, ho, hb⟩ := hrel
    clear ho1 hb1
    by_cases hlt : k < bs.length
    · obtain ⟨b, off, ha, hc⟩ : ∃ b off, a = some ⟨b, off, none⟩ ∧ wr.cell? ⟨b, off + k, none⟩ = some (.int .u8 (bs[k].toNat : Int)) := by
        rcases hA with h | ⟨b, off, ha, hc⟩
        · subst h; simp at hlt
        · exact ⟨b, off, ha, by rw [hb.cell (World.block_lt_of_cell? w _ (hc k hlt))]; exact hc k hlt⟩
      rw [ha]
      have hc2 := (ho.cellAt k (by omega)).trans (BV_get _ k (by rw [cp_len bs k hk]; exact hlt))
      have hf := ho.frozenAt k
      have R1 := (ho.stored k (.int .u8 (bs[k].toNat : Int))).1
      rw [← BV_set', cp_step bs k hlt] at R1
      have R2 : Below w.heap.size w (wr.setCell ⟨w.heap.size, k, none⟩ (.int .u8 (bs[k].toNat : Int))) := hb.setCell (Nat.le_refl _) _
      have H1 : Hid (World.ownsRow _ _ _ _ _ _ _) := R1
      clear ho hA hb R1
      go_wp2
      go_roundw
      case rel => exact ⟨k + 1, by omega, by go_num, H1.out, R2⟩
      case measure => simp [intOf]; omega
    · have hke : k = bs.length := by omega
      subst hke
      have H1 : Own wr w.heap.size (.slice (some ⟨w.heap.size, 0, none⟩) bs.length bs.length) bs := by unfold Own; simpa using ho
      clear ho
      go_wp2
      go_ret
      exact ⟨_, rfl, H1, hb⟩
end Go.Proofs.Ytnmjkbpoioadmaa
