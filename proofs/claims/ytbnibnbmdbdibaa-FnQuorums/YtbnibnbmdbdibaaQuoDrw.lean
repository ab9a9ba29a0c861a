/- The law of quorums' helpers: big, pick, and the draw of a number of servers. -/
-- UNF Gen
import Derived.Test.YtbnibnbmdbdibaaBlkQuo
import Derived.Test.YtbnibnbmdbdibaaDraw
namespace Go.Proofs.Ytbnibnbmdbdibaa
open Go.RowKit
set_option maxHeartbeats 400000 in
set_option maxRecDepth 100000 in
theorem bigQ_any (v : Value) (bs : List UInt8) (w : World) (hr : Rd w v bs) :
    Calls Try.prog 5 #[v] w fun e w' => e = .returned (.bool (decide (4096 < (bs.length : Int)))) ∧ w' = w := by
  obtain ⟨a, cap, rfl, hl, hm, _⟩ := hr
  unfold maxLen at hm
  go_enter Try.func5, Try.ntmps5
  go_wp2
  go_ret
  exact ⟨rfl, rfl⟩
/-- What pick leaves: a number below n. -/
def PickQ (w : World) (n : Int) (e : Ending) (w' : World) : Prop := w' = w ∧ ∃ x : Nat, e = .returned (.int .i64 (x : Int)) ∧ (x : Int) < n
set_option maxHeartbeats 400000 in
set_option maxRecDepth 100000 in
theorem pickQ_any (v : Value) (bs : List UInt8) (a : Nat) (n : Int) (w : World) (hr : Rd w v bs) (hb : bs.length ≤ 4096) (ha : a ≤ 128) (hn : 0 < n) (hn2 : n ≤ 1099511627776) :
    Calls Try.prog 9 #[v, .int .i64 (a : Int), .int .i64 n] w fun e w' => PickQ w n e w' := by
  obtain ⟨ad, cap, rfl, hl, hm, hA⟩ := hr
  unfold maxLen at hm
  go_enter Try.func9, Try.ntmps9
  go_wp2
  go_loop [7, 8] (fun kk ii => ∃ (k : Nat) (y : Int), k ≤ bs.length ∧ ii = .int .i64 k ∧ kk = .int .i64 y ∧ 0 ≤ y ∧ y ≤ 1100000) (fun _ ii => bs.length - (intOf ii).toNat)
  case atStart => exact ⟨0, _, Nat.zero_le _, rfl, rfl, by omega, by omega⟩
  case round =>
    obtain ⟨k, y, hk, rfl, rfl, hy0, hy1⟩ := hrel
    by_cases hlt : k < bs.length
    · obtain ⟨b, off, ha, hc⟩ : ∃ b off, ad = some ⟨b, off, none⟩ ∧ w.cell? ⟨b, off + k, none⟩ = some (.int .u8 (bs[k].toNat : Int)) := by
        rcases hA with h | ⟨b, off, ha, hc⟩
        · subst h; simp at hlt
        · exact ⟨b, off, ha, hc k hlt⟩
      rw [ha]
      obtain ⟨d, hd⟩ : ∃ d : Nat, d = bs[k].toNat := ⟨_, rfl⟩
      have hd8 : d < 256 := by rw [hd]; exact UInt8.toNat_lt _
      rw [← hd] at hc
      clear hA hd
      go_wp2
      go_round
      case rel => exact ⟨k + 1, _, by omega, by go_num, rfl, by omega, by omega⟩
      case measure => simp [intOf]; omega
    · clear hA
      have hm0 := Int.emod_nonneg y (show n ≠ 0 by omega)
      have hm1 := Int.emod_lt_of_pos y hn
      go_wp2
      go_ret
      refine ⟨rfl, (y % n).toNat, ?_, by omega⟩
      show Ending.returned (.int .i64 (y % n)) = _
      rw [Int.toNat_of_nonneg hm0]
theorem litQ_cell {w1 w2 : World} {cs : Array Value} {t : TypeId} {g : Nat} (hg : (w1.alloc (.cells cs t)).grownBy w2 (some g)) (hlt : g < w1.heap.size) (k : Nat) (hk : k < cs.size) : w2.cell? ⟨w1.heap.size, k, none⟩ = some cs[k] := by
  have hb := hg.block w1.heap.size (by simp) (fun e => by simp at e; omega)
  rw [World.cell?_of_block (w := w1.alloc (.cells cs t)) (a := ⟨w1.heap.size, k, none⟩) hb]
  simp [hk]
theorem pickZ {w1 w2 : World} {t : TypeId} {g k : Nat} (zs : List Int) (hg : (w1.alloc (.cells (zs.map (Value.int .i64)).toArray t)).grownBy w2 (some g)) (hlt : g < w1.heap.size) (hk : k < zs.length) : ∃ y : Int, w2.cell? ⟨w1.heap.size, k, none⟩ = some (.int .i64 y) ∧ y ∈ zs := by
  refine ⟨zs[k], ?_, List.getElem_mem hk⟩
  rw [litQ_cell hg hlt k (by simpa using hk)]
  simp
/-- What the draw of a number of servers leaves. -/
def QuoD (w : World) (e : Ending) (w' : World) : Prop := ∃ n : Int, e = .returned (.int .i64 n) ∧ (-1 ≤ n ∧ n ≤ 4611686018427387904) ∧ Below w.heap.size w w'
set_option maxHeartbeats 1000000 in
set_option maxRecDepth 100000 in
theorem drawQuorum_any (v : Value) (bs : List UInt8) (w : World) (hr : Rd w v bs) (hb : bs.length ≤ 4096) :
    Calls Try.prog 6 #[v] w fun e w' => QuoD w e w' := by
  go_enter Try.func6, Try.ntmps6
  go_wp2_with fail
  refine (l1New_any v bs _ hr hb).mono ?_
  rintro e w1 ⟨g, rfl, hc⟩
  have hca := hc.alloc (.cells #[.int .i64 (-1), .int .i64 0, .int .i64 1, .int .i64 2, .int .i64 3, .int .i64 4, .int .i64 5, .int .i64 7, .int .i64 10, .int .i64 4611686018427387904] 2)
  have hlt := hc.lt
  clear hc
  go_wp2_with fail
  refine (l1Below_any w _ g 10 hca (by omega) (by omega)).mono ?_
  rintro e w2 ⟨x, rfl, hx0, hx1, hc2, hg2⟩
  obtain ⟨k, rfl⟩ := Int.eq_ofNat_of_zero_le hx0
  obtain ⟨y, hcell, hy⟩ := pickZ [-1, 0, 1, 2, 3, 4, 5, 7, 10, 4611686018427387904] hg2 hlt (k := k) (by simp; omega)
  have hbel := hc2.bel
  have hy2 : -1 ≤ y ∧ y ≤ 4611686018427387904 := by
    simp only [List.mem_cons, List.not_mem_nil, or_false] at hy
    omega
  have HY : Hid (-1 ≤ y ∧ y ≤ 4611686018427387904) := hy2
  clear hca hg2 hc2 hy hy2
  go_wp2
  go_ret
  exact ⟨_, rfl, HY.out, hbel⟩
end Go.Proofs.Ytbnibnbmdbdibaa
