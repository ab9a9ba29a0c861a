/- Moves that a block may hold (no more than ten, none longer than sixty bytes): both sides tell the same. -/
import Derived.Test.YtilhaokiohbeeaaGreatDoorG04
import Derived.OpenShut
-- UNF Gen
namespace Go.Proofs.YtilhaokiohbeeaaGreatDoor
open Go.RowKit Go.ChangeShapes Go.WideShapes
/-- No more than ten, none longer than sixty. -/
def movesR (ms : List ByteArray) : Bool := decide (ms.length ≤ 10) && ms.all fun s => decide (s.size ≤ 60)
theorem movesR_long {ms : List ByteArray} (h : 10 < ms.length) : movesR ms = false := by
  have h1 : ¬ ms.length ≤ 10 := by omega
  simp [movesR, h1]
theorem movesR_bad {ms : List ByteArray} {k : Nat} (hk : k < ms.length) (h : 60 < ms[k].size) : movesR ms = false := by
  have h1 : (ms.all fun s => decide (s.size ≤ 60)) = false := by
    rw [List.all_eq_false]
    exact ⟨ms[k], List.getElem_mem hk, by simp; omega⟩
  simp [movesR, h1]
theorem movesR_good {ms : List ByteArray} (hl : ms.length ≤ 10) (h : ∀ j (hj : j < ms.length), ms[j].size ≤ 60) : movesR ms = true := by
  have h1 : (ms.all fun s => decide (s.size ≤ 60)) = true := by
    rw [List.all_eq_true]
    intro s hs
    obtain ⟨j, hj, rfl⟩ := List.getElem_of_mem hs
    simpa using h j hj
  simp [movesR, h1, hl]
set_option maxHeartbeats 400000 in
set_option maxRecDepth 100000 in
theorem l15Moves_any (v : Value) (ms : List ByteArray) (w : World) (hr : RdS w v ms) (hsz : ∀ s ∈ ms, s.size ≤ maxLen) :
    Calls Tryz.prog 90 #[v] w fun e w' => w' = w ∧ e = .returned (.bool (movesR ms)) := by
  obtain ⟨a, cap, rfl, hl, hm, hA⟩ := hr
  unfold maxLen at hm
  have HSZ : Hid (∀ s ∈ ms, s.size ≤ maxLen) := hsz
  clear hsz
  by_cases hbig : (10 : Int) < (ms.length : Int)
  · clear hA
    have HF : Hid (movesR ms = false) := movesR_long (by omega)
    go_enter Tryz.func90, Tryz.ntmps90
    go_wp2
    go_ret
    exact ⟨rfl, by rw [HF.out]; rfl⟩
  · go_enter Tryz.func90, Tryz.ntmps90
    go_wp2
    go_loop [3] (fun i => ∃ (k : Nat), k ≤ ms.length ∧ i = .int .i64 k ∧ Hid (∀ j (h : j < ms.length), j < k → ms[j].size ≤ 60)) (fun i => ms.length - (intOf i).toNat)
    case atStart => exact ⟨0, Nat.zero_le _, rfl, fun j h h' => by omega⟩
    case round =>
      obtain ⟨k, hk, rfl, HJ⟩ := hrel
      by_cases hlt : k < ms.length
      · obtain ⟨b, off, ha, hc⟩ : ∃ b off, a = some ⟨b, off, none⟩ ∧ w.cell? ⟨b, off + k, none⟩ = some (.string ms[k]) := by
          rcases hA with h | ⟨b, off, ha, hc⟩
          · subst h; simp at hlt
          · exact ⟨b, off, ha, hc k hlt⟩
        rw [ha]
        have hsk := HSZ.out _ (List.getElem_mem hlt)
        unfold maxLen at hsk
        obtain ⟨s, hs⟩ : ∃ s, s = ms[k] := ⟨_, rfl⟩
        rw [← hs] at hc hsk
        have Hs : Hid (s = ms[k]) := hs
        clear hs hA
        by_cases hneg : (60 : Int) < (s.size : Int)
        · have HF : Hid (movesR ms = false) := movesR_bad hlt (by rw [← Hs.out]; omega)
          go_wp2
          go_ret
          exact ⟨rfl, by rw [HF.out]; rfl⟩
        · go_wp2
          go_round
          case rel =>
            refine ⟨k + 1, by omega, by go_num, fun j h h' => ?_⟩
            by_cases hjk : j = k
            · subst hjk; rw [← Hs.out]; omega
            · exact HJ.out j h (by omega)
          case measure => simp [intOf]; omega
      · have hke : k = ms.length := by omega
        subst hke
        have HF : Hid (movesR ms = true) := movesR_good (by omega) (fun j hj => HJ.out j hj hj)
        go_wp2
        go_ret
        exact ⟨rfl, by rw [HF.out]; rfl⟩
set_option maxHeartbeats 400000 in
set_option maxRecDepth 100000 in
theorem movesOk_any (v : Value) (ms : List ByteArray) (w : World) (hr : RdS w v ms) (hsz : ∀ s ∈ ms, s.size ≤ maxLen) :
    Calls Tryz.prog 209 #[v] w fun e w' => w' = w ∧ e = .returned (.bool (movesR ms)) := by
  obtain ⟨a, cap, rfl, hl, hm, hA⟩ := hr
  unfold maxLen at hm
  have HSZ : Hid (∀ s ∈ ms, s.size ≤ maxLen) := hsz
  clear hsz
  by_cases hbig : (10 : Int) < (ms.length : Int)
  · clear hA
    have HF : Hid (movesR ms = false) := movesR_long (by omega)
    go_enter Tryz.func209, Tryz.ntmps209
    go_wp2
    go_ret
    exact ⟨rfl, by rw [HF.out]; rfl⟩
  · go_enter Tryz.func209, Tryz.ntmps209
    go_wp2
    go_loop [10] (fun i => ∃ (k : Nat), k ≤ ms.length ∧ i = .int .i64 k ∧ Hid (∀ j (h : j < ms.length), j < k → ms[j].size ≤ 60)) (fun i => ms.length - (intOf i).toNat)
    case atStart => exact ⟨0, Nat.zero_le _, rfl, fun j h h' => by omega⟩
    case round =>
      obtain ⟨k, hk, rfl, HJ⟩ := hrel
      by_cases hlt : k < ms.length
      · obtain ⟨b, off, ha, hc⟩ : ∃ b off, a = some ⟨b, off, none⟩ ∧ w.cell? ⟨b, off + k, none⟩ = some (.string ms[k]) := by
          rcases hA with h | ⟨b, off, ha, hc⟩
          · subst h; simp at hlt
          · exact ⟨b, off, ha, hc k hlt⟩
        rw [ha]
        have hsk := HSZ.out _ (List.getElem_mem hlt)
        unfold maxLen at hsk
        obtain ⟨s, hs⟩ : ∃ s, s = ms[k] := ⟨_, rfl⟩
        rw [← hs] at hc hsk
        have Hs : Hid (s = ms[k]) := hs
        clear hs hA
        by_cases hneg : (60 : Int) < (s.size : Int)
        · have HF : Hid (movesR ms = false) := movesR_bad hlt (by rw [← Hs.out]; omega)
          go_wp2
          go_ret
          exact ⟨rfl, by rw [HF.out]; rfl⟩
        · go_wp2
          go_round
          case rel =>
            refine ⟨k + 1, by omega, by go_num, fun j h h' => ?_⟩
            by_cases hjk : j = k
            · subst hjk; rw [← Hs.out]; omega
            · exact HJ.out j h (by omega)
          case measure => simp [intOf]; omega
      · have hke : k = ms.length := by omega
        subst hke
        have HF : Hid (movesR ms = true) := movesR_good (by omega) (fun j hj => HJ.out j hj hj)
        go_wp2
        go_ret
        exact ⟨rfl, by rw [HF.out]; rfl⟩
end Go.Proofs.YtilhaokiohbeeaaGreatDoor
