/- Servers, quorums, ballots and votes: plain notions, and the contracts of the model's Quorum, Voted and VoteOk. -/
-- UNF Gen
import Derived.Test.YtckidhcknibceaaDoorSign
import Derived.Test.YtckidhcknibceaaDoorGen
import Derived.Test.YtckidhcknibceaaDoorVotBx
import Derived.Test.YtckidhcknibceaaDoorBlkQuo
namespace Go.Proofs.YtckidhcknibceaaDoor
open Go.RowKit
def balS (v n : Int) : ByteArray := (⟨#[118, 111, 116, 101, 32]⟩ : ByteArray) ++ itoaS v ++ ⟨#[32]⟩ ++ itoaS n
def vtd (s v n : Int) : Vot := ⟨v, n, s, (tagD s (balS v n) : Int)⟩
def inV (v : Int) : Bool := decide (1 ≤ v ∧ v ≤ 100000)
def inN (n : Int) : Bool := decide (0 ≤ n ∧ n ≤ 2147483646)
def votR (s v n : Int) : Vot := if decide (0 ≤ s ∧ s ≤ 6) && inV v && inN n then vtd s v n else votZ
/-- Is the vote right among n servers? -/
def vokR (x : Vot) (n : Int) : Bool := srvB n && decide (0 ≤ x.sv ∧ x.sv ≤ n - 1) && inV x.vw && inN x.nm && decide ((tagD x.sv (balS x.vw x.nm) : Int) = x.tg)
theorem balS_size (v n : Int) (hv0 : -9223372036854775808 ≤ v) (hv1 : v ≤ 9223372036854775807) (hn0 : -9223372036854775808 ≤ n) (hn1 : n ≤ 9223372036854775807) : (balS v n).size ≤ 48 := by
  have h1 := itoaS_size v hv0 hv1
  have h2 := itoaS_size n hn0 hn1
  unfold balS
  rw [app_size, app_size, app_size]
  have h3 : (⟨#[118, 111, 116, 101, 32]⟩ : ByteArray).size = 5 := rfl
  have h4 : (⟨#[32]⟩ : ByteArray).size = 1 := rfl
  omega
set_option maxHeartbeats 1000000 in
set_option maxRecDepth 100000 in
theorem l15Ballot_any (v n : Int) (w : World) (hv0 : -9223372036854775808 ≤ v) (hv1 : v ≤ 9223372036854775807) (hn0 : -9223372036854775808 ≤ n) (hn1 : n ≤ 9223372036854775807) :
    Calls Tryd.prog 89 #[.int .i64 v, .int .i64 n] w fun e w' => e = .returned (.string (balS v n)) ∧ Below w.heap.size w w' := by
  have hsv := itoaS_size v hv0 hv1
  have hsn := itoaS_size n hn0 hn1
  go_enter Tryd.func89, Tryd.ntmps89
  go_wp2_with fail
  refine (l2Int_any v _ hv0 hv1).mono ?_
  rintro e w1 ⟨rfl, hw1⟩
  go_wp2_with fail
  refine (l2Int_any n _ hn0 hn1).mono ?_
  rintro e w2 ⟨rfl, hw2⟩
  have hw := hw1.trans (hw2.mono hw1.size)
  clear hw1 hw2
  go_wp2
  go_ret
  exact ⟨rfl, hw⟩
theorem l15Name_any (n : Int) (w : World) :
    Calls Tryd.prog 57 #[.int .i64 n] w fun e w' => e = .returned (.bool (inN n)) ∧ w' = w := by
  go_enter Tryd.func57, Tryd.ntmps57
  go_wp2_with fail
  refine (l1InT_any n 0 2147483646 _).mono ?_
  rintro e w1 ⟨rfl, rfl⟩
  go_wp2
  go_ret
  exact ⟨ret_bool (by unfold inN; simp), rfl⟩
set_option maxHeartbeats 1000000 in
set_option maxRecDepth 100000 in
theorem l15Voted_any (s v n : Int) (w : World) (hs0 : -9223372036854775808 ≤ s) (hs1 : s ≤ 9223372036854775807) (hv0 : -9223372036854775808 ≤ v) (hv1 : v ≤ 9223372036854775807) (hn0 : -9223372036854775808 ≤ n) (hn1 : n ≤ 9223372036854775807) :
    Calls Tryd.prog 58 #[.int .i64 s, .int .i64 v, .int .i64 n] w fun e w' => e = .returned (.agg (VC (vtd s v n))) ∧ Below w.heap.size w w' := by
  have hsz := balS_size v n hv0 hv1 hn0 hn1
  have b0 := below1 w (.cells (VC votZ) 35)
  have x0 := boxV_new w votZ
  go_enter Tryd.func58, Tryd.ntmps58
  go_wp2_with fail
  refine (l15Ballot_any v n _ hv0 hv1 hn0 hn1).mono ?_
  rintro e w1 ⟨rfl, hb1⟩
  have b1 : Below w.heap.size w w1 := b0.trans (Below.mono hb1 b0.size)
  have x1 : BoxV w1 w.heap.size votZ := x0.below hb1
  clear hb1 b0 x0
  go_wp2_with fail
  refine (l2Tag_any s (balS v n) _ hs0 hs1 (by omega)).mono ?_
  rintro e w2 ⟨rfl, hb2⟩
  have b2 := b1.trans (hb2.mono b1.size)
  have x2 := x1.below hb2
  have HT : Hid ((vtd s v n).tg = (tagD s (balS v n) : Int)) := rfl
  obtain ⟨t, htt⟩ : ∃ t : Int, t = (tagD s (balS v n) : Int) := ⟨_, rfl⟩
  have HV : Hid (vtd s v n = ⟨v, n, s, t⟩) := by unfold Hid vtd; rw [htt]
  rw [← htt]
  clear hb2 b1 x1 HT htt
  obtain ⟨c0, c1, c2, c3⟩ := x2.facts
  obtain ⟨f0, f1, f2, f3⟩ := x2.fz
  obtain ⟨k0, k1, k2, k3⟩ := (x2.put ⟨v, n, s, t⟩).facts
  have HE : Hid (Below w.heap.size w (putV w2 w.heap.size ⟨v, n, s, t⟩)) := putV_below b2 (Nat.le_refl _)
  unfold putV at k0 k1 k2 k3 HE
  simp only at k0 k1 k2 k3 HE
  unfold votZ at c0 c1 c2 c3
  simp only at c0 c1 c2 c3
  clear x2 b2
  go_wp2
  exact bodyPost_ret (v := .agg #[.int .i64 v, .int .i64 n, .int .i64 s, .int .i64 t]) (by simp [results, Tryd.results58, go_sem, k0, k1, k2, k3]) rfl ⟨by rw [HV.out]; rfl, HE.out⟩
end Go.Proofs.YtckidhcknibceaaDoor
