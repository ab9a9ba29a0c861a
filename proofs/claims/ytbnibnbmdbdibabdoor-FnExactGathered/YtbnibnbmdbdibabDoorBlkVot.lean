/- Servers, quorums, ballots and votes: plain notions, and the contracts of the model's Quorum, Voted and VoteOk. -/
-- UNF Gen
import Derived.Test.YtbnibnbmdbdibabDoorSign
import Derived.Test.YtbnibnbmdbdibabDoorGen
import Derived.Test.YtbnibnbmdbdibabDoorVotBase
import Derived.Test.YtbnibnbmdbdibabDoorBlkQuo
namespace Go.Proofs.YtbnibnbmdbdibabDoor
open Go.RowKit
def votZ : Vot := ⟨0, 0, 0, 0⟩
def VC (x : Vot) : Array Value := #[.int .i64 x.vw, .int .i64 x.nm, .int .i64 x.sv, .int .i64 x.tg]
def balS (v n : Int) : ByteArray := (⟨#[118, 111, 116, 101, 32]⟩ : ByteArray) ++ itoaS v ++ ⟨#[32]⟩ ++ itoaS n
def vtd (s v n : Int) : Vot := ⟨v, n, s, (tagD s (balS v n) : Int)⟩
def inV (v : Int) : Bool := decide (1 ≤ v ∧ v ≤ 100000)
def inN (n : Int) : Bool := decide (0 ≤ n ∧ n ≤ 2147483646)
def votR (s v n : Int) : Vot := if decide (0 ≤ s ∧ s ≤ 6) && inV v && inN n then vtd s v n else votZ
/-- Is the vote right among n servers? -/
def vokR (x : Vot) (n : Int) : Bool := srvB n && decide (0 ≤ x.sv ∧ x.sv ≤ n - 1) && inV x.vw && inN x.nm && decide ((tagD x.sv (balS x.vw x.nm) : Int) = x.tg)
theorem balS_size (v n : Int) (hv0 : -9223372036854775808 ≤ v) (hv1 : v ≤ 9223372036854775807) (hn0 : -9223372036854775808 ≤ n) (hn1 : n ≤ 9223372036854775807) : (balS v n).size ≤ 48 := by
  have h1 := itoaS_size v hv0 hv1
  have h2 := itoaS_size n hn0 hn1
  unfold balS
  rw [app_size, app_size, app_size]
  have h3 : (⟨#[118, 111, 116, 101, 32]⟩ : ByteArray).size = 5 := rfl
  have h4 : (⟨#[32]⟩ : ByteArray).size = 1 := rfl
  omega
set_option maxHeartbeats 1000000 in
set_option maxRecDepth 100000 in
theorem l15Ballot_any (v n : Int) (w : World) (hv0 : -9223372036854775808 ≤ v) (hv1 : v ≤ 9223372036854775807) (hn0 : -9223372036854775808 ≤ n) (hn1 : n ≤ 9223372036854775807) :
    Calls Tryd.prog 57 #[.int .i64 v, .int .i64 n] w fun e w' => e = .returned (.string (balS v n)) ∧ Below w.heap.size w w' := by
  have hsv := itoaS_size v hv0 hv1
  have hsn := itoaS_size n hn0 hn1
  go_enter Tryd.func57, Tryd.ntmps57
  go_wp2_with fail
  refine (l2Int_any v _ hv0 hv1).mono ?_
  rintro e w1 ⟨rfl, hw1⟩
  go_wp2_with fail
  refine (l2Int_any n _ hn0 hn1).mono ?_
  rintro e w2 ⟨rfl, hw2⟩
  have hw := hw1.trans (hw2.mono hw1.size)
  clear hw1 hw2
  go_wp2
  go_ret
  exact ⟨rfl, hw⟩
theorem l15Name_any (n : Int) (w : World) :
    Calls Tryd.prog 28 #[.int .i64 n] w fun e w' => e = .returned (.bool (inN n)) ∧ w' = w := by
  go_enter Tryd.func28, Tryd.ntmps28
  go_wp2_with fail
  refine (l1InT_any n 0 2147483646 _).mono ?_
  rintro e w1 ⟨rfl, rfl⟩
  go_wp2
  go_ret
  exact ⟨ret_bool (by unfold inN; simp), rfl⟩
/-- The box of a vote. -/
def BoxV (W : World) (b : Nat) (x : Vot) : Prop := W.heap[b]? = some (.cells (VC x) 58 (0, 0))
theorem boxV_new (w : World) (x : Vot) : BoxV (w.alloc (.cells (VC x) 58)) w.heap.size x := by
  unfold BoxV
  rw [show (w.alloc (.cells (VC x) 58)).heap = w.heap.push (.cells (VC x) 58) from rfl]
  simp
theorem BoxV.lt {W : World} {b : Nat} {x : Vot} (h : BoxV W b x) : b < W.heap.size := (Array.getElem?_eq_some_iff.1 h).1
theorem BoxV.below {W W' : World} {b : Nat} {x : Vot} (h : BoxV W b x) (hb : Below W.heap.size W W') : BoxV W' b x := (hb.block b h.lt).trans h
theorem BoxV.facts {W : World} {b : Nat} {x : Vot} (h : BoxV W b x) : W.cell? ⟨b, 0, none⟩ = some (.int .i64 x.vw) ∧ W.cell? ⟨b, 1, none⟩ = some (.int .i64 x.nm) ∧ W.cell? ⟨b, 2, none⟩ = some (.int .i64 x.sv) ∧ W.cell? ⟨b, 3, none⟩ = some (.int .i64 x.tg) := by
  unfold BoxV VC at h
  refine ⟨?_, ?_, ?_, ?_⟩ <;> simp [World.cell?, h]
theorem BoxV.fz {W : World} {b : Nat} {x : Vot} (h : BoxV W b x) : W.frozen? ⟨b, 0, none⟩ = false ∧ W.frozen? ⟨b, 1, none⟩ = false ∧ W.frozen? ⟨b, 2, none⟩ = false ∧ W.frozen? ⟨b, 3, none⟩ = false := by
  unfold BoxV VC at h
  refine ⟨?_, ?_, ?_, ?_⟩ <;> simp [World.frozen?, h]
/-- A vote is stored into a box. -/
def putV (W : World) (b : Nat) (x : Vot) : World := (((W.setCell ⟨b, 0, none⟩ (.int .i64 x.vw)).setCell ⟨b, 1, none⟩ (.int .i64 x.nm)).setCell ⟨b, 2, none⟩ (.int .i64 x.sv)).setCell ⟨b, 3, none⟩ (.int .i64 x.tg)
theorem BoxV.put {W : World} {b : Nat} {x : Vot} (h : BoxV W b x) (y : Vot) : BoxV (putV W b y) b y := by
  unfold BoxV VC at h
  have h1 := heap_setCell_same W b 0 _ _ (.int .i64 y.vw) h
  have h2 := heap_setCell_same _ b 1 _ _ (.int .i64 y.nm) h1
  have h3 := heap_setCell_same _ b 2 _ _ (.int .i64 y.sv) h2
  have h4 := heap_setCell_same _ b 3 _ _ (.int .i64 y.tg) h3
  unfold BoxV VC putV
  simpa using h4
theorem putV_below {B : Nat} {a W : World} {b : Nat} {y : Vot} (h : Below B a W) (hb : B ≤ b) : Below B a (putV W b y) := (((h.setCell hb _).setCell hb _).setCell hb _).setCell hb _
set_option maxHeartbeats 1000000 in
set_option maxRecDepth 100000 in
theorem l15Voted_any (s v n : Int) (w : World) (hs0 : -9223372036854775808 ≤ s) (hs1 : s ≤ 9223372036854775807) (hv0 : -9223372036854775808 ≤ v) (hv1 : v ≤ 9223372036854775807) (hn0 : -9223372036854775808 ≤ n) (hn1 : n ≤ 9223372036854775807) :
    Calls Tryd.prog 51 #[.int .i64 s, .int .i64 v, .int .i64 n] w fun e w' => e = .returned (.agg (VC (vtd s v n))) ∧ Below w.heap.size w w' := by
  have hsz := balS_size v n hv0 hv1 hn0 hn1
  have b0 := below1 w (.cells (VC votZ) 58)
  have x0 := boxV_new w votZ
  go_enter Tryd.func51, Tryd.ntmps51
  go_wp2_with fail
  refine (l15Ballot_any v n _ hv0 hv1 hn0 hn1).mono ?_
  rintro e w1 ⟨rfl, hb1⟩
  have b1 : Below w.heap.size w w1 := b0.trans (Below.mono hb1 b0.size)
  have x1 : BoxV w1 w.heap.size votZ := x0.below hb1
  clear hb1 b0 x0
  go_wp2_with fail
  refine (l2Tag_any s (balS v n) _ hs0 hs1 (by omega)).mono ?_
  rintro e w2 ⟨rfl, hb2⟩
  have b2 := b1.trans (hb2.mono b1.size)
  have x2 := x1.below hb2
  have HT : Hid ((vtd s v n).tg = (tagD s (balS v n) : Int)) := rfl
  obtain ⟨t, htt⟩ : ∃ t : Int, t = (tagD s (balS v n) : Int) := ⟨_, rfl⟩
  have HV : Hid (vtd s v n = ⟨v, n, s, t⟩) := by unfold Hid vtd; rw [htt]
  rw [← htt]
  clear hb2 b1 x1 HT htt
  obtain ⟨c0, c1, c2, c3⟩ := x2.facts
  obtain ⟨f0, f1, f2, f3⟩ := x2.fz
  obtain ⟨k0, k1, k2, k3⟩ := (x2.put ⟨v, n, s, t⟩).facts
  have HE : Hid (Below w.heap.size w (putV w2 w.heap.size ⟨v, n, s, t⟩)) := putV_below b2 (Nat.le_refl _)
  unfold putV at k0 k1 k2 k3 HE
  simp only at k0 k1 k2 k3 HE
  unfold votZ at c0 c1 c2 c3
  simp only at c0 c1 c2 c3
  clear x2 b2
  go_wp2
  exact bodyPost_ret (v := .agg #[.int .i64 v, .int .i64 n, .int .i64 s, .int .i64 t]) (by simp [results, Tryd.results51, go_sem, k0, k1, k2, k3]) rfl ⟨by rw [HV.out]; rfl, HE.out⟩
end Go.Proofs.YtbnibnbmdbdibabDoor
