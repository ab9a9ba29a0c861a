/- Boxes of votes. Numbers of servers and quorums: plain notions, and the contracts of both Quorums. Servers, quorums, ballots and votes: plain notions, and the contracts of the model's Quorum, Voted and VoteOk. Plain facts on proofs: which are right, what is gathered of votes, and that a proof is right just where gathering its votes gives its servers. The contract of the model's Voted. The contracts of the program's Quorum, ballot and Voted. -/
import Derived.Test.YtilhaokiohbeeaaGreatDoorG02
import Derived.Test.YtilhaokiohbeeaaGreatDoorG03
import Derived.Test.YtilhaokiohbeeaaGreatDoorG27
import Derived.Test.YtilhaokiohbeeaaGreatDoorG24
-- UNF Gen
namespace Go.Proofs.YtilhaokiohbeeaaGreatDoor
open Go.RowKit
def votZ : Vot := ⟨0, 0, 0, 0⟩
def VC (x : Vot) : Array Value := #[.int .i64 x.vw, .int .i64 x.nm, .int .i64 x.sv, .int .i64 x.tg]
/-- The box of a vote. -/
def BoxV (W : World) (b : Nat) (x : Vot) : Prop := W.heap[b]? = some (.cells (VC x) 36 (0, 0))
theorem boxV_new (w : World) (x : Vot) : BoxV (w.alloc (.cells (VC x) 36)) w.heap.size x := by
  unfold BoxV
  rw [show (w.alloc (.cells (VC x) 36)).heap = w.heap.push (.cells (VC x) 36) from rfl]
  simp
theorem BoxV.lt {W : World} {b : Nat} {x : Vot} (h : BoxV W b x) : b < W.heap.size := (Array.getElem?_eq_some_iff.1 h).1
theorem BoxV.below {W W' : World} {b : Nat} {x : Vot} (h : BoxV W b x) (hb : Below W.heap.size W W') : BoxV W' b x := (hb.block b h.lt).trans h
theorem BoxV.facts {W : World} {b : Nat} {x : Vot} (h : BoxV W b x) : W.cell? ⟨b, 0, none⟩ = some (.int .i64 x.vw) ∧ W.cell? ⟨b, 1, none⟩ = some (.int .i64 x.nm) ∧ W.cell? ⟨b, 2, none⟩ = some (.int .i64 x.sv) ∧ W.cell? ⟨b, 3, none⟩ = some (.int .i64 x.tg) := by
  unfold BoxV VC at h
  refine ⟨?_, ?_, ?_, ?_⟩ <;> simp [World.cell?, h]
theorem BoxV.fz {W : World} {b : Nat} {x : Vot} (h : BoxV W b x) : W.frozen? ⟨b, 0, none⟩ = false ∧ W.frozen? ⟨b, 1, none⟩ = false ∧ W.frozen? ⟨b, 2, none⟩ = false ∧ W.frozen? ⟨b, 3, none⟩ = false := by
  unfold BoxV VC at h
  refine ⟨?_, ?_, ?_, ?_⟩ <;> simp [World.frozen?, h]
/-- A vote is stored into a box. -/
def putV (W : World) (b : Nat) (x : Vot) : World := (((W.setCell ⟨b, 0, none⟩ (.int .i64 x.vw)).setCell ⟨b, 1, none⟩ (.int .i64 x.nm)).setCell ⟨b, 2, none⟩ (.int .i64 x.sv)).setCell ⟨b, 3, none⟩ (.int .i64 x.tg)
theorem BoxV.put {W : World} {b : Nat} {x : Vot} (h : BoxV W b x) (y : Vot) : BoxV (putV W b y) b y := by
  unfold BoxV VC at h
  have h1 := heap_setCell_same W b 0 _ _ (.int .i64 y.vw) h
  have h2 := heap_setCell_same _ b 1 _ _ (.int .i64 y.nm) h1
  have h3 := heap_setCell_same _ b 2 _ _ (.int .i64 y.sv) h2
  have h4 := heap_setCell_same _ b 3 _ _ (.int .i64 y.tg) h3
  unfold BoxV VC putV
  simpa using h4
theorem putV_below {B : Nat} {a W : World} {b : Nat} {y : Vot} (h : Below B a W) (hb : B ≤ b) : Below B a (putV W b y) := (((h.setCell hb _).setCell hb _).setCell hb _).setCell hb _
end Go.Proofs.YtilhaokiohbeeaaGreatDoor
-- UNF Gen
namespace Go.Proofs.YtilhaokiohbeeaaGreatDoor
open Go.RowKit
/-- Is it a number of servers? -/
def srvB (n : Int) : Bool := decide (n = 1 ∨ n = 4 ∨ n = 7)
theorem srvB_iff {n : Int} : srvB n = true ↔ n = 1 ∨ n = 4 ∨ n = 7 := by unfold srvB; exact decide_eq_true_iff
def quoR (n : Int) : Int := if n = 1 then 1 else if n = 4 then 3 else if n = 7 then 5 else -1
set_option maxHeartbeats 1000000 in
set_option maxRecDepth 100000 in
theorem l15Servers_any (n : Int) (w : World) :
    Calls Tryz.prog 73 #[.int .i64 n] w fun e w' => e = .returned (.bool (srvB n)) ∧ w' = w := by
  by_cases h1 : n = 1
  · subst h1
    go_enter Tryz.func73, Tryz.ntmps73
    go_wp2
    go_ret
    exact ⟨rfl, rfl⟩
  · have e1 : (n == 1) = false := beq_false_of_ne h1
    by_cases h4 : n = 4
    · subst h4
      go_enter Tryz.func73, Tryz.ntmps73
      go_wp2
      go_ret
      exact ⟨rfl, rfl⟩
    · have e4 : (n == 4) = false := beq_false_of_ne h4
      have RES : Hid (srvB n = (n == 7)) := by
        unfold Hid srvB
        rw [Bool.eq_iff_iff]
        simp [h1, h4]
      clear h1 h4
      go_enter Tryz.func73, Tryz.ntmps73
      go_wp2
      go_ret
      exact ⟨ret_bool (by rw [RES.out]), rfl⟩
set_option maxHeartbeats 1000000 in
set_option maxRecDepth 100000 in
theorem specQuorum_any (n : Int) (w : World) :
    Calls Tryz.prog 162 #[.int .i64 n] w fun e w' => e = .returned (.int .i64 (quoR n)) ∧ w' = w := by
  have HS : Hid (∀ b, b = srvB n → ∀ W, Calls Tryz.prog 73 #[.int .i64 n] W fun e w' => e = .returned (.bool b) ∧ w' = W) := fun b hb W => by rw [hb]; exact l15Servers_any n W
  by_cases h1 : n = 1 ∨ n = 4 ∨ n = 7
  · have hb : Hid (true = srvB n) := (srvB_iff.2 h1).symm
    rcases h1 with rfl | rfl | rfl
    all_goals
      go_enter Tryz.func162, Tryz.ntmps162
      go_wp2_with fail
      refine (HS.out true hb.out _).mono ?_
      rintro e w1 ⟨rfl, rfl⟩
      go_wp2
      go_ret
      exact ⟨rfl, rfl⟩
  · have hb : Hid (false = srvB n) := by
      unfold Hid
      cases h : srvB n with
      | false => rfl
      | true => exact absurd (srvB_iff.1 h) h1
    have RES : Hid (quoR n = -1) := by unfold Hid quoR; rw [if_neg (by omega), if_neg (by omega), if_neg (by omega)]
    clear h1
    go_enter Tryz.func162, Tryz.ntmps162
    go_wp2_with fail
    refine (HS.out false hb.out _).mono ?_
    rintro e w1 ⟨rfl, rfl⟩
    go_wp2
    go_ret
    exact ⟨by rw [RES.out]; rfl, rfl⟩
set_option maxHeartbeats 1000000 in
set_option maxRecDepth 100000 in
theorem implQuorum_any (n : Int) (w : World) :
    Calls Tryz.prog 99 #[.int .i64 n] w fun e w' => e = .returned (.int .i64 (quoR n)) ∧ w' = w := by
  by_cases h1 : n = 1 ∨ n = 4 ∨ n = 7
  · rcases h1 with rfl | rfl | rfl
    all_goals
      go_enter Tryz.func99, Tryz.ntmps99
      go_wp2
      go_ret
      exact ⟨rfl, rfl⟩
  · have RES : Hid (quoR n = -1) := by unfold Hid quoR; rw [if_neg (by omega), if_neg (by omega), if_neg (by omega)]
    have e1 : (n == 1) = false := beq_false_of_ne (by omega)
    have e4 : (n == 4) = false := beq_false_of_ne (by omega)
    have e7 : (n == 7) = false := beq_false_of_ne (by omega)
    clear h1
    go_enter Tryz.func99, Tryz.ntmps99
    go_wp2
    go_ret
    exact ⟨ret_intE (by rw [RES.out]), rfl⟩
theorem l15ServersB_any (b : Bool) (n : Int) (h : srvB n = b) (w : World) :
    Calls Tryz.prog 73 #[.int .i64 n] w fun e w' => e = .returned (.bool b) ∧ w' = w := by rw [← h]; exact l15Servers_any n w
theorem implQuorumZ_any (q : Int) (n : Int) (h : quoR n = q) (w : World) :
    Calls Tryz.prog 99 #[.int .i64 n] w fun e w' => e = .returned (.int .i64 q) ∧ w' = w := by rw [← h]; exact implQuorum_any n w
theorem specQuorumZ_any (q : Int) (n : Int) (h : quoR n = q) (w : World) :
    Calls Tryz.prog 162 #[.int .i64 n] w fun e w' => e = .returned (.int .i64 q) ∧ w' = w := by rw [← h]; exact specQuorum_any n w
theorem quoR_no {n : Int} (h : srvB n = false) : quoR n = -1 := by
  have h1 : ¬ (n = 1 ∨ n = 4 ∨ n = 7) := fun e => by rw [srvB_iff.2 e] at h; cases h
  unfold quoR
  rw [if_neg (by omega), if_neg (by omega), if_neg (by omega)]
theorem quoR_yes {n : Int} (h : srvB n = true) : 1 ≤ quoR n ∧ quoR n ≤ 5 ∧ 1 ≤ n ∧ n ≤ 7 := by
  rcases srvB_iff.1 h with rfl | rfl | rfl <;> decide
end Go.Proofs.YtilhaokiohbeeaaGreatDoor
-- UNF Gen
namespace Go.Proofs.YtilhaokiohbeeaaGreatDoor
open Go.RowKit
def balS (v n : Int) : ByteArray := (⟨#[118, 111, 116, 101, 32]⟩ : ByteArray) ++ itoaS v ++ ⟨#[32]⟩ ++ itoaS n
def vtd (s v n : Int) : Vot := ⟨v, n, s, (tagD s (balS v n) : Int)⟩
def inV (v : Int) : Bool := decide (1 ≤ v ∧ v ≤ 100000)
def inN (n : Int) : Bool := decide (0 ≤ n ∧ n ≤ 2147483646)
def votR (s v n : Int) : Vot := if decide (0 ≤ s ∧ s ≤ 6) && inV v && inN n then vtd s v n else votZ
/-- Is the vote right among n servers? -/
def vokR (x : Vot) (n : Int) : Bool := srvB n && decide (0 ≤ x.sv ∧ x.sv ≤ n - 1) && inV x.vw && inN x.nm && decide ((tagD x.sv (balS x.vw x.nm) : Int) = x.tg)
theorem balS_size (v n : Int) (hv0 : -9223372036854775808 ≤ v) (hv1 : v ≤ 9223372036854775807) (hn0 : -9223372036854775808 ≤ n) (hn1 : n ≤ 9223372036854775807) : (balS v n).size ≤ 48 := by
  have h1 := itoaS_size v hv0 hv1
  have h2 := itoaS_size n hn0 hn1
  unfold balS
  rw [app_size, app_size, app_size]
  have h3 : (⟨#[118, 111, 116, 101, 32]⟩ : ByteArray).size = 5 := rfl
  have h4 : (⟨#[32]⟩ : ByteArray).size = 1 := rfl
  omega
set_option maxHeartbeats 1000000 in
set_option maxRecDepth 100000 in
theorem l15Ballot_any (v n : Int) (w : World) (hv0 : -9223372036854775808 ≤ v) (hv1 : v ≤ 9223372036854775807) (hn0 : -9223372036854775808 ≤ n) (hn1 : n ≤ 9223372036854775807) :
    Calls Tryz.prog 167 #[.int .i64 v, .int .i64 n] w fun e w' => e = .returned (.string (balS v n)) ∧ Below w.heap.size w w' := by
  have hsv := itoaS_size v hv0 hv1
  have hsn := itoaS_size n hn0 hn1
  go_enter Tryz.func167, Tryz.ntmps167
  go_wp2_with fail
  refine (l2Int_any v _ hv0 hv1).mono ?_
  rintro e w1 ⟨rfl, hw1⟩
  go_wp2_with fail
  refine (l2Int_any n _ hn0 hn1).mono ?_
  rintro e w2 ⟨rfl, hw2⟩
  have hw := hw1.trans (hw2.mono hw1.size)
  clear hw1 hw2
  go_wp2
  go_ret
  exact ⟨rfl, hw⟩
theorem l15Name_any (n : Int) (w : World) :
    Calls Tryz.prog 80 #[.int .i64 n] w fun e w' => e = .returned (.bool (inN n)) ∧ w' = w := by
  go_enter Tryz.func80, Tryz.ntmps80
  go_wp2_with fail
  refine (l1InT_any n 0 2147483646 _).mono ?_
  rintro e w1 ⟨rfl, rfl⟩
  go_wp2
  go_ret
  exact ⟨ret_bool (by unfold inN; simp), rfl⟩
set_option maxHeartbeats 1000000 in
set_option maxRecDepth 100000 in
theorem l15Voted_any (s v n : Int) (w : World) (hs0 : -9223372036854775808 ≤ s) (hs1 : s ≤ 9223372036854775807) (hv0 : -9223372036854775808 ≤ v) (hv1 : v ≤ 9223372036854775807) (hn0 : -9223372036854775808 ≤ n) (hn1 : n ≤ 9223372036854775807) :
    Calls Tryz.prog 81 #[.int .i64 s, .int .i64 v, .int .i64 n] w fun e w' => e = .returned (.agg (VC (vtd s v n))) ∧ Below w.heap.size w w' := by
  have hsz := balS_size v n hv0 hv1 hn0 hn1
  have b0 := below1 w (.cells (VC votZ) 36)
  have x0 := boxV_new w votZ
  go_enter Tryz.func81, Tryz.ntmps81
  go_wp2_with fail
  refine (l15Ballot_any v n _ hv0 hv1 hn0 hn1).mono ?_
  rintro e w1 ⟨rfl, hb1⟩
  have b1 : Below w.heap.size w w1 := b0.trans (Below.mono hb1 b0.size)
  have x1 : BoxV w1 w.heap.size votZ := x0.below hb1
  clear hb1 b0 x0
  go_wp2_with fail
  refine (l2Tag_any s (balS v n) _ hs0 hs1 (by omega)).mono ?_
  rintro e w2 ⟨rfl, hb2⟩
  have b2 := b1.trans (hb2.mono b1.size)
  have x2 := x1.below hb2
  have HT : Hid ((vtd s v n).tg = (tagD s (balS v n) : Int)) := rfl
  obtain ⟨t, htt⟩ : ∃ t : Int, t = (tagD s (balS v n) : Int) := ⟨_, rfl⟩
  have HV : Hid (vtd s v n = ⟨v, n, s, t⟩) := by unfold Hid vtd; rw [htt]
  rw [← htt]
  clear hb2 b1 x1 HT htt
  obtain ⟨c0, c1, c2, c3⟩ := x2.facts
  obtain ⟨f0, f1, f2, f3⟩ := x2.fz
  obtain ⟨k0, k1, k2, k3⟩ := (x2.put ⟨v, n, s, t⟩).facts
  have HE : Hid (Below w.heap.size w (putV w2 w.heap.size ⟨v, n, s, t⟩)) := putV_below b2 (Nat.le_refl _)
  unfold putV at k0 k1 k2 k3 HE
  simp only at k0 k1 k2 k3 HE
  unfold votZ at c0 c1 c2 c3
  simp only at c0 c1 c2 c3
  clear x2 b2
  go_wp2
  exact bodyPost_ret (v := .agg #[.int .i64 v, .int .i64 n, .int .i64 s, .int .i64 t]) (by simp [results, Tryz.results81, go_sem, k0, k1, k2, k3]) rfl ⟨by rw [HV.out]; rfl, HE.out⟩
end Go.Proofs.YtilhaokiohbeeaaGreatDoor
namespace Go.Proofs.YtilhaokiohbeeaaGreatDoor
/-- Right votes, enough, of servers that rise. -/
def PrfV (p : Prf) (n : Int) : Prop := quoR n ≤ (p.sv.length : Int) ∧ p.sv.length = p.tg.length ∧ ∀ i, i < p.sv.length → vokR (vAt p i) n = true ∧ (0 < i → nI p.sv (i - 1) < nI p.sv i)
noncomputable instance (p : Prf) (n : Int) : Decidable (PrfV p n) := Classical.propDecidable _
noncomputable def prfR (p : Prf) (n : Int) : Bool := srvB n && (frsB p || (inV p.vw && (inN p.nm && decide (PrfV p n))))
/-- Has the server voted so? -/
def selB (l : List Vot) (vw nm : Int) (s : Nat) : Bool := inV vw && (inN nm && decide (vtd (s : Int) vw nm ∈ l))
def gIx (l : List Vot) (vw nm : Int) (k : Nat) : List Nat := (List.range k).filter (selB l vw nm)
def gPr (l : List Vot) (vw nm : Int) (k : Nat) : Prf := ⟨vw, nm, (gIx l vw nm k).map (fun s : Nat => (s : Int)), (gIx l vw nm k).map (fun s : Nat => (tagD (s : Int) (balS vw nm) : Int))⟩
theorem gPr_zero (l : List Vot) (vw nm : Int) : gPr l vw nm 0 = ⟨vw, nm, [], []⟩ := rfl
theorem gPr_yes {l : List Vot} {vw nm : Int} {k : Nat} (h : selB l vw nm k = true) : gPr l vw nm (k + 1) = ⟨vw, nm, (gPr l vw nm k).sv ++ [(k : Int)], (gPr l vw nm k).tg ++ [(tagD (k : Int) (balS vw nm) : Int)]⟩ := by
  have e : gIx l vw nm (k + 1) = gIx l vw nm k ++ [k] := by unfold gIx; rw [List.range_succ, List.filter_append]; simp [h]
  unfold gPr
  simp only
  rw [e, List.map_append, List.map_append]
  rfl
theorem gPr_no {l : List Vot} {vw nm : Int} {k : Nat} (h : selB l vw nm k = false) : gPr l vw nm (k + 1) = gPr l vw nm k := by
  have e : gIx l vw nm (k + 1) = gIx l vw nm k := by unfold gIx; rw [List.range_succ, List.filter_append]; simp [h]
  unfold gPr
  rw [e]
theorem gPr_len (l : List Vot) (vw nm : Int) (k : Nat) : (gPr l vw nm k).sv.length ≤ k ∧ (gPr l vw nm k).tg.length = (gPr l vw nm k).sv.length := by
  unfold gPr
  simp only [List.length_map, and_true]
  unfold gIx
  have := List.length_filter_le (selB l vw nm) (List.range k)
  rwa [List.length_range] at this
/-- What is gathered: none where it is no quorum. -/
def gatR (l : List Vot) (n : Int) : Option Prf :=
  if srvB n = true ∧ l ≠ [] ∧ quoR n ≤ ((gPr l (nthVo l 0).vw (nthVo l 0).nm n.toNat).sv.length : Int) then some (gPr l (nthVo l 0).vw (nthVo l 0).nm n.toNat) else none
theorem rise_extP : ∀ (a b : List Int), a.Pairwise (· < ·) → b.Pairwise (· < ·) → (∀ x, x ∈ a ↔ x ∈ b) → a = b
  | [], b, _, _, h => by
    cases b with
    | nil => rfl
    | cons y s => have := (h y).2 List.mem_cons_self; cases this
  | x :: r, [], _, _, h => by have := (h x).1 List.mem_cons_self; cases this
  | x :: r, y :: s, ha, hb, h => by
    rw [List.pairwise_cons] at ha hb
    have hxy : x = y := by
      have h1 := (h x).1 List.mem_cons_self
      have h2 := (h y).2 List.mem_cons_self
      rcases List.mem_cons.1 h1 with e | h1
      · exact e
      · rcases List.mem_cons.1 h2 with e | h2
        · exact e.symm
        · have := hb.1 x h1; have := ha.1 y h2; omega
    subst hxy
    rw [rise_extP r s ha.2 hb.2]
    intro z
    have := h z
    rw [List.mem_cons, List.mem_cons] at this
    constructor
    · intro hz
      rcases this.1 (.inr hz) with e | e
      · have := ha.1 z hz; omega
      · exact e
    · intro hz
      rcases this.2 (.inr hz) with e | e
      · have := hb.1 z hz; omega
      · exact e
theorem rise_pair {l : List Int} (h : ∀ i, i < l.length → 0 < i → nI l (i - 1) < nI l i) : l.Pairwise (· < ·) := by
  have key : ∀ d i, i + d + 1 < l.length → nI l i < nI l (i + d + 1) := by
    intro d
    induction d with
    | zero => intro i hi; have := h (i + 0 + 1) hi (by omega); simpa using this
    | succ d ih =>
      intro i hi
      have h1 := ih i (by omega)
      have h2 := h (i + (d + 1) + 1) hi (by omega)
      rw [show i + (d + 1) + 1 - 1 = i + d + 1 by omega] at h2
      omega
  rw [List.pairwise_iff_getElem]
  intro i j hi hj hij
  have := key (j - i - 1) i (by omega)
  rw [show i + (j - i - 1) + 1 = j by omega, nI_eq hi, nI_eq hj] at this
  exact this
theorem pair_rise {l : List Int} (h : l.Pairwise (· < ·)) {i : Nat} (hi : i < l.length) (h0 : 0 < i) : nI l (i - 1) < nI l i := by
  rw [nI_eq hi, nI_eq (show i - 1 < l.length by omega)]
  exact List.pairwise_iff_getElem.1 h (i - 1) i (by omega) hi (by omega)
theorem pair_inj {l : List Int} (h : l.Pairwise (· < ·)) {i j : Nat} (hi : i < l.length) (hj : j < l.length) (e : nI l i = nI l j) : i = j := by
  rw [nI_eq hi, nI_eq hj] at e
  have hp := List.pairwise_iff_getElem.1 h
  rcases Nat.lt_trichotomy i j with h1 | h1 | h1
  · have := hp i j hi hj h1; omega
  · exact h1
  · have := hp j i hj hi h1; omega
/-- Numbers that rise from 0 on and are below n are at most n. -/
theorem rise_few {l : List Int} {n : Nat} (h : l.Pairwise (· < ·)) (hb : ∀ x ∈ l, 0 ≤ x ∧ x < (n : Int)) : l.length ≤ n := by
  have key : ∀ i, i < l.length → (i : Int) ≤ nI l i := by
    intro i
    induction i with
    | zero => intro hi; rw [nI_eq hi]; exact (hb _ (List.getElem_mem hi)).1
    | succ i ih =>
      intro hi
      have h1 := ih (by omega)
      have h2 := pair_rise h hi (by omega)
      rw [show i + 1 - 1 = i by omega] at h2
      omega
  by_cases h0 : l.length = 0
  · omega
  · have h1 := key (l.length - 1) (by omega)
    rw [nI_eq (by omega)] at h1
    have h2 := (hb _ (List.getElem_mem (show l.length - 1 < l.length by omega))).2
    omega
theorem gPr_rise (l : List Vot) (vw nm : Int) (k : Nat) : (gPr l vw nm k).sv.Pairwise (· < ·) := by
  unfold gPr gIx
  simp only
  refine List.Pairwise.map _ (fun a b h => ?_) (List.Pairwise.filter _ List.pairwise_lt_range)
  exact Int.ofNat_lt.2 h
theorem gPr_mem (l : List Vot) (vw nm : Int) (k : Nat) (x : Int) : x ∈ (gPr l vw nm k).sv ↔ ∃ s : Nat, s < k ∧ selB l vw nm s = true ∧ x = (s : Int) := by
  unfold gPr gIx
  simp only [List.mem_map, List.mem_filter, List.mem_range]
  constructor
  · rintro ⟨s, ⟨h1, h2⟩, rfl⟩; exact ⟨s, h1, h2, rfl⟩
  · rintro ⟨s, h1, h2, rfl⟩; exact ⟨s, ⟨h1, h2⟩, rfl⟩
theorem vok_vtd {p : Prf} {n : Int} {i : Nat} (h : vokR (vAt p i) n = true) : (0 ≤ nI p.sv i ∧ nI p.sv i ≤ n - 1) ∧ vAt p i = vtd (nI p.sv i) p.vw p.nm := by
  unfold vokR at h
  simp only [Bool.and_eq_true, decide_eq_true_eq] at h
  obtain ⟨⟨⟨⟨_, h1⟩, _⟩, _⟩, h2⟩ := h
  refine ⟨h1, ?_⟩
  unfold vtd vAt
  unfold vAt at h2
  simp only at h2
  rw [h2]
theorem vtd_vok {s vw nm n : Int} (hn : srvB n = true) (h0 : 0 ≤ s) (h1 : s ≤ n - 1) (hv : inV vw = true) (hm : inN nm = true) : vokR (vtd s vw nm) n = true := by
  unfold vokR vtd
  simp only
  rw [hn, hv, hm]
  simp [h0, h1]
/-- A proof but the first one is right just where its votes gathered have its servers. -/
theorem prf_gat (p : Prf) (n : Int) : prfR p n = if frsB p = true then srvB n else (match gatR (votesR p) n with | none => false | some q => decide (q.sv = p.sv)) := by
  unfold prfR
  cases hf : frsB p with
  | true => simp
  | false =>
    simp only [Bool.false_or, Bool.false_eq_true, if_false]
    cases hs : srvB n with
    | false =>
      have : gatR (votesR p) n = none := by unfold gatR; rw [if_neg]; rintro ⟨h, _⟩; rw [hs] at h; cases h
      rw [this]; rfl
    | true =>
      obtain ⟨hq0, hq1, hn0, hn1⟩ := quoR_yes hs
      obtain ⟨N, rfl⟩ := Int.eq_ofNat_of_zero_le (show 0 ≤ n by omega)
      rw [Bool.true_and]
      by_cases hP : inV p.vw = true ∧ inN p.nm = true ∧ PrfV p N
      · obtain ⟨hv, hm, hp⟩ := hP
        rw [hv, hm, decide_eq_true hp]
        obtain ⟨hq, hl, ha⟩ := hp
        have hr : p.sv.Pairwise (· < ·) := rise_pair fun i hi h0 => (ha i hi).2 h0
        have hb : ∀ x ∈ p.sv, 0 ≤ x ∧ x < (N : Int) := by
          intro x hx
          obtain ⟨i, hi, rfl⟩ := List.getElem_of_mem hx
          have h1 := (vok_vtd (ha i hi).1).1
          rw [nI_eq hi] at h1
          omega
        have hf := rise_few hr hb
        have hlen : 0 < p.sv.length := by omega
        have hvR : votesR p = votesL p := by unfold votesR; rw [if_pos ⟨hl, by omega⟩]
        have hne : votesL p ≠ [] := fun e => by have := votesL_len p; rw [e] at this; simp at this; omega
        have hg : (gPr (votesL p) p.vw p.nm N).sv = p.sv := by
          refine rise_extP _ _ (gPr_rise _ _ _ _) hr fun x => ?_
          rw [gPr_mem]
          constructor
          · rintro ⟨s, h1, h2, rfl⟩
            unfold selB at h2
            simp only [Bool.and_eq_true, decide_eq_true_eq] at h2
            obtain ⟨i, hi, he⟩ := (votesL_mem p _).1 h2.2.2
            have h3 := congrArg Vot.sv he
            unfold vAt vtd at h3
            simp only at h3
            rw [← h3, nI_eq hi]
            exact List.getElem_mem hi
          · intro hx
            have hx2 := hb x hx
            obtain ⟨i, hi, rfl⟩ := List.getElem_of_mem hx
            refine ⟨(p.sv[i]).toNat, by omega, ?_, by omega⟩
            unfold selB
            rw [hv, hm]
            simp only [Bool.true_and, decide_eq_true_eq]
            rw [votesL_mem, Int.toNat_of_nonneg hx2.1]
            refine ⟨i, hi, ?_⟩
            have := (vok_vtd (ha i hi).1).2
            rwa [nI_eq hi] at this
        have : gatR (votesL p) N = some (gPr (votesL p) p.vw p.nm N) := by
          unfold gatR
          have e1 : (nthVo (votesL p) 0).vw = p.vw := by rw [votesL_hd hlen]; rfl
          have e2 : (nthVo (votesL p) 0).nm = p.nm := by rw [votesL_hd hlen]; rfl
          rw [e1, e2, Int.toNat_natCast, if_pos ⟨hs, hne, by rw [hg]; exact hq⟩]
        rw [hvR, this]
        simp [hg]
      · have hL : (inV p.vw && (inN p.nm && decide (PrfV p N))) = false := by
          cases hv : inV p.vw with
          | false => rfl
          | true =>
            cases hm : inN p.nm with
            | false => rfl
            | true => rw [decide_eq_false (fun hp => hP ⟨hv, hm, hp⟩)]; rfl
        rw [hL]
        symm
        cases hg : gatR (votesR p) N with
        | none => rfl
        | some q =>
          simp only
          refine decide_eq_false fun e => hP ?_
          unfold gatR at hg
          split at hg
          · rename_i hc
            obtain ⟨-, hne, hq⟩ := hc
            have hvR : votesR p = votesL p ∧ p.sv.length = p.tg.length := by
              unfold votesR at hne ⊢
              by_cases h : p.sv.length = p.tg.length ∧ p.sv.length ≤ 7
              · rw [if_pos h]; exact ⟨rfl, h.1⟩
              · rw [if_neg h] at hne; exact absurd rfl hne
            obtain ⟨hvR, hl⟩ := hvR
            rw [hvR] at hg hne hq
            have hlen : 0 < p.sv.length := by
              rw [← votesL_len p]; exact List.length_pos_iff.2 hne
            have e1 : (nthVo (votesL p) 0).vw = p.vw := by rw [votesL_hd hlen]; rfl
            have e2 : (nthVo (votesL p) 0).nm = p.nm := by rw [votesL_hd hlen]; rfl
            rw [e1, e2, Int.toNat_natCast] at hg hq
            have hqe : gPr (votesL p) p.vw p.nm N = q := Option.some.inj hg
            have hsv : (gPr (votesL p) p.vw p.nm N).sv = p.sv := by rw [hqe]; exact e
            have hq2 : quoR N ≤ (p.sv.length : Int) := by
              have : quoR N ≤ ((gPr (votesL p) p.vw p.nm N).sv.length : Int) := hq
              rwa [hsv] at this
            have hr : p.sv.Pairwise (· < ·) := by rw [← hsv]; exact gPr_rise _ _ _ _
            have each : ∀ i, i < p.sv.length → inV p.vw = true ∧ inN p.nm = true ∧ vokR (vAt p i) N = true := by
              intro i hi
              have hm : nI p.sv i ∈ (gPr (votesL p) p.vw p.nm N).sv := by rw [hsv, nI_eq hi]; exact List.getElem_mem hi
              obtain ⟨s, h1, h2, h3⟩ := (gPr_mem _ _ _ _ _).1 hm
              unfold selB at h2
              simp only [Bool.and_eq_true, decide_eq_true_eq] at h2
              obtain ⟨j, hj, he⟩ := (votesL_mem p _).1 h2.2.2
              have h4 := congrArg Vot.sv he
              unfold vAt vtd at h4
              simp only at h4
              have hij : j = i := pair_inj hr hj hi (by rw [h4, h3])
              subst hij
              refine ⟨h2.1, h2.2.1, ?_⟩
              rw [he]
              exact vtd_vok hs (by omega) (by omega) h2.1 h2.2.1
            exact ⟨(each 0 hlen).1, (each 0 hlen).2.1, hq2, hl, fun i hi => ⟨(each i hi).2.2, fun h0 => pair_rise hr hi h0⟩⟩
          · cases hg
end Go.Proofs.YtilhaokiohbeeaaGreatDoor
-- UNF Gen
namespace Go.Proofs.YtilhaokiohbeeaaGreatDoor
open Go.RowKit
theorem l1InB_any (b : Bool) (n lo hi : Int) (h : decide (lo ≤ n ∧ n ≤ hi) = b) (w : World) :
    Calls Tryz.prog 74 #[.int .i64 n, .int .i64 lo, .int .i64 hi] w fun e w' => e = .returned (.bool b) ∧ w' = w := by
  rw [← h]
  refine (l1InT_any n lo hi w).mono ?_
  rintro e w1 ⟨rfl, rfl⟩
  exact ⟨ret_bool (by simp), rfl⟩
theorem l15NameB_any (b : Bool) (n : Int) (h : inN n = b) (w : World) :
    Calls Tryz.prog 80 #[.int .i64 n] w fun e w' => e = .returned (.bool b) ∧ w' = w := by rw [← h]; exact l15Name_any n w
theorem BoxV.load {W : World} {b : Nat} {x : Vot} (h : BoxV W b x) : W.cell? ⟨b, 0, none⟩ = some (.int .i64 x.vw) := h.facts.1
end Go.Proofs.YtilhaokiohbeeaaGreatDoor
-- UNF Gen
namespace Go.Proofs.YtilhaokiohbeeaaGreatDoor
open Go.RowKit
set_option maxHeartbeats 1000000 in
set_option maxRecDepth 100000 in
theorem implBallot_any (v n : Int) (w : World) (hv0 : -9223372036854775808 ≤ v) (hv1 : v ≤ 9223372036854775807) (hn0 : -9223372036854775808 ≤ n) (hn1 : n ≤ 9223372036854775807) (ht : Tab w) :
    Calls Tryz.prog 234 #[.int .i64 v, .int .i64 n] w fun e w' => e = .returned (.string (balS v n)) ∧ Below w.heap.size w w' := by
  have hsv := itoaS_size v hv0 hv1
  have hsn := itoaS_size n hn0 hn1
  go_enter Tryz.func234, Tryz.ntmps234
  go_wp2_with fail
  refine (fmt_any v _ hv0 hv1 ht).mono ?_
  rintro e w1 ⟨rfl, hw1⟩
  go_wp2_with fail
  refine (fmt_any n _ hn0 hn1 (ht.on hw1)).mono ?_
  rintro e w2 ⟨rfl, hw2⟩
  have hw := hw1.trans (hw2.mono hw1.size)
  clear hw1 hw2 ht
  go_wp2
  go_ret
  exact ⟨rfl, hw⟩
set_option maxHeartbeats 1000000 in
theorem viewOk_any (b : Bool) (v : Int) (h : inV v = b) (w : World) :
    Calls Tryz.prog 192 #[.int .i64 v] w fun e w' => e = .returned (.bool b) ∧ w' = w := by
  subst h
  by_cases h : 1 ≤ v
  · go_enter Tryz.func192, Tryz.ntmps192
    go_wp2
    go_ret
    exact ⟨ret_bool (by unfold inV; simp [h]), rfl⟩
  · go_enter Tryz.func192, Tryz.ntmps192
    go_wp2
    go_ret
    exact ⟨ret_bool (by unfold inV; simp; omega), rfl⟩
set_option maxHeartbeats 1000000 in
theorem nameOk_any (b : Bool) (n : Int) (h : inN n = b) (w : World) :
    Calls Tryz.prog 235 #[.int .i64 n] w fun e w' => e = .returned (.bool b) ∧ w' = w := by
  subst h
  by_cases h : 0 ≤ n
  · go_enter Tryz.func235, Tryz.ntmps235
    go_wp2
    go_ret
    exact ⟨ret_bool (by unfold inN; simp [h]), rfl⟩
  · go_enter Tryz.func235, Tryz.ntmps235
    go_wp2
    go_ret
    exact ⟨ret_bool (by unfold inN; simp; omega), rfl⟩
set_option maxHeartbeats 1000000 in
set_option maxRecDepth 100000 in
theorem implVoted_any (s v n : Int) (w : World) (hv0 : -9223372036854775808 ≤ v) (hv1 : v ≤ 9223372036854775807) (hn0 : -9223372036854775808 ≤ n) (hn1 : n ≤ 9223372036854775807) (ht : Tab w) :
    Calls Tryz.prog 212 #[.int .i64 s, .int .i64 v, .int .i64 n] w fun e w' => e = .returned (.agg (VC (votR s v n))) ∧ Below w.heap.size w w' := by
  have hsz := balS_size v n hv0 hv1 hn0 hn1
  have B0 : Below w.heap.size w (w.alloc (.cells (VC votZ) 36)) := below1 w (.cells (VC votZ) 36)
  have X0 : BoxV (w.alloc (.cells (VC votZ) 36)) w.heap.size votZ := boxV_new w votZ
  have HV : Hid (∀ b, inV v = b → ∀ W, Calls Tryz.prog 192 #[.int .i64 v] W fun e w' => e = .returned (.bool b) ∧ w' = W) := fun b h W => viewOk_any b v h W
  have HN : Hid (∀ b, inN n = b → ∀ W, Calls Tryz.prog 235 #[.int .i64 n] W fun e w' => e = .returned (.bool b) ∧ w' = W) := fun b h W => nameOk_any b n h W
  have HB : Hid (∀ W, Tab W → Calls Tryz.prog 234 #[.int .i64 v, .int .i64 n] W fun e w' => e = .returned (.string (balS v n)) ∧ Below W.heap.size W w') := fun W t => implBallot_any v n W hv0 hv1 hn0 hn1 t
  have HT : Hid (∀ W, Tab W → Calls Tryz.prog 233 #[.int .i64 s, .string (balS v n)] W fun e w' => e = .returned (.int .i64 (tag s (balS v n))) ∧ Below W.heap.size W w') := fun W _ => implTag_any s (balS v n) W (by omega)
  have HB0 : Hid (Tab w) := ht
  clear hv0 hv1 hn0 hn1 hsz ht
  go_enter Tryz.func212, Tryz.ntmps212
  go_wp2_with fail
  refine (HB.out _ (HB0.out.on B0)).mono ?_
  rintro e w1 ⟨rfl, hb1⟩
  have b1 : Below w.heap.size w w1 := B0.trans (Below.mono hb1 B0.size)
  have x1 : BoxV w1 w.heap.size votZ := X0.below hb1
  clear hb1 B0 X0
  go_wp2_with fail
  refine (HT.out _ (HB0.out.on b1)).mono ?_
  rintro e w2 ⟨rfl, hb2⟩
  have b2 := b1.trans (hb2.mono b1.size)
  have x2 := x1.below hb2
  clear hb2 b1 x1
  obtain ⟨t, htt⟩ : ∃ t, t = tag s (balS v n) := ⟨_, rfl⟩
  rw [← htt]
  obtain ⟨c0, c1, c2, c3⟩ := x2.facts
  obtain ⟨f0, f1, f2, f3⟩ := x2.fz
  have fin : ∀ y, votR s v n = y → ∀ V, V = putV w2 w.heap.size y → (Ending.returned (.agg (VC y)) = .returned (.agg (VC (votR s v n)))) ∧ Below w.heap.size w V := fun y hy V hV => ⟨by rw [hy], by rw [hV]; exact putV_below b2 (Nat.le_refl _)⟩
  have FIN : Hid (∀ y, votR s v n = y → ∀ V, V = putV w2 w.heap.size y → (Ending.returned (.agg (VC y)) = .returned (.agg (VC (votR s v n)))) ∧ Below w.heap.size w V) := fin
  obtain ⟨z0, z1, z2, z3⟩ := (x2.put votZ).facts
  obtain ⟨k0, k1, k2, k3⟩ := (x2.put ⟨v, n, s, t⟩).facts
  unfold putV at k0 k1 k2 k3 z0 z1 z2 z3
  unfold votZ at c0 c1 c2 c3 z0 z1 z2 z3
  simp only at c0 c1 c2 c3 k0 k1 k2 k3 z0 z1 z2 z3
  clear x2 b2 fin
  by_cases hs : 0 ≤ s ∧ s ≤ 6
  · have ht1 : Hid (t = (tagD s (balS v n) : Int)) := by unfold Hid; rw [htt]; exact tag_in _ hs.1 hs.2
    have htn : (t == -1) = false := beq_false_of_ne (by have := ht1.out; omega)
    have HS : Hid (decide ((0 : Int) ≤ s ∧ s ≤ 6) = true) := decide_eq_true hs
    clear htt hs
    cases hV : inV v with
    | false =>
      have HVf : Hid (inV v = false) := hV
      have RES : Hid (votR s v n = votZ) := by unfold Hid votR; rw [HS.out, hV]; rfl
      clear hV
      go_wp2_with fail
      refine (HV.out false HVf.out _).mono ?_
      rintro e w3 ⟨rfl, rfl⟩
      go_wp2
      exact bodyPost_ret (v := .agg #[.int .i64 0, .int .i64 0, .int .i64 0, .int .i64 0]) (by simp [results, Tryz.results212, go_sem, z0, z1, z2, z3]) rfl (FIN.out votZ RES.out _ rfl)
    | true =>
      have HVf : Hid (inV v = true) := hV
      cases hN : inN n with
      | false =>
        have HNf : Hid (inN n = false) := hN
        have RES : Hid (votR s v n = votZ) := by unfold Hid votR; rw [HS.out, hV, hN]; rfl
        clear hV hN
        go_wp2_with fail
        refine (HV.out true HVf.out _).mono ?_
        rintro e w3 ⟨rfl, rfl⟩
        go_wp2_with fail
        refine (HN.out false HNf.out _).mono ?_
        rintro e w3 ⟨rfl, rfl⟩
        go_wp2
        exact bodyPost_ret (v := .agg #[.int .i64 0, .int .i64 0, .int .i64 0, .int .i64 0]) (by simp [results, Tryz.results212, go_sem, z0, z1, z2, z3]) rfl (FIN.out votZ RES.out _ rfl)
      | true =>
        have HNf : Hid (inN n = true) := hN
        have RES : Hid (votR s v n = ⟨v, n, s, t⟩) := by unfold Hid votR; rw [HS.out, hV, hN]; unfold vtd; rw [← ht1.out]; rfl
        clear hV hN
        go_wp2_with fail
        refine (HV.out true HVf.out _).mono ?_
        rintro e w3 ⟨rfl, rfl⟩
        go_wp2_with fail
        refine (HN.out true HNf.out _).mono ?_
        rintro e w3 ⟨rfl, rfl⟩
        go_wp2
        exact bodyPost_ret (v := .agg #[.int .i64 v, .int .i64 n, .int .i64 s, .int .i64 t]) (by simp [results, Tryz.results212, go_sem, k0, k1, k2, k3]) rfl (FIN.out _ RES.out _ rfl)
  · have ht1 : t = -1 := by rw [htt]; exact tag_out _ (by omega)
    have RES : Hid (votR s v n = votZ) := by unfold Hid votR; rw [decide_eq_false hs]; rfl
    clear htt hs k0 k1 k2 k3
    subst ht1
    go_wp2
    exact bodyPost_ret (v := .agg #[.int .i64 0, .int .i64 0, .int .i64 0, .int .i64 0]) (by simp [results, Tryz.results212, go_sem, z0, z1, z2, z3]) rfl (FIN.out votZ RES.out _ rfl)
end Go.Proofs.YtilhaokiohbeeaaGreatDoor
