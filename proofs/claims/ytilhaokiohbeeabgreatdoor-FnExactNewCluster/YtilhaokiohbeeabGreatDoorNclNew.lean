/- Both NewClusters make the same row of Replicas without lists. -/
-- UNF Gen
import Derived.Test.YtilhaokiohbeeabGreatDoorNclBase
import Derived.Test.YtilhaokiohbeeabGreatDoorNrpNew
import Derived.Deep.Cut
namespace Go.Proofs.YtilhaokiohbeeabGreatDoor
open Go.RowKit
/-- The new Replicas of n servers, k of them. -/
def nclL (n : Int) (k : Nat) : List Ncr := (List.range k).map fun i : Nat => ⟨(i : Int), n, 1, 0, 0, 0, 0, 0⟩
theorem nclL_succ (n : Int) (k : Nat) : nclL n (k + 1) = nclL n k ++ [(⟨(k : Int), n, 1, 0, 0, 0, 0, 0⟩ : Ncr)] := by simp [nclL, List.range_succ]
theorem nclL_len (n : Int) (k : Nat) : (nclL n k).length = k := by simp [nclL]
/-- How many Replicas a new cluster of n has: none where there is none. -/
def nclN (n : Int) : Nat := if srvB n = true then n.toNat else 0
def ToNcl (w : World) (n : Int) (e : Ending) (w' : World) : Prop := ∃ u, e = .returned (.tuple #[.agg #[u, .slice none 0 0], .bool (srvB n)]) ∧ OwnNc w' w.heap.size u (nclL n (nclN n)) ∧ Below w.heap.size w w'
theorem ownNc_nil (w : World) (B : Nat) : OwnNc w B (.slice none 0 0) [] := ⟨by simp [NcV], .inl ⟨rfl, rfl⟩⟩
theorem Bx.c2 {w : World} {b t : Nat} {u0 u1 : Value} (h : Bx w b t #[u0, u1]) : w.cell? ⟨b, 0, none⟩ = some u0 ∧ w.cell? ⟨b, 1, none⟩ = some u1 := ⟨h.cell 0 rfl, h.cell 1 rfl⟩
theorem Bx.f2 {w : World} {b t : Nat} {cs : Array Value} (h : Bx w b t cs) : w.frozen? ⟨b, 0, none⟩ = false ∧ w.frozen? ⟨b, 1, none⟩ = false := ⟨h.fz 0, h.fz 1⟩
set_option maxHeartbeats 4000000 in
set_option maxRecDepth 100000 in
theorem specNewCl_any (n : Int) (hn : -9223372036854775808 ≤ n ∧ n ≤ 9223372036854775807) (w : World) :
    Calls Tryz.prog 7 #[.int .i64 n] w fun e w' => ToNcl w n e w' := by
  have r0 := bx_new w 25 #[.slice none 0 0, .slice none 0 0]
  have b0 := below1 w (.cells #[.slice none 0 0, .slice none 0 0] 25)
  cases hs : srvB n with
  | false =>
    have HQ : Hid (∀ W, Calls Tryz.prog 31 #[.int .i64 n] W fun e w' => e = .returned (.bool false) ∧ w' = W) := fun W => l15ServersB_any false n hs W
    have HF : Hid (∀ W, Below w.heap.size w W → ToNcl w n (.returned (.tuple #[.agg #[.slice none 0 0, .slice none 0 0], .bool false])) W) := fun W hb => by
      refine ⟨.slice none 0 0, by rw [hs], ?_, hb⟩
      unfold nclN
      rw [if_neg (by rw [hs]; decide)]
      exact ownNc_nil _ _
    clear hs
    obtain ⟨r1, r2⟩ := r0.c2
    go_enter Tryz.func7, Tryz.ntmps7
    go_wp2_with fail
    refine (HQ.out _).mono ?_
    rintro e w2 ⟨rfl, rfl⟩
    go_wp2
    refine bodyPost_ret (v := .tuple #[.agg #[.slice none 0 0, .slice none 0 0], .bool false]) (by simp [results, Tryz.results7, go_sem, r1, r2]) rfl (HF.out _ ?_)
    first | exact b0 | exact (b0.setCell (p := ⟨_, _, none⟩) (Nat.le_refl _) _) | exact (b0.setCell (p := ⟨_, _, none⟩) (Nat.le_refl _) _).setCell (p := ⟨_, _, none⟩) (Nat.le_refl _) _
  | true =>
    have HQ : Hid (∀ W, Calls Tryz.prog 31 #[.int .i64 n] W fun e w' => e = .returned (.bool true) ∧ w' = W) := fun W => l15ServersB_any true n hs W
    have hn17 : n = 1 ∨ n = 4 ∨ n = 7 := srvB_iff.1 hs
    obtain ⟨nn, hnn⟩ : ∃ nn : Nat, n = (nn : Int) := ⟨n.toNat, by omega⟩
    have hle : nn ≤ 7 := by omega
    have HNN : Hid (nclN n = nn) := by unfold Hid nclN; rw [if_pos hs]; omega
    have HN : Hid (∀ k : Nat, k < nn → ∀ W, Calls Tryz.prog 32 #[.int .i64 (k : Int), .int .i64 n] W fun e w' => e = .returned (.tuple #[.agg #[.int .i64 (k : Int), .int .i64 n, .int .i64 1, .int .i64 0, .int .i64 0, .int .i64 0, .int .i64 0, .int .i64 0, .slice none 0 0, .slice none 0 0, .slice none 0 0, .slice none 0 0, .slice none 0 0, .slice none 0 0], .bool true]) ∧ Below W.heap.size W w') := fun k hk W => specNew_yes (k : Int) n (by unfold nrB; rw [hs]; simp; omega) W
    have HS : Hid (srvB n = true) := hs
    have HNI : Hid (n = (nn : Int)) := hnn
    clear hs hn17 hn hnn
    have bC0 := below1 (w.alloc (.cells #[.slice none 0 0, .slice none 0 0] 25)) (.cells #[.slice none 0 0, .slice none 0 0] 25)
    have RC := r0.below bC0
    have CC := bx_new (w.alloc (.cells #[.slice none 0 0, .slice none 0 0] 25)) 25 #[.slice none 0 0, .slice none 0 0]
    have BC : Below w.heap.size w ((w.alloc (.cells #[.slice none 0 0, .slice none 0 0] 25)).alloc (.cells #[.slice none 0 0, .slice none 0 0] 25)) := b0.trans (bC0.mono b0.size)
    have hz : (w.alloc (.cells #[.slice none 0 0, .slice none 0 0] 25)).heap.size = w.heap.size + 1 := by simp
    rw [hz] at CC
    clear bC0
    go_enter Tryz.func7, Tryz.ntmps7
    go_wp2_with fail
    refine (HQ.out _).mono ?_
    rintro e w2 ⟨rfl, rfl⟩
    clear r0 b0
    go_wp2
    go_loopw [5] (fun i wr => ∃ (k : Nat) (u : Value), k ≤ nn ∧ i = .int .i64 k ∧ Bx wr w.heap.size 25 #[.slice none 0 0, .slice none 0 0] ∧ Bx wr (w.heap.size + 1) 25 #[u, .slice none 0 0] ∧ Hid (OwnNc wr w.heap.size u (nclL n k)) ∧ Below w.heap.size w wr) (fun i _ => nn - (intOf i).toNat)
    case atStart => exact ⟨0, .slice none 0 0, Nat.zero_le _, rfl, RC, CC, ownNc_nil _ _, BC⟩
    case round =>
      obtain ⟨k, u, hk, rfl, hR, hC, HO, hb⟩ := hrel
      clear RC CC BC hz
      by_cases hlt : k < nn
      · have hki : (k : Int) < n := by rw [HNI.out]; omega
        go_wp2_with fail
        refine (HN.out k hlt _).mono ?_
        rintro e w2 ⟨rfl, hb2⟩
        have b2 := hb.trans (hb2.mono hb.size)
        have bA := below1 w2 (.cells #[.int .i64 (k : Int), .int .i64 n, .int .i64 1, .int .i64 0, .int .i64 0, .int .i64 0, .int .i64 0, .int .i64 0, .slice none 0 0, .slice none 0 0, .slice none 0 0, .slice none 0 0, .slice none 0 0, .slice none 0 0] 81)
        have bB := below1 (w2.alloc (.cells #[.int .i64 (k : Int), .int .i64 n, .int .i64 1, .int .i64 0, .int .i64 0, .int .i64 0, .int .i64 0, .int .i64 0, .slice none 0 0, .slice none 0 0, .slice none 0 0, .slice none 0 0, .slice none 0 0, .slice none 0 0] 81)) (.cells #[.int .i64 (k : Int), .int .i64 n, .int .i64 1, .int .i64 0, .int .i64 0, .int .i64 0, .int .i64 0, .int .i64 0, .slice none 0 0, .slice none 0 0, .slice none 0 0, .slice none 0 0, .slice none 0 0, .slice none 0 0] 81)
        have bAB : Below w2.heap.size w2 ((w2.alloc (.cells #[.int .i64 (k : Int), .int .i64 n, .int .i64 1, .int .i64 0, .int .i64 0, .int .i64 0, .int .i64 0, .int .i64 0, .slice none 0 0, .slice none 0 0, .slice none 0 0, .slice none 0 0, .slice none 0 0, .slice none 0 0] 81)).alloc (.cells #[.int .i64 (k : Int), .int .i64 n, .int .i64 1, .int .i64 0, .int .i64 0, .int .i64 0, .int .i64 0, .int .i64 0, .slice none 0 0, .slice none 0 0, .slice none 0 0, .slice none 0 0, .slice none 0 0, .slice none 0 0] 81)) := bA.trans (bB.mono bA.size)
        have hR2 := hR.below hb2
        have hC2 := (hC.below hb2).below bA
        have hR3 := hR2.below bAB
        have hC3 := hC2.below bB
        have XA := bx_new w2 81 #[.int .i64 (k : Int), .int .i64 n, .int .i64 1, .int .i64 0, .int .i64 0, .int .i64 0, .int .i64 0, .int .i64 0, .slice none 0 0, .slice none 0 0, .slice none 0 0, .slice none 0 0, .slice none 0 0, .slice none 0 0]
        have hO := (HO.out.below hb2).below bAB
        obtain ⟨au, cu, hvu⟩ := ownSlX hO
        rw [nclL_len] at hvu
        subst hvu
        obtain ⟨c0, c1⟩ := hC2.c2
        have f0 := hC3.fz 0
        have hRd := rdNc_one (w2.alloc (.cells #[.int .i64 (k : Int), .int .i64 n, .int .i64 1, .int .i64 0, .int .i64 0, .int .i64 0, .int .i64 0, .int .i64 0, .slice none 0 0, .slice none 0 0, .slice none 0 0, .slice none 0 0, .slice none 0 0, .slice none 0 0] 81)) (⟨(k : Int), n, 1, 0, 0, 0, 0, 0⟩ : Ncr) 81
        rw [show (w2.alloc (.cells #[.int .i64 (k : Int), .int .i64 n, .int .i64 1, .int .i64 0, .int .i64 0, .int .i64 0, .int .i64 0, .int .i64 0, .slice none 0 0, .slice none 0 0, .slice none 0 0, .slice none 0 0, .slice none 0 0, .slice none 0 0] 81)).heap.size = w2.heap.size + 1 by simp] at hRd
        have bw := b2.trans (bAB.mono b2.size)
        clear hb hb2 HO hR hC hR2 bA bB bAB
        have x0 := XA.cell 0 rfl
        have x1 := XA.cell 1 rfl
        have x2 := XA.cell 2 rfl
        have x3 := XA.cell 3 rfl
        have x4 := XA.cell 4 rfl
        have x5 := XA.cell 5 rfl
        have x6 := XA.cell 6 rfl
        have x7 := XA.cell 7 rfl
        have x8 := XA.cell 8 rfl
        have x9 := XA.cell 9 rfl
        have x10 := XA.cell 10 rfl
        have x11 := XA.cell 11 rfl
        have x12 := XA.cell 12 rfl
        have x13 := XA.cell 13 rfl
        go_wp2_with (at_builtin; (refine wpList_append_ncrs rfl _ _ rfl w.heap.size _ _ (nclL n k) [(⟨(k : Int), n, 1, 0, 0, 0, 0, 0⟩ : Ncr)] rfl rfl hO hRd (by rw [nclL_len]; simp; omega) (by first | exact bw.size | omega) ?_))
        intro u2 w3 ho3 hg3
        obtain ⟨a2, m2, c2, rfl⟩ : ∃ a n c, u2 = .slice a n c := by
          obtain ⟨a, c, h⟩ := ownSlX ho3
          exact ⟨a, _, c, h⟩
        have b3 := bw.grown hg3 bw.size (fun q hq => (World.ownsRow.lt hO q hq).1)
        have tch := Touch.of_grown hg3 (fun q hq => mem_oneB.2 hq)
        have hR4 := hR3.touch tch (fun e => hR3.row hO (by decide) _ (mem_oneB.1 e) rfl)
        have hC4 := hC3.touch tch (fun e => hC3.row hO (by decide) _ (mem_oneB.1 e) rfl)
        have hR5 : Bx (w3.setCell ⟨w.heap.size + 1, 0, none⟩ (.slice a2 m2 c2)) w.heap.size 25 #[.slice none 0 0, .slice none 0 0] := hR4.of_block (by
          simpa using heap_setCell_other w3 ⟨w.heap.size + 1, 0, none⟩ w.heap.size _ (by simp))
        have hC5 : Bx (w3.setCell ⟨w.heap.size + 1, 0, none⟩ (.slice a2 m2 c2)) (w.heap.size + 1) 25 #[.slice a2 m2 c2, .slice none 0 0] := hC4.set 0 _
        have hO5 : Hid (OwnNc (w3.setCell ⟨w.heap.size + 1, 0, none⟩ (.slice a2 m2 c2)) w.heap.size (.slice a2 m2 c2) (nclL n (k + 1))) := by
          unfold Hid
          rw [nclL_succ]
          exact row_set ho3 (fun q hq e => hC4.row ho3 (by decide) q hq e)
        have b5 : Below w.heap.size w (w3.setCell ⟨w.heap.size + 1, 0, none⟩ (.slice a2 m2 c2)) := b3.setCell (p := ⟨_, _, none⟩) (Nat.le_succ _) _
        have f4 := hC4.fz 0
        have g4 : w3.cell? ⟨w.heap.size + 1, 0, none⟩ = some _ := hC4.cell 0 rfl
        clear hO hRd bw hR3 hC3 hR4 hC4 tch ho3 hg3 b3 hC2 XA x0 x1 x2 x3 x4 x5 x6 x7 x8 x9 x10 x11 x12 x13 c0 c1 f0 b2
        go_wp2
        go_roundw
        case rel => exact ⟨k + 1, _, by omega, by go_num, hR5, hC5, hO5, b5⟩
        case measure => simp [intOf]; omega
      · have hke : k = nn := by omega
        subst hke
        have hni : ¬ (k : Int) < n := by rw [HNI.out]; omega
        obtain ⟨c0, c1⟩ := hC.c2
        obtain ⟨q0, q1⟩ := hR.f2
        obtain ⟨p0, p1⟩ := hR.c2
        obtain ⟨a1, n1, k1, hu⟩ : ∃ a n c, u = .slice a n c := by
          obtain ⟨a, c, h⟩ := ownSlX HO.out
          exact ⟨a, _, c, h⟩
        subst hu
        have hR5 : Bx ((wr.setCell ⟨w.heap.size, 0, none⟩ (.slice a1 n1 k1)).setCell ⟨w.heap.size, 1, none⟩ (.slice none 0 0)) w.heap.size 25 #[.slice a1 n1 k1, .slice none 0 0] := (hR.set 0 _).set 1 _
        obtain ⟨d0, d1⟩ := hR5.c2
        have HF : Hid (ToNcl w n (.returned (.tuple #[.agg #[.slice a1 n1 k1, .slice none 0 0], .bool true])) ((wr.setCell ⟨w.heap.size, 0, none⟩ (.slice a1 n1 k1)).setCell ⟨w.heap.size, 1, none⟩ (.slice none 0 0))) := by
          refine ⟨.slice a1 n1 k1, by rw [HS.out], ?_, (hb.setCell (p := ⟨_, _, none⟩) (Nat.le_refl _) _).setCell (p := ⟨_, _, none⟩) (Nat.le_refl _) _⟩
          rw [HNN.out]
          have h1 : Bx (wr.setCell ⟨w.heap.size, 0, none⟩ (.slice a1 n1 k1)) w.heap.size 25 #[.slice a1 n1 k1, .slice none 0 0] := hR.set 0 _
          have o1 := row_set (c := w.heap.size) (j := 0) (u := .slice a1 n1 k1) HO.out (fun q hq e => hR.row HO.out (by decide) q hq e)
          exact row_set o1 (fun q hq e => h1.row o1 (by decide) q hq e)
        clear hR hC HO hb hR5
        go_wp2
        exact bodyPost_ret (v := .tuple #[.agg #[.slice a1 n1 k1, .slice none 0 0], .bool true]) (by simp [results, Tryz.results7, go_sem, d0, d1]) rfl HF.out
set_option maxHeartbeats 4000000 in
set_option maxRecDepth 100000 in
theorem implNewCl_any (n : Int) (hn : -9223372036854775808 ≤ n ∧ n ≤ 9223372036854775807) (w : World) :
    Calls Tryz.prog 8 #[.int .i64 n] w fun e w' => ToNcl w n e w' := by
  have r0 := bx_new w 25 #[.slice none 0 0, .slice none 0 0]
  have b0 := below1 w (.cells #[.slice none 0 0, .slice none 0 0] 25)
  cases hs : srvB n with
  | false =>
    have HQ : Hid (∀ W, Calls Tryz.prog 33 #[.int .i64 n] W fun e w' => e = .returned (.int .i64 (-1)) ∧ w' = W) := fun W => implQuorumZ_any (-1) n (quoR_no hs) W
    have HF : Hid (∀ W, Below w.heap.size w W → ToNcl w n (.returned (.tuple #[.agg #[.slice none 0 0, .slice none 0 0], .bool false])) W) := fun W hb => by
      refine ⟨.slice none 0 0, by rw [hs], ?_, hb⟩
      unfold nclN
      rw [if_neg (by rw [hs]; decide)]
      exact ownNc_nil _ _
    clear hs
    obtain ⟨r1, r2⟩ := r0.c2
    go_enter Tryz.func8, Tryz.ntmps8
    go_wp2_with fail
    refine (HQ.out _).mono ?_
    rintro e w2 ⟨rfl, rfl⟩
    go_wp2
    refine bodyPost_ret (v := .tuple #[.agg #[.slice none 0 0, .slice none 0 0], .bool false]) (by simp [results, Tryz.results8, go_sem, r1, r2]) rfl (HF.out _ ?_)
    first | exact b0 | exact (b0.setCell (p := ⟨_, _, none⟩) (Nat.le_refl _) _) | exact (b0.setCell (p := ⟨_, _, none⟩) (Nat.le_refl _) _).setCell (p := ⟨_, _, none⟩) (Nat.le_refl _) _
  | true =>
    have HQ : Hid (∃ q : Int, q ≠ -1 ∧ ∀ W, Calls Tryz.prog 33 #[.int .i64 n] W fun e w' => e = .returned (.int .i64 q) ∧ w' = W) := ⟨quoR n, by have := quoR_yes hs; omega, fun W => implQuorumZ_any _ n rfl W⟩
    obtain ⟨qq, hqq, HQQ⟩ := HQ.out
    have hqb : (qq == -1) = false := by simpa using hqq
    have HQ : Hid (∀ W, Calls Tryz.prog 33 #[.int .i64 n] W fun e w' => e = .returned (.int .i64 qq) ∧ w' = W) := HQQ
    clear HQQ hqq
    have hn17 : n = 1 ∨ n = 4 ∨ n = 7 := srvB_iff.1 hs
    obtain ⟨nn, hnn⟩ : ∃ nn : Nat, n = (nn : Int) := ⟨n.toNat, by omega⟩
    have hle : nn ≤ 7 := by omega
    have HNN : Hid (nclN n = nn) := by unfold Hid nclN; rw [if_pos hs]; omega
    have HN : Hid (∀ k : Nat, k < nn → ∀ W, Calls Tryz.prog 34 #[.int .i64 (k : Int), .int .i64 n] W fun e w' => e = .returned (.tuple #[.agg #[.int .i64 (k : Int), .int .i64 n, .int .i64 1, .int .i64 0, .int .i64 0, .int .i64 0, .int .i64 0, .int .i64 0, .slice none 0 0, .slice none 0 0, .slice none 0 0, .slice none 0 0, .slice none 0 0, .slice none 0 0], .bool true]) ∧ Below W.heap.size W w') := fun k hk W => implNew_yes (k : Int) n (by unfold nrB; rw [hs]; simp; omega) W
    have HS : Hid (srvB n = true) := hs
    have HNI : Hid (n = (nn : Int)) := hnn
    clear hs hn17 hn hnn
    have bC0 := below1 (w.alloc (.cells #[.slice none 0 0, .slice none 0 0] 25)) (.cells #[.slice none 0 0, .slice none 0 0] 25)
    have RC := r0.below bC0
    have CC := bx_new (w.alloc (.cells #[.slice none 0 0, .slice none 0 0] 25)) 25 #[.slice none 0 0, .slice none 0 0]
    have BC : Below w.heap.size w ((w.alloc (.cells #[.slice none 0 0, .slice none 0 0] 25)).alloc (.cells #[.slice none 0 0, .slice none 0 0] 25)) := b0.trans (bC0.mono b0.size)
    have hz : (w.alloc (.cells #[.slice none 0 0, .slice none 0 0] 25)).heap.size = w.heap.size + 1 := by simp
    rw [hz] at CC
    clear bC0
    go_enter Tryz.func8, Tryz.ntmps8
    go_wp2_with fail
    refine (HQ.out _).mono ?_
    rintro e w2 ⟨rfl, rfl⟩
    clear r0 b0
    go_wp2
    go_loopw [14] (fun i wr => ∃ (k : Nat) (u : Value), k ≤ nn ∧ i = .int .i64 k ∧ Bx wr w.heap.size 25 #[.slice none 0 0, .slice none 0 0] ∧ Bx wr (w.heap.size + 1) 25 #[u, .slice none 0 0] ∧ Hid (OwnNc wr w.heap.size u (nclL n k)) ∧ Below w.heap.size w wr) (fun i _ => nn - (intOf i).toNat)
    case atStart => exact ⟨0, .slice none 0 0, Nat.zero_le _, rfl, RC, CC, ownNc_nil _ _, BC⟩
    case round =>
      obtain ⟨k, u, hk, rfl, hR, hC, HO, hb⟩ := hrel
      clear RC CC BC hz
      by_cases hlt : k < nn
      · have hki : (k : Int) < n := by rw [HNI.out]; omega
        go_wp2_with fail
        refine (HN.out k hlt _).mono ?_
        rintro e w2 ⟨rfl, hb2⟩
        have b2 := hb.trans (hb2.mono hb.size)
        have bA := below1 w2 (.cells #[.int .i64 (k : Int), .int .i64 n, .int .i64 1, .int .i64 0, .int .i64 0, .int .i64 0, .int .i64 0, .int .i64 0, .slice none 0 0, .slice none 0 0, .slice none 0 0, .slice none 0 0, .slice none 0 0, .slice none 0 0] 81)
        have bB := below1 (w2.alloc (.cells #[.int .i64 (k : Int), .int .i64 n, .int .i64 1, .int .i64 0, .int .i64 0, .int .i64 0, .int .i64 0, .int .i64 0, .slice none 0 0, .slice none 0 0, .slice none 0 0, .slice none 0 0, .slice none 0 0, .slice none 0 0] 81)) (.cells #[.int .i64 (k : Int), .int .i64 n, .int .i64 1, .int .i64 0, .int .i64 0, .int .i64 0, .int .i64 0, .int .i64 0, .slice none 0 0, .slice none 0 0, .slice none 0 0, .slice none 0 0, .slice none 0 0, .slice none 0 0] 81)
        have bAB : Below w2.heap.size w2 ((w2.alloc (.cells #[.int .i64 (k : Int), .int .i64 n, .int .i64 1, .int .i64 0, .int .i64 0, .int .i64 0, .int .i64 0, .int .i64 0, .slice none 0 0, .slice none 0 0, .slice none 0 0, .slice none 0 0, .slice none 0 0, .slice none 0 0] 81)).alloc (.cells #[.int .i64 (k : Int), .int .i64 n, .int .i64 1, .int .i64 0, .int .i64 0, .int .i64 0, .int .i64 0, .int .i64 0, .slice none 0 0, .slice none 0 0, .slice none 0 0, .slice none 0 0, .slice none 0 0, .slice none 0 0] 81)) := bA.trans (bB.mono bA.size)
        have hR2 := hR.below hb2
        have hC2 := (hC.below hb2).below bA
        have hR3 := hR2.below bAB
        have hC3 := hC2.below bB
        have XA := bx_new w2 81 #[.int .i64 (k : Int), .int .i64 n, .int .i64 1, .int .i64 0, .int .i64 0, .int .i64 0, .int .i64 0, .int .i64 0, .slice none 0 0, .slice none 0 0, .slice none 0 0, .slice none 0 0, .slice none 0 0, .slice none 0 0]
        have hO := (HO.out.below hb2).below bAB
        obtain ⟨au, cu, hvu⟩ := ownSlX hO
        rw [nclL_len] at hvu
        subst hvu
        obtain ⟨c0, c1⟩ := hC2.c2
        have f0 := hC3.fz 0
        have hRd := rdNc_one (w2.alloc (.cells #[.int .i64 (k : Int), .int .i64 n, .int .i64 1, .int .i64 0, .int .i64 0, .int .i64 0, .int .i64 0, .int .i64 0, .slice none 0 0, .slice none 0 0, .slice none 0 0, .slice none 0 0, .slice none 0 0, .slice none 0 0] 81)) (⟨(k : Int), n, 1, 0, 0, 0, 0, 0⟩ : Ncr) 81
        rw [show (w2.alloc (.cells #[.int .i64 (k : Int), .int .i64 n, .int .i64 1, .int .i64 0, .int .i64 0, .int .i64 0, .int .i64 0, .int .i64 0, .slice none 0 0, .slice none 0 0, .slice none 0 0, .slice none 0 0, .slice none 0 0, .slice none 0 0] 81)).heap.size = w2.heap.size + 1 by simp] at hRd
        have bw := b2.trans (bAB.mono b2.size)
        clear hb hb2 HO hR hC hR2 bA bB bAB
        have x0 := XA.cell 0 rfl
        have x1 := XA.cell 1 rfl
        have x2 := XA.cell 2 rfl
        have x3 := XA.cell 3 rfl
        have x4 := XA.cell 4 rfl
        have x5 := XA.cell 5 rfl
        have x6 := XA.cell 6 rfl
        have x7 := XA.cell 7 rfl
        have x8 := XA.cell 8 rfl
        have x9 := XA.cell 9 rfl
        have x10 := XA.cell 10 rfl
        have x11 := XA.cell 11 rfl
        have x12 := XA.cell 12 rfl
        have x13 := XA.cell 13 rfl
        go_wp2_with (at_builtin; (refine wpList_append_ncrs rfl _ _ rfl w.heap.size _ _ (nclL n k) [(⟨(k : Int), n, 1, 0, 0, 0, 0, 0⟩ : Ncr)] rfl rfl hO hRd (by rw [nclL_len]; simp; omega) (by first | exact bw.size | omega) ?_))
        intro u2 w3 ho3 hg3
        obtain ⟨a2, m2, c2, rfl⟩ : ∃ a n c, u2 = .slice a n c := by
          obtain ⟨a, c, h⟩ := ownSlX ho3
          exact ⟨a, _, c, h⟩
        have b3 := bw.grown hg3 bw.size (fun q hq => (World.ownsRow.lt hO q hq).1)
        have tch := Touch.of_grown hg3 (fun q hq => mem_oneB.2 hq)
        have hR4 := hR3.touch tch (fun e => hR3.row hO (by decide) _ (mem_oneB.1 e) rfl)
        have hC4 := hC3.touch tch (fun e => hC3.row hO (by decide) _ (mem_oneB.1 e) rfl)
        have hR5 : Bx (w3.setCell ⟨w.heap.size + 1, 0, none⟩ (.slice a2 m2 c2)) w.heap.size 25 #[.slice none 0 0, .slice none 0 0] := hR4.of_block (by
          simpa using heap_setCell_other w3 ⟨w.heap.size + 1, 0, none⟩ w.heap.size _ (by simp))
        have hC5 : Bx (w3.setCell ⟨w.heap.size + 1, 0, none⟩ (.slice a2 m2 c2)) (w.heap.size + 1) 25 #[.slice a2 m2 c2, .slice none 0 0] := hC4.set 0 _
        have hO5 : Hid (OwnNc (w3.setCell ⟨w.heap.size + 1, 0, none⟩ (.slice a2 m2 c2)) w.heap.size (.slice a2 m2 c2) (nclL n (k + 1))) := by
          unfold Hid
          rw [nclL_succ]
          exact row_set ho3 (fun q hq e => hC4.row ho3 (by decide) q hq e)
        have b5 : Below w.heap.size w (w3.setCell ⟨w.heap.size + 1, 0, none⟩ (.slice a2 m2 c2)) := b3.setCell (p := ⟨_, _, none⟩) (Nat.le_succ _) _
        have f4 := hC4.fz 0
        have g4 : w3.cell? ⟨w.heap.size + 1, 0, none⟩ = some _ := hC4.cell 0 rfl
        clear hO hRd bw hR3 hC3 hR4 hC4 tch ho3 hg3 b3 hC2 XA x0 x1 x2 x3 x4 x5 x6 x7 x8 x9 x10 x11 x12 x13 c0 c1 f0 b2
        go_wp2
        go_roundw
        case rel => exact ⟨k + 1, _, by omega, by go_num, hR5, hC5, hO5, b5⟩
        case measure => simp [intOf]; omega
      · have hke : k = nn := by omega
        subst hke
        have hni : ¬ (k : Int) < n := by rw [HNI.out]; omega
        obtain ⟨c0, c1⟩ := hC.c2
        obtain ⟨q0, q1⟩ := hR.f2
        obtain ⟨p0, p1⟩ := hR.c2
        obtain ⟨a1, n1, k1, hu⟩ : ∃ a n c, u = .slice a n c := by
          obtain ⟨a, c, h⟩ := ownSlX HO.out
          exact ⟨a, _, c, h⟩
        subst hu
        have hR5 : Bx ((wr.setCell ⟨w.heap.size, 0, none⟩ (.slice a1 n1 k1)).setCell ⟨w.heap.size, 1, none⟩ (.slice none 0 0)) w.heap.size 25 #[.slice a1 n1 k1, .slice none 0 0] := (hR.set 0 _).set 1 _
        obtain ⟨d0, d1⟩ := hR5.c2
        have HF : Hid (ToNcl w n (.returned (.tuple #[.agg #[.slice a1 n1 k1, .slice none 0 0], .bool true])) ((wr.setCell ⟨w.heap.size, 0, none⟩ (.slice a1 n1 k1)).setCell ⟨w.heap.size, 1, none⟩ (.slice none 0 0))) := by
          refine ⟨.slice a1 n1 k1, by rw [HS.out], ?_, (hb.setCell (p := ⟨_, _, none⟩) (Nat.le_refl _) _).setCell (p := ⟨_, _, none⟩) (Nat.le_refl _) _⟩
          rw [HNN.out]
          have h1 : Bx (wr.setCell ⟨w.heap.size, 0, none⟩ (.slice a1 n1 k1)) w.heap.size 25 #[.slice a1 n1 k1, .slice none 0 0] := hR.set 0 _
          have o1 := row_set (c := w.heap.size) (j := 0) (u := .slice a1 n1 k1) HO.out (fun q hq e => hR.row HO.out (by decide) q hq e)
          exact row_set o1 (fun q hq e => h1.row o1 (by decide) q hq e)
        clear hR hC HO hb hR5
        go_wp2
        exact bodyPost_ret (v := .tuple #[.agg #[.slice a1 n1 k1, .slice none 0 0], .bool true]) (by simp [results, Tryz.results8, go_sem, d0, d1]) rfl HF.out
end Go.Proofs.YtilhaokiohbeeabGreatDoor
