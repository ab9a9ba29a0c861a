/- The contracts of the laws' own marking of proofs, and of finding the marks again. The contracts of the laws' own marks of texts, past four millions. Plain facts on the laws' own marks of rows of Blocks. -/
import Derived.Test.YtilhaokiohbeeaaGreatDoorG06
import Derived.Test.YtilhaokiohbeeaaGreatDoorG07
import Derived.Test.YtilhaokiohbeeaaGreatDoorG05
import Derived.Test.YtilhaokiohbeeaaGreatDoorBlsCp
-- UNF Gen
namespace Go.Proofs.YtilhaokiohbeeaaGreatDoor
open Go.RowKit
def mkPr (k : Nat) (X : PrX) : PrX := ⟨⟨X.p.vw, X.p.nm, imarks k X.p.sv.length, imarks (k + X.p.sv.length) X.p.tg.length⟩, X.vs, X.vt⟩
def cntPr (X : PrX) : Nat := X.p.sv.length + X.p.tg.length
theorem prB_mk (k : Nat) (X : PrX) : prB (mkPr k X) = prB X := rfl
def MarkPr (w : World) (B k : Nat) (X : PrX) (e : Ending) (w' : World) : Prop := e = .returned (.int .i64 ((k + cntPr X : Nat) : Int)) ∧ OwnPr w' B (mkPr k X) ∧ Touch (prB X) w w'
set_option maxHeartbeats 4000000 in
set_option maxRecDepth 100000 in
theorem markProof_any (X : PrX) (B k : Nat) (w : World) (ho : OwnPr w B X) (hk : k + cntPr X ≤ 4194304) :
    Calls Tryz.prog 120 #[.agg #[.int .i64 X.p.vw, .int .i64 X.p.nm, X.vs, X.vt], .int .i64 (k : Int)] w fun e w' => MarkPr w B k X e w' := by
  unfold cntPr at hk
  have HS : Hid (∀ W, OwnI W B X.vs X.p.sv → Calls Tryz.prog 124 #[X.vs, .int .i64 (k : Int)] W fun e w' => e = .returned (.int .i64 ((k + X.p.sv.length : Nat) : Int)) ∧ OwnI w' B X.vs (imarks k X.p.sv.length) ∧ W.grownBy w' X.vs.ownBlock) := fun W h => imark_any _ _ B k W (by omega) h
  have HP : Hid (∀ W, OwnI W B X.vt X.p.tg → Calls Tryz.prog 124 #[X.vt, .int .i64 ((k + X.p.sv.length : Nat) : Int)] W fun e w' => e = .returned (.int .i64 ((k + X.p.sv.length + X.p.tg.length : Nat) : Int)) ∧ OwnI w' B X.vt (imarks (k + X.p.sv.length) X.p.tg.length) ∧ W.grownBy w' X.vt.ownBlock) := fun W h => imark_any _ _ B _ W (by omega) h
  have HE : Hid (k + cntPr X = k + X.p.sv.length + X.p.tg.length) := by unfold Hid cntPr; omega
  have NB : Hid (∀ q ∈ prB X, q < w.heap.size) := fun q hq => (ho.bound hq).2
  have AP : Hid (∀ q, X.vs.ownBlock = some q → X.vt.ownBlock = some q → False) := ho.two
  have t0 := bx_new w 26 #[.int .i64 X.p.vw, .int .i64 X.p.nm, X.vs, X.vt]
  have b0 := below1 w (.cells #[.int .i64 X.p.vw, .int .i64 X.p.nm, X.vs, X.vt] 26)
  have ho0 := ho.below b0
  have hb0 : w.heap.size < (w.alloc (.cells #[.int .i64 X.p.vw, .int .i64 X.p.nm, X.vs, X.vt] 26)).heap.size := by simp
  have T0 : Hid (Touch (prB X) w (w.alloc (.cells #[.int .i64 X.p.vw, .int .i64 X.p.nm, X.vs, X.vt] 26))) := Touch.of_below b0
  obtain ⟨q0, q1, q2, q3⟩ := t0.c4
  clear ho b0 hk
  obtain ⟨k1, hk1⟩ : ∃ k1, k1 = k + X.p.sv.length := ⟨_, rfl⟩
  rw [← hk1] at HS HP HE
  have HK1 : Hid (k1 = k + X.p.sv.length) := hk1
  clear hk1
  go_enter Tryz.func120, Tryz.ntmps120
  go_wp2_with fail
  generalize w.alloc (.cells #[.int .i64 X.p.vw, .int .i64 X.p.nm, X.vs, X.vt] 26) = W0 at t0 ho0 hb0 T0 q0 q1 q2 q3 ⊢
  refine (HS.out _ ho0.sv).mono ?_
  rintro e w1 ⟨rfl, hs1, hg1⟩
  have tch1 : Touch (oneB X.vs) W0 w1 := Touch.of_grown hg1 (fun q hq => mem_oneB.2 hq)
  have t1 : Bx w1 w.heap.size 26 #[.int .i64 X.p.vw, .int .i64 X.p.nm, X.vs, X.vt] := t0.touch tch1 (fun e => by have := NB.out _ (List.mem_append_left _ e); omega)
  have hl1 : OwnI w1 B X.vt X.p.tg := tch1.row ho0.tg (fun q hq e => AP.out q (mem_oneB.1 e) hq)
  have T1 : Hid (Touch (prB X) w w1) := T0.out.trans (tch1.more (fun q hq => List.mem_append_left _ hq))
  clear t0 ho0 hb0 T0 q0 q1 q2 q3 tch1 hg1 HS
  obtain ⟨q0, q1, q2, q3⟩ := t1.c4
  go_wp2_with fail
  refine (HP.out _ hl1).mono ?_
  rintro e w2 ⟨rfl, hl2, hg2⟩
  have tch2 : Touch (oneB X.vt) w1 w2 := Touch.of_grown hg2 (fun q hq => mem_oneB.2 hq)
  have hs2 : OwnI w2 B X.vs (imarks k X.p.sv.length) := tch2.row hs1 (fun q hq e => AP.out q hq (mem_oneB.1 e))
  have T2 : Hid (Touch (prB X) w w2) := T1.out.trans (tch2.more (fun q hq => List.mem_append_right _ hq))
  have END : Hid (MarkPr w B k X (.returned (.int .i64 ((k1 + X.p.tg.length : Nat) : Int))) w2) := by
    refine ⟨by rw [HE.out], ⟨hs2, ?_, AP.out⟩, T2.out⟩
    show OwnI w2 B X.vt (imarks (k + X.p.sv.length) X.p.tg.length)
    rw [← HK1.out]
    exact hl2
  clear t1 hl1 T1 q0 q1 q2 q3 tch2 hg2 HP hs1 hs2 hl2 T2
  go_wp2
  go_ret
  exact END.out
set_option maxHeartbeats 4000000 in
set_option maxRecDepth 100000 in
theorem heldProof_any (X : PrX) (k : Nat) (w : World) (hr : RdPr w (mkPr k X)) (hk : k + cntPr X ≤ 4194304) :
    Calls Tryz.prog 127 #[.agg #[.int .i64 X.p.vw, .int .i64 X.p.nm, X.vs, X.vt], .int .i64 (k : Int)] w fun e w' => e = .returned (.int .i64 ((k + cntPr X : Nat) : Int)) ∧ Below w.heap.size w w' := by
  unfold cntPr at hk
  obtain ⟨hs, hl⟩ := hr
  change RdI w X.vs (imarks k X.p.sv.length) at hs
  change RdI w X.vt (imarks (k + X.p.sv.length) X.p.tg.length) at hl
  obtain ⟨k1, hk1⟩ : ∃ k1, k1 = k + X.p.sv.length := ⟨_, rfl⟩
  rw [← hk1] at hl
  have HS : Hid (∀ W, RdI W X.vs (imarks k X.p.sv.length) → Calls Tryz.prog 131 #[X.vs, .int .i64 (k : Int)] W fun e w' => e = .returned (.int .i64 (k1 : Int)) ∧ w' = W) := fun W h => by
    have := iheld_any _ _ k W (by omega) h
    rw [hk1]
    exact this
  have HP : Hid (∀ W, RdI W X.vt (imarks k1 X.p.tg.length) → Calls Tryz.prog 131 #[X.vt, .int .i64 (k1 : Int)] W fun e w' => e = .returned (.int .i64 ((k1 + X.p.tg.length : Nat) : Int)) ∧ w' = W) := fun W h => iheld_any _ _ _ W (by omega) h
  have HE : Hid (k + cntPr X = k1 + X.p.tg.length) := by unfold Hid cntPr; omega
  have hn1 : ¬ ((k1 : Int) < 0) := by omega
  have hn2 : ¬ ((k1 + X.p.tg.length : Nat) : Int) < 0 := by omega
  have t0 := bx_new w 26 #[.int .i64 X.p.vw, .int .i64 X.p.nm, X.vs, X.vt]
  have b0 := below1 w (.cells #[.int .i64 X.p.vw, .int .i64 X.p.nm, X.vs, X.vt] 26)
  obtain ⟨q0, q1, q2, q3⟩ := t0.c4
  rw [HE.out]
  generalize (k1 + X.p.tg.length : Nat) = k2 at HP hn2 ⊢
  clear hk1 hk HE
  go_enter Tryz.func127, Tryz.ntmps127
  go_wp2_with fail
  refine (HS.out _ (hs.below b0)).mono ?_
  rintro e w1 ⟨rfl, hw1⟩
  subst hw1
  go_wp2_with fail
  refine (HP.out _ (hl.below b0)).mono ?_
  rintro e w2 ⟨rfl, hw2⟩
  subst hw2
  clear t0 q0 q1 q2 q3 HP
  go_wp2
  go_ret
  exact ⟨rfl, b0⟩
end Go.Proofs.YtilhaokiohbeeaaGreatDoor
namespace Go.Proofs.YtilhaokiohbeeaaGreatDoor
open Go.RowKit
set_option maxHeartbeats 400000 in
set_option maxRecDepth 100000 in
theorem markTextB_any (k : Nat) (w : World) (h0 : 0 < k) (h1 : k ≤ 8388608) :
    Calls Tryz.prog 190 #[.int .i64 (k : Int)] w fun e w' => e = .returned (.string (mk k)) ∧ Below w.heap.size w w' := by
  go_enter Tryz.func190, Tryz.ntmps190
  go_wp2
  go_loopw [0, 3] (fun n v wr => ∃ (m : Nat) (ys : List UInt8), n = .int .i64 m ∧ m ≤ 8388608 ∧ v = .string ⟨ys.toArray⟩ ∧ ys.length + m ≤ 8388608 ∧ Hid (digs m ys = digs k []) ∧ Below w.heap.size w wr) (fun n _ _ => (intOf n).toNat)
  case atStart => exact ⟨k, [], rfl, h1, rfl, by simp; omega, rfl, Below.refl _ _⟩
  case round =>
    obtain ⟨m, ys, rfl, hm, rfl, hy, he, hb⟩ := hrel
    have hs := hb.size
    by_cases hlt : 0 < m
    · have hcv := conv_one wr (UInt8.ofNat (48 + m % 10)) (48 + (m : Int) % 10) (dig_toNat m)
      generalize hd : UInt8.ofNat (48 + m % 10) = d at hcv
      have hadd : ∀ w', (Op.stringOp .add ⟨#[d]⟩ ⟨ys.toArray⟩).run Tryz.prog w' = .ok (.string ⟨(d :: ys).toArray⟩) w' := fun w' => run_string_add_lists w' [d] ys (by simp) (by omega)
      have HE : Hid (digs (m / 10) (d :: ys) = digs k []) := by show _ = _; rw [← hd, ← digs_step m hlt]; exact he.out
      have R2 : Below w.heap.size w (wr.alloc (.cells #[.int .u8 (48 + (m : Int) % 10)] 5)) := hb.alloc hs _
      clear hd he hb
      go_wp2
      go_roundw
      case rel => exact ⟨m / 10, d :: ys, by go_num, by omega, by simp, by simp only [List.length_cons]; omega, HE, R2⟩
      case measure => simp [intOf]; omega
    · have hm0 : m = 0 := by omega
      subst hm0
      have HE : Hid (ys = digs k []) := by show _ = _; rw [← he.out, digs_zero]
      have hadd : ∀ w', (Op.stringOp .add ⟨#[109]⟩ ⟨ys.toArray⟩).run Tryz.prog w' = .ok (.string ⟨((109 : UInt8) :: ys).toArray⟩) w' := fun w' => run_string_add_lists w' [109] ys (by simp) (by omega)
      clear he
      go_wp2
      go_ret
      refine ⟨?_, hb⟩
      unfold mk
      rw [← HE.out]
      simp
theorem markTextB_at (x : Int) (k : Nat) (w : World) (hx : x = (k : Int)) (h0 : 0 < k) (h1 : k ≤ 8388608) :
    Calls Tryz.prog 190 #[.int .i64 x] w fun e w' => e = .returned (.string (mk k)) ∧ Below w.heap.size w w' := by
  subst hx; exact markTextB_any k w h0 h1
set_option maxHeartbeats 400000 in
set_option maxRecDepth 100000 in
theorem smarkB_any (v : Value) (bs : List ByteArray) (base k : Nat) (w : World) (hk0 : 0 < k) (hk : k + bs.length ≤ 8388608) (hown : OwnS w base v bs) :
    Calls Tryz.prog 126 #[v, .int .i64 k] w fun e w' => e = .returned (.int .i64 ((k + bs.length : Nat) : Int)) ∧ OwnS w' base v (smarks k bs.length) ∧ w.grownBy w' v.ownBlock := by
  obtain ⟨g, cap, hv⟩ | ⟨hv, h0⟩ : (∃ g cap, v = .slice (some ⟨g, 0, none⟩) bs.length cap) ∨ (v = .slice none 0 0 ∧ bs = []) := by
    rcases hown.2 with ⟨rfl, h0⟩ | ⟨g, cap, cur, rfl, _⟩
    · exact .inr ⟨rfl, List.length_eq_zero_iff.1 h0⟩
    · exact .inl ⟨g, cap, rfl⟩
  · subst hv
    go_enter Tryz.func126, Tryz.ntmps126
    go_wp2
    go_loopw [1, 5] (fun kk i wr => ∃ j : Nat, j ≤ bs.length ∧ i = .int .i64 j ∧ kk = .int .i64 ((k : Int) + (j : Int)) ∧ OwnS wr base (.slice (some ⟨g, 0, none⟩) bs.length cap) (smarks k j ++ bs.drop j) ∧ w.grownBy wr (some g)) (fun _ i _ => bs.length - (intOf i).toNat)
    case atStart => exact ⟨0, Nat.zero_le _, rfl, by simp, by simpa [smarks] using hown, grownBy_one _ _⟩
    case round =>
      obtain ⟨j, hj, rfl, rfl, ho, hg⟩ := hrel
      have hlen : (smarks k j ++ bs.drop j).length = bs.length := by simp [smarks_length]; omega
      by_cases hlt : j < bs.length
      · go_wp2_with fail
        refine (markTextB_at _ (k + j) _ (by omega) (by omega) (by omega)).mono ?_
        rintro e1 w1 ⟨rfl, hb1⟩
        have ho1 := ho.below hb1
        have ho' : w1.ownsRow base 9 1 (.slice (some ⟨g, 0, none⟩) bs.length cap) bs.length (SV (smarks k j ++ bs.drop j)) := by have h := ho1; unfold OwnS at h; rwa [hlen] at h
        have hc := (ho'.cellAt j (by omega)).trans (SV_get _ j (by omega))
        have hf := ho'.frozenAt j
        have R1 : OwnS (w1.setCell ⟨g, j, none⟩ (.string (mk (k + j)))) base (.slice (some ⟨g, 0, none⟩) bs.length cap) (smarks k (j + 1) ++ bs.drop (j + 1)) := by
          have h := (ho'.stored j (.string (mk (k + j)))).1
          rw [← SV_set, smark_step k j bs hlt] at h
          have hl : (smarks k (j + 1) ++ bs.drop (j + 1)).length = bs.length := by simp [smarks_length]; omega
          unfold OwnS
          rw [hl]
          exact h
        have R2 : w.grownBy (w1.setCell ⟨g, j, none⟩ (.string (mk (k + j)))) (some g) := smark_frame hg hb1
        clear ho ho' ho1 hg hb1
        go_wp2
        go_roundw
        case rel => exact ⟨j + 1, by omega, by go_num, by go_num, R1, R2⟩
        case measure => simp [intOf]; omega
      · have hje : j = bs.length := by omega
        subst hje
        go_wp2
        go_ret
        exact ⟨by simp, by simpa using ho, hg⟩
  · subst hv
    subst h0
    go_enter Tryz.func126, Tryz.ntmps126
    go_wp2
    refine wp_loop_rounds 1 ?_
    rw [rounds_succ]
    go_wp2
    go_ret
    exact ⟨rfl, hown, grownBy_one _ _⟩
set_option maxHeartbeats 400000 in
set_option maxRecDepth 100000 in
theorem sheldB_any (v : Value) (n k : Nat) (w : World) (hk0 : 0 < k) (hk : k + n ≤ 8388608) (hr : RdS w v (smarks k n)) :
    Calls Tryz.prog 132 #[v, .int .i64 k] w fun e w' => e = .returned (.int .i64 ((k + n : Nat) : Int)) ∧ Below w.heap.size w w' := by
  obtain ⟨a, cap, hv, hl, hm, hA⟩ := hr
  rw [smarks_length] at hv hl
  subst hv
  by_cases h0 : n = 0
  · subst h0
    go_enter Tryz.func132, Tryz.ntmps132
    go_wp2
    refine wp_loop_rounds 1 ?_
    rw [rounds_succ]
    go_wp2
    go_ret
    exact ⟨rfl, Below.refl _ _⟩
  · obtain ⟨b, off, rfl, hc⟩ : ∃ b off, a = some ⟨b, off, none⟩ ∧ ∀ i, i < n → w.cell? ⟨b, off + i, none⟩ = some (.string (mk (k + i))) := by
      rcases hA with h | ⟨b, off, ha, hc⟩
      · have := congrArg List.length h; rw [smarks_length] at this; exact absurd this h0
      · refine ⟨b, off, ha, fun i hi => ?_⟩
        have h := hc i (by rw [smarks_length]; exact hi)
        rw [smarks_get] at h
        exact h
    clear hA
    go_enter Tryz.func132, Tryz.ntmps132
    go_wp2
    go_loopw [1, 5] (fun kk i wr => ∃ j : Nat, j ≤ n ∧ i = .int .i64 j ∧ kk = .int .i64 ((k : Int) + (j : Int)) ∧ Below w.heap.size w wr) (fun _ i _ => n - (intOf i).toNat)
    case atStart => exact ⟨0, Nat.zero_le _, rfl, by simp, Below.refl _ _⟩
    case round =>
      obtain ⟨j, hj, rfl, rfl, hb⟩ := hrel
      by_cases hlt : j < n
      · have h1 : wr.cell? ⟨b, off + j, none⟩ = some (.string (mk (k + j))) := by rw [hb.cell (World.block_lt_of_cell? w _ (hc j hlt))]; exact hc j hlt
        have hlt2 := World.block_lt_of_cell? wr _ h1
        clear hc
        go_wp2
        go_region_with (go_at_call 190; refine (markTextB_at _ (k + j) _ (by omega) (by omega) (by omega)).mono ?_; rintro e w' ⟨rfl, hb'⟩; have h2 : w'.cell? ⟨b, off + j, none⟩ = some (.string (mk (k + j))) := (hb'.cell (by simpa using hlt2)).trans (by simpa using h1); have hbw : Below w.heap.size w w' := (Below.drew hb).trans (hb'.mono (by simpa using hb.size)))
        all_goals
          clear hb h1
          go_wp2
          go_roundw
          case rel => exact ⟨j + 1, by omega, by go_num, by go_num, by assumption⟩
          case measure => simp [intOf]; omega
      · have hje : j = n := by omega
        subst hje
        go_wp2
        go_ret
        exact ⟨by simp, hb⟩
theorem smarkB_at (v : Value) (bs : List ByteArray) (base : Nat) (x : Int) (k : Nat) (w : World) (hx : x = (k : Int)) (hk0 : 0 < k) (hk : k + bs.length ≤ 8388608) (hown : OwnS w base v bs) :
    Calls Tryz.prog 126 #[v, .int .i64 x] w fun e w' => e = .returned (.int .i64 ((k + bs.length : Nat) : Int)) ∧ OwnS w' base v (smarks k bs.length) ∧ w.grownBy w' v.ownBlock := by rw [hx]; exact smarkB_any v bs base k w hk0 hk hown
theorem sheldB_at (v : Value) (n : Nat) (x : Int) (k : Nat) (w : World) (hx : x = (k : Int)) (hk0 : 0 < k) (hk : k + n ≤ 8388608) (hr : RdS w v (smarks k n)) :
    Calls Tryz.prog 132 #[v, .int .i64 x] w fun e w' => e = .returned (.int .i64 ((k + n : Nat) : Int)) ∧ Below w.heap.size w w' := by rw [hx]; exact sheldB_any v n k w hk0 hk hr
theorem imarkB_at (v : Value) (bs : List Int) (base : Nat) (x : Int) (k : Nat) (w : World) (hx : x = (k : Int)) (hk : k + bs.length ≤ 1073741824) (hown : OwnI w base v bs) :
    Calls Tryz.prog 124 #[v, .int .i64 x] w fun e w' => e = .returned (.int .i64 ((k + bs.length : Nat) : Int)) ∧ OwnI w' base v (imarks k bs.length) ∧ w.grownBy w' v.ownBlock := by rw [hx]; exact imark_any v bs base k w hk hown
theorem iheldB_at (v : Value) (n : Nat) (x : Int) (k : Nat) (w : World) (hx : x = (k : Int)) (hk : k + n ≤ 1073741824) (hr : RdI w v (imarks k n)) :
    Calls Tryz.prog 131 #[v, .int .i64 x] w fun e w' => e = .returned (.int .i64 ((k + n : Nat) : Int)) ∧ w' = w := by rw [hx]; exact iheld_any v n k w hk hr
end Go.Proofs.YtilhaokiohbeeaaGreatDoor
-- UNF Gen
namespace Go.Proofs.YtilhaokiohbeeaaGreatDoor
open Go.RowKit
theorem bblks_cons (a : BlX) (r : List BlX) : bblks (a :: r) = blB a ++ bblks r := by simp [bblks]
theorem blB_sub {ts : List BlX} {t : BlX} (h : t ∈ ts) {k : Nat} (hk : k ∈ blB t) : k ∈ bblks ts := List.mem_flatMap.2 ⟨t, h, hk⟩
theorem bblks_apart : ∀ {ts : List BlX}, (bblks ts).Nodup → ts.Pairwise (fun p q => ∀ k ∈ blB p, k ∉ blB q)
  | [], _ => List.Pairwise.nil
  | a :: r, h => by
    rw [bblks_cons, List.nodup_append] at h
    rw [List.pairwise_cons]
    exact ⟨fun q hq k hk hk2 => h.2.2 k hk k (blB_sub hq hk2) rfl, bblks_apart h.2.1⟩
theorem bApart_ij {ts : List BlX} (h : (bblks ts).Nodup) {i j : Nat} (hi : i < ts.length) (hj : j < ts.length) (hne : i ≠ j) {k : Nat} (h1 : k ∈ blB (nthBs ts i)) : k ∉ blB (nthBs ts j) := by
  have hp := List.pairwise_iff_getElem.1 (bblks_apart h)
  rw [nthBs_eq hi] at h1
  rw [nthBs_eq hj]
  rcases Nat.lt_or_gt_of_ne hne with hl | hl
  · exact hp i j hi hj hl k h1
  · exact fun h2 => hp j i hj hi hl k h2 h1
theorem bblks_set {ts : List BlX} {i : Nat} {t : BlX} (hi : i < ts.length) (h : blB t = blB (nthBs ts i)) : bblks (ts.set i t) = bblks ts := by
  induction ts generalizing i with
  | nil => simp at hi
  | cons a r ih =>
    cases i with
    | zero =>
      rw [nthBs_zero] at h
      rw [List.set_cons_zero, bblks_cons, bblks_cons, h]
    | succ n =>
      rw [nthBs_succ] at h
      rw [List.set_cons_succ, bblks_cons, bblks_cons, ih (by simpa using hi) h]
theorem nthBs_set {ts : List BlX} {i j : Nat} {t : BlX} (_ : i < ts.length) (hj : j < ts.length) : nthBs (ts.set i t) j = if i = j then t else nthBs ts j := by
  rw [nthBs_eq (by rw [List.length_set]; exact hj), List.getElem_set, nthBs_eq hj]
theorem inOB_at {w : World} {B : Nat} {ts : List BlX} : InOB w B ts ↔ ∀ i, i < ts.length → OwnBl w B (nthBs ts i) := by
  constructor
  · intro h i hi
    rw [nthBs_eq hi]; exact h _ (List.getElem_mem hi)
  · intro h t ht
    obtain ⟨i, hi, rfl⟩ := List.getElem_of_mem ht
    rw [← nthBs_eq hi]
    exact h i hi
/-- A Block of an own row is another; of the others' rows nothing turned. -/
theorem bs_step {w w2 : World} {B i : Nat} {v : Value} {us : List BlX} {t : BlX} (ho : OwnBL w B v us) (hi : i < us.length) (hb : blB t = blB (nthBs us i)) (hrow : OwnBs w2 B v (us.set i t)) (hnew : OwnBl w2 B t) (hT : Touch (oneB v ++ blB (nthBs us i)) w w2) : OwnBL w2 B v (us.set i t) := by
  have hn := List.nodup_append.1 ho.nod
  refine ⟨hrow, ?_, by rw [bblks_set hi hb]; exact ho.nod⟩
  rw [inOB_at]
  intro k hk
  rw [List.length_set] at hk
  rw [nthBs_set hi hk]
  split
  · exact hnew
  · rename_i hne
    have hk2 : nthBs us k ∈ us := by rw [nthBs_eq hk]; exact List.getElem_mem hk
    refine ((inOB_at.1 ho.ins) k hk).touch hT (fun q hq e => ?_)
    rcases List.mem_append.1 e with e | e
    · exact hn.2.2 q e q (blB_sub hk2 hq) rfl
    · exact bApart_ij hn.2.1 hi hk hne e hq
/-- How many marks rows of Blocks take; a marked Block; marked rows. -/
def cntB (ts : List BlX) : Nat := (ts.map (fun t => 5 + t.b.p.sv.length + t.b.p.tg.length + t.b.mo.length)).sum
def mkB (k : Nat) (t : BlX) : BlX := ⟨⟨(k : Int), (k : Int) + 1, ⟨(k : Int) + 2, (k : Int) + 3, imarks (k + 4) t.b.p.sv.length, imarks (k + 4 + t.b.p.sv.length) t.b.p.tg.length⟩, smarks (k + 4 + t.b.p.sv.length + t.b.p.tg.length) t.b.mo.length, ((k + 4 + t.b.p.sv.length + t.b.p.tg.length + t.b.mo.length : Nat) : Int)⟩, t.vs, t.vt, t.vm⟩
def bmkTo (k : Nat) (ts : List BlX) (i : Nat) : List BlX := (List.range i).map (fun j => mkB (k + cntB (ts.take j)) (nthBs ts j))
theorem blB_mk (k : Nat) (t : BlX) : blB (mkB k t) = blB t := rfl
theorem bmkTo_len (k : Nat) (ts : List BlX) (i : Nat) : (bmkTo k ts i).length = i := by simp [bmkTo]
theorem cntB_take {ts : List BlX} {k : Nat} (hk : k < ts.length) : cntB (ts.take (k + 1)) = cntB (ts.take k) + (5 + (nthBs ts k).b.p.sv.length + (nthBs ts k).b.p.tg.length + (nthBs ts k).b.mo.length) := by
  unfold cntB
  rw [take_snocB hk, List.map_append, List.sum_append]
  simp
theorem cntB_le {ts : List BlX} {k : Nat} : cntB (ts.take k) ≤ cntB ts := by
  have h2 : cntB ts = cntB (ts.take k) + cntB (ts.drop k) := by
    unfold cntB
    rw [← List.sum_append, ← List.map_append, List.take_append_drop]
  omega
theorem cntB_bsz : ∀ ts : List BlX, cntB ts ≤ 5 * bsz ts
  | [] => by simp [cntB, bsz]
  | a :: r => by
    have := cntB_bsz r
    unfold cntB bsz at this ⊢
    rw [List.map_cons, List.map_cons, List.sum_cons, List.sum_cons]
    omega
theorem bmk_nth {k : Nat} {ts : List BlX} {i : Nat} (hi : i < ts.length) : nthBs (bmkTo k ts i ++ ts.drop i) i = nthBs ts i := by
  have hl := bmkTo_len k ts i
  rw [nthBs_eq (by rw [List.length_append, hl, List.length_drop]; omega), List.getElem_append_right (by rw [hl]; exact Nat.le_refl _), nthBs_eq hi]
  simp [hl]
theorem bmk_len {k : Nat} {ts : List BlX} {i : Nat} (hi : i ≤ ts.length) : (bmkTo k ts i ++ ts.drop i).length = ts.length := by
  rw [List.length_append, bmkTo_len, List.length_drop]; omega
theorem bmk_step {k : Nat} {ts : List BlX} {i : Nat} (hi : i < ts.length) : (bmkTo k ts i ++ ts.drop i).set i (mkB (k + cntB (ts.take i)) (nthBs ts i)) = bmkTo k ts (i + 1) ++ ts.drop (i + 1) := by
  have hl := bmkTo_len k ts i
  rw [List.set_append_right _ _ (by rw [hl]; exact Nat.le_refl _), hl, Nat.sub_self, List.drop_eq_getElem_cons hi, List.set_cons_zero]
  unfold bmkTo
  rw [List.range_succ, List.map_append, List.append_assoc]
  rfl
theorem bmk_at {k : Nat} {ts : List BlX} {n j : Nat} (hj : j < n) : nthBs (bmkTo k ts n) j = mkB (k + cntB (ts.take j)) (nthBs ts j) := by
  rw [nthBs_eq (by rw [bmkTo_len]; exact hj)]
  simp [bmkTo]
theorem wrap_z (z i : Nat) (h : z + i ≤ 1000000000) : IntKind.i64.wrap ((z : Int) + (i : Int)) = (z : Int) + (i : Int) := by rw [IntKind.wrap_i64]; omega
end Go.Proofs.YtilhaokiohbeeaaGreatDoor
