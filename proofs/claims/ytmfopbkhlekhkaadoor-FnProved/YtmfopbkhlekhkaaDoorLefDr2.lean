/- The contracts of the laws' pick, and of the draws of what Holds, Peak and Way are asked. -/
-- UNF Gen
import Derived.Test.YtmfopbkhlekhkaaDoorLefLk2
namespace Go.Proofs.YtmfopbkhlekhkaaDoor
open Go.RowKit
/-- What pick leaves: a number below n. -/
def PickL (w : World) (n : Int) (e : Ending) (w' : World) : Prop := w' = w ∧ ∃ x : Int, e = .returned (.int .i64 x) ∧ 0 ≤ x ∧ x < n
set_option maxHeartbeats 400000 in
set_option maxRecDepth 100000 in
theorem pickL1_any (v : Value) (bs : List UInt8) (n : Int) (w : World) (hr : Rd w v bs) (hb : bs.length ≤ 4096) (hn : 0 < n) (hn2 : n ≤ 1099511627776) :
    Calls Tryd.prog 24 #[v, .int .i64 1, .int .i64 n] w fun e w' => PickL w n e w' := by
  obtain ⟨a, cap, rfl, hl, hm, hA⟩ := hr
  unfold maxLen at hm
  go_enter Tryd.func24, Tryd.ntmps24
  go_wp2
  go_loop [7, 8] (fun kk ii => ∃ (k : Nat) (y : Int), k ≤ bs.length ∧ ii = .int .i64 k ∧ kk = .int .i64 y ∧ 0 ≤ y ∧ y ≤ 1000003) (fun _ ii => bs.length - (intOf ii).toNat)
  case atStart => exact ⟨0, _, Nat.zero_le _, rfl, rfl, by omega, by omega⟩
  case round =>
    obtain ⟨k, y, hk, rfl, rfl, hy0, hy1⟩ := hrel
    by_cases hlt : k < bs.length
    · obtain ⟨b, off, ha, hc⟩ : ∃ b off, a = some ⟨b, off, none⟩ ∧ w.cell? ⟨b, off + k, none⟩ = some (.int .u8 (bs[k].toNat : Int)) := by
        rcases hA with h | ⟨b, off, ha, hc⟩
        · subst h; simp at hlt
        · exact ⟨b, off, ha, hc k hlt⟩
      rw [ha]
      obtain ⟨d, hd⟩ : ∃ d : Nat, d = bs[k].toNat := ⟨_, rfl⟩
      have hd8 : d < 256 := by rw [hd]; exact UInt8.toNat_lt _
      rw [← hd] at hc
      clear hA hd
      go_wp2
      go_round
      case rel => exact ⟨k + 1, _, by omega, by go_num, rfl, by omega, by omega⟩
      case measure => simp [intOf]; omega
    · clear hA
      have hm0 := Int.emod_nonneg y (show n ≠ 0 by omega)
      have hm1 := Int.emod_lt_of_pos y hn
      go_wp2
      go_ret
      exact ⟨rfl, _, rfl, hm0, hm1⟩
set_option maxHeartbeats 400000 in
set_option maxRecDepth 100000 in
theorem pickL2_any (v : Value) (bs : List UInt8) (n : Int) (w : World) (hr : Rd w v bs) (hb : bs.length ≤ 4096) (hn : 0 < n) (hn2 : n ≤ 1099511627776) :
    Calls Tryd.prog 24 #[v, .int .i64 2, .int .i64 n] w fun e w' => PickL w n e w' := by
  obtain ⟨a, cap, rfl, hl, hm, hA⟩ := hr
  unfold maxLen at hm
  go_enter Tryd.func24, Tryd.ntmps24
  go_wp2
  go_loop [7, 8] (fun kk ii => ∃ (k : Nat) (y : Int), k ≤ bs.length ∧ ii = .int .i64 k ∧ kk = .int .i64 y ∧ 0 ≤ y ∧ y ≤ 1000003) (fun _ ii => bs.length - (intOf ii).toNat)
  case atStart => exact ⟨0, _, Nat.zero_le _, rfl, rfl, by omega, by omega⟩
  case round =>
    obtain ⟨k, y, hk, rfl, rfl, hy0, hy1⟩ := hrel
    by_cases hlt : k < bs.length
    · obtain ⟨b, off, ha, hc⟩ : ∃ b off, a = some ⟨b, off, none⟩ ∧ w.cell? ⟨b, off + k, none⟩ = some (.int .u8 (bs[k].toNat : Int)) := by
        rcases hA with h | ⟨b, off, ha, hc⟩
        · subst h; simp at hlt
        · exact ⟨b, off, ha, hc k hlt⟩
      rw [ha]
      obtain ⟨d, hd⟩ : ∃ d : Nat, d = bs[k].toNat := ⟨_, rfl⟩
      have hd8 : d < 256 := by rw [hd]; exact UInt8.toNat_lt _
      rw [← hd] at hc
      clear hA hd
      go_wp2
      go_round
      case rel => exact ⟨k + 1, _, by omega, by go_num, rfl, by omega, by omega⟩
      case measure => simp [intOf]; omega
    · clear hA
      have hm0 := Int.emod_nonneg y (show n ≠ 0 by omega)
      have hm1 := Int.emod_lt_of_pos y hn
      go_wp2
      go_ret
      exact ⟨rfl, _, rfl, hm0, hm1⟩
set_option maxHeartbeats 2000000 in
set_option maxRecDepth 100000 in
theorem l12At_any (v : Value) (es : List Lef) (p : Int) (w : World) (hr : RdL w v es) :
    Calls Tryd.prog 43 #[v, .int .i64 p] w fun e w' => (∃ z : Int, e = .returned (.int .i64 z)) ∧ Below w.heap.size w w' := by
  obtain ⟨a, c, hv, hl, hm, -⟩ := id hr
  unfold maxLen at hm
  subst hv
  go_enter Tryd.func43, Tryd.ntmps43
  go_wp2
  go_loopw [5] (fun iv wr => ∃ i : Nat, iv = .int .i64 (i : Int) ∧ i ≤ es.length ∧ Below w.heap.size w wr) (fun iv _ => es.length - (intOf iv).toNat)
  case atStart => exact ⟨0, rfl, Nat.zero_le _, Below.refl _ _⟩
  case round =>
    obtain ⟨i, rfl, hil, hb⟩ := hrel
    by_cases hlt : i < es.length
    · obtain ⟨c1, c2, rfl, d0, d1⟩ := (hr.below hb).at rfl i hlt
      obtain ⟨x, hx⟩ : ∃ x, x = nthL es i := ⟨_, rfl⟩
      rw [← hx] at d0 d1
      have hili : (i : Int) < (es.length : Int) := by omega
      have hic : i < c := by omega
      clear hx
      by_cases hxp : x.pl = p
      · have hxb : (x.pl == p) = true := beq_iff_eq.2 hxp
        go_wp2
        go_ret
        exact ⟨⟨_, rfl⟩, hb⟩
      · have hxb : (x.pl == p) = false := beq_false_of_ne hxp
        go_wp2
        go_roundw
        case rel => exact ⟨i + 1, by go_num, by omega, hb⟩
        case measure => simp [intOf]; omega
    · go_wp2
      go_ret
      exact ⟨⟨_, rfl⟩, hb⟩
/-- What the draw of Leafs alone leaves. -/
def LfD (w : World) (e : Ending) (w' : World) : Prop := ∃ u es, e = .returned u ∧ RdL w' u es ∧ es.length ≤ 257 ∧ Below w.heap.size w w'
set_option maxHeartbeats 2000000 in
set_option maxRecDepth 100000 in
theorem drawLeavesOk_any (v : Value) (bs : List UInt8) (w : World) (hr : Rd w v bs) (hb : bs.length ≤ 4096) :
    Calls Tryd.prog 48 #[v] w fun e w' => LfD w e w' := by
  go_enter Tryd.func48, Tryd.ntmps48
  go_wp2_with fail
  refine (l1New_any v bs _ hr hb).mono ?_
  rintro e w1 ⟨g, rfl, hc⟩
  go_wp2_with fail
  refine (l12Draw_any w _ g hc).mono ?_
  rintro e w2 ⟨u, es, rfl, ho, hl, K⟩
  have HE : Hid (LfD w (.returned u) w2) := ⟨u, es, rfl, ho.rd, hl, K.1.bel⟩
  clear ho K hc
  go_wp2
  go_ret
  exact HE.out
set_option maxHeartbeats 2000000 in
set_option maxRecDepth 100000 in
theorem drawPeak_any (v : Value) (bs : List UInt8) (w : World) (hr : Rd w v bs) (hb : bs.length ≤ 4096) :
    Calls Tryd.prog 12 #[v] w fun e w' => LfD w e w' := by
  go_enter Tryd.func12, Tryd.ntmps12
  go_wp2_with fail
  refine (drawLeavesOk_any v bs _ hr hb).mono ?_
  rintro e w2 ⟨u, es, rfl, ho, hl, hb2⟩
  have HE : Hid (LfD w (.returned u) w2) := ⟨u, es, rfl, ho, hl, hb2⟩
  clear ho hb2
  go_wp2
  go_ret
  exact HE.out
/-- What the draw of what Way is asked leaves. -/
def WayD (w : World) (e : Ending) (w' : World) : Prop := ∃ (u : Value) (es : List Lef) (p : Int), e = .returned (.tuple #[u, .int .i64 p]) ∧ RdL w' u es ∧ Below w.heap.size w w'
set_option maxHeartbeats 2000000 in
set_option maxRecDepth 100000 in
theorem drawWay_any (v : Value) (bs : List UInt8) (w : World) (hr : Rd w v bs) (hb : bs.length ≤ 4096) :
    Calls Tryd.prog 13 #[v] w fun e w' => WayD w e w' := by
  go_enter Tryd.func13, Tryd.ntmps13
  go_wp2_with fail
  refine (l1New_any v bs _ hr hb).mono ?_
  rintro e w1 ⟨g, rfl, hc⟩
  have hgl := hc.lt
  go_wp2_with fail
  refine (l12Draw_any w _ g hc).mono ?_
  rintro e w2 ⟨u, es, rfl, ho, hl, K⟩
  clear hc hr
  go_wp2_with fail
  refine (l12DrawAt_any w _ g K.1).mono ?_
  rintro e w3 ⟨p, rfl, hp, K1⟩
  replace ho := ownL_g ho K1.2.1 hgl
  have HE : WayD w (.returned (.tuple #[u, .int .i64 p])) w3 := ⟨u, es, p, rfl, ho.rd, K1.1.bel⟩
  clear ho K K1
  go_wp2
  refine bodyPost_ret ?_ rfl HE
  simp [results, Tryd.results13, go_sem]
/-- What the draw of what Holds is asked leaves. -/
def HldD (w : World) (e : Ending) (w' : World) : Prop := ∃ (q p v : Int) (wv : Value) (ws : List Int), e = .returned (.tuple #[.int .i64 q, .int .i64 p, .int .i64 v, wv]) ∧ RdI w' wv ws ∧ (∀ j, I64 (ws.getD j 0)) ∧ Below w.heap.size w w'
set_option maxHeartbeats 8000000 in
set_option maxRecDepth 100000 in
theorem drawHolds_any (v : Value) (bs : List UInt8) (w : World) (hr : Rd w v bs) (hb : bs.length ≤ 4096) :
    Calls Tryd.prog 10 #[v] w fun e w' => HldD w e w' := by
  go_enter Tryd.func10, Tryd.ntmps10
  go_wp2_with fail
  refine (l1New_any v bs _ hr hb).mono ?_
  rintro e w1 ⟨g, rfl, hc⟩
  have hgl := hc.lt
  go_wp2_with fail
  refine (l12Draw_any w _ g hc).mono ?_
  rintro e w2 ⟨u, es, rfl, ho, hl, K⟩
  clear hc hr
  go_wp2_with fail
  refine (l12DrawAt_any w _ g K.1).mono ?_
  rintro e w3 ⟨p, rfl, hp, K1⟩
  replace ho := ownL_g ho K1.2.1 hgl
  replace K := K.own K1.1 K1.2.1
  clear K1
  go_wp2_with fail
  refine (specWay_any _ es p _ ho.rd).mono ?_
  rintro e w4 ⟨wv, rfl, hwv, hb4⟩
  have hg3 : g < w3.heap.size := K.1.lt
  have h13 := K.2.1.size
  replace K := keepL_below K hb4
  replace ho := ho.below hb4
  have HI : Hid (∀ y ∈ wayR es p, I64 y) := wayR_i64 es p
  have hls : (wayR es p).length ≤ 8 := wayR_short es p
  generalize wayR es p = ws at hwv HI hls
  have HW : Hid (∀ j, I64 (ws.getD j 0)) := fun j => getD_i64 HI.out j
  clear hb4
  go_wp2_with fail
  refine (l12At_any _ es p _ ho.rd).mono ?_
  rintro e w5 ⟨⟨z, rfl⟩, hb5⟩
  replace K := keepL_below K hb5
  replace ho := ho.below hb5
  replace hwv := OwnI.below hwv hb5
  clear hb5
  go_wp2_with fail
  refine (specPeak_any _ es _ ho.rd).mono ?_
  rintro e w6 ⟨rfl, hb6⟩
  replace K := keepL_below K hb6
  replace hwv := OwnI.below hwv hb6
  clear hb6 ho
  generalize (if lefOk es = true then peakL es else -1) = pk
  obtain ⟨ya, yc, hyv, hyc, hym, -⟩ := hwv.rd
  unfold maxLen at hym
  obtain ⟨yn, hyn⟩ : ∃ n, n = ws.length := ⟨_, rfl⟩
  have HYN : Hid (yn = ws.length) := hyn
  rw [← hyn] at hyv hyc hls
  subst hyv
  clear hyn
  have HEND : Hid (∀ (us : List Int) (W : World) (x : Int), RdI W (.slice ya yn yc) us → (∀ j, I64 (us.getD j 0)) → DCur w W g → HldD w (.returned (.tuple #[.int .i64 pk, .int .i64 p, .int .i64 x, .slice ya yn yc])) W) := fun us W x h2 h3 h4 => ⟨pk, p, x, _, us, rfl, h2, h3, h4.bel⟩
  go_wp2_with fail
  refine (l1Once_any w _ g 3 K.1 (by omega) (by omega)).mono ?_
  rintro e w7 ⟨b1, rfl, hc, hg⟩
  replace K := K.own hc hg
  replace hwv := ownI_g hwv hg hg3
  clear hc hg
  cases b1 with
  | false =>
    go_wp2_with fail
    refine (l1Once_any w _ g 12 K.1 (by omega) (by omega)).mono ?_
    rintro e w9 ⟨b2, rfl, hc, hg⟩
    replace K := K.own hc hg
    replace hwv := ownI_g hwv hg hg3
    clear hc hg
    have HE0 := HEND.out ws w9 z hwv.rd HW.out K.1
    cases b2 with
    | false =>
      clear hwv K
      go_wp2
      refine bodyPost_ret ?_ rfl HE0
      simp [results, Tryd.results10, go_sem]
    | true =>
      by_cases hyp : 0 < yn
      · clear HE0
        have hypI : (0 : Int) < (yn : Int) := by omega
        obtain ⟨qg, rfl⟩ := ownI_head hwv hyp
        have hqg := (World.ownsRow.lt hwv qg rfl).1
        go_wp2_with fail
        refine (l1Below_any w _ g (yn : Int) K.1 (by omega) (by omega)).mono ?_
        rintro e wA ⟨j, rfl, hj0, hj1, hc, hg⟩
        replace K := K.own hc hg
        replace hwv := ownI_g hwv hg hg3
        clear hc hg
        obtain ⟨j, rfl⟩ := Int.eq_ofNat_of_zero_le hj0
        have hjl : j < yn := by omega
        go_wp2_with fail
        refine (l1Below_any w _ g 99 K.1 (by omega) (by omega)).mono ?_
        rintro e wB ⟨y2, rfl, hz0, hz1, hc, hg⟩
        replace K := K.own hc hg
        replace hwv := ownI_g hwv hg hg3
        clear hc hg
        obtain ⟨cb, co, hce, d0⟩ := hwv.rd.at j (by have := HYN.out; omega)
        injection hce with hce
        injection hce with hc1 hc2 hc3
        subst hc1
        subst hc2
        rw [Nat.zero_add] at d0
        have d1 : ∃ y : Int, wB.cell? ⟨qg, j, none⟩ = some (.int .i64 y) := ⟨_, d0⟩
        obtain ⟨c0, d0⟩ := d1
        have hos := hwv
        unfold OwnI at hos
        rw [← HYN.out] at hos
        have f0 := World.ownsRow.frozenAt hos j
        have ho9 : OwnI (wB.setCell ⟨qg, j, none⟩ (.int .i64 y2)) w3.heap.size (.slice (some ⟨qg, 0, none⟩) yn yc) (ws.set j y2) := by
          have h := (hos.stored j (.int .i64 y2)).1
          unfold OwnI
          rw [List.length_set, ← HYN.out, show IV (ws.set j y2) = (IV ws).set j (.int .i64 y2) by simp [IV, List.map_set]]
          exact h
        have K9 := keepL_set (b := qg) (j := j) (u := .int .i64 y2) K (by omega)
        have HE := HEND.out (ws.set j y2) _ z ho9.rd (fun k => getD_i64 (fun y hy => by rcases List.mem_or_eq_of_mem_set hy with h | h; exact HI.out y h; rw [h]; exact ⟨by omega, by omega⟩) k) K9.1
        clear hwv hos K K9 ho9
        go_wp2
        refine bodyPost_ret ?_ rfl HE
        simp [results, Tryd.results10, go_sem]
      · have hy0 : yn = 0 := by omega
        subst hy0
        clear hwv K
        go_wp2
        refine bodyPost_ret ?_ rfl HE0
        simp [results, Tryd.results10, go_sem]
  | true =>
    go_wp2_with fail
    refine (l12DrawValue_any w _ g K.1).mono ?_
    rintro e w8 ⟨y, rfl, hy, K1⟩
    replace hwv := ownI_g hwv K1.2.1 hg3
    replace K := K.own K1.1 K1.2.1
    clear K1 hy
    go_wp2_with fail
    refine (l1Once_any w _ g 12 K.1 (by omega) (by omega)).mono ?_
    rintro e w9 ⟨b2, rfl, hc, hg⟩
    replace K := K.own hc hg
    replace hwv := ownI_g hwv hg hg3
    clear hc hg
    have HE0 := HEND.out ws w9 y hwv.rd HW.out K.1
    cases b2 with
    | false =>
      clear hwv K
      go_wp2
      refine bodyPost_ret ?_ rfl HE0
      simp [results, Tryd.results10, go_sem]
    | true =>
      by_cases hyp : 0 < yn
      · clear HE0
        have hypI : (0 : Int) < (yn : Int) := by omega
        obtain ⟨qg, rfl⟩ := ownI_head hwv hyp
        have hqg := (World.ownsRow.lt hwv qg rfl).1
        go_wp2_with fail
        refine (l1Below_any w _ g (yn : Int) K.1 (by omega) (by omega)).mono ?_
        rintro e wA ⟨j, rfl, hj0, hj1, hc, hg⟩
        replace K := K.own hc hg
        replace hwv := ownI_g hwv hg hg3
        clear hc hg
        obtain ⟨j, rfl⟩ := Int.eq_ofNat_of_zero_le hj0
        have hjl : j < yn := by omega
        go_wp2_with fail
        refine (l1Below_any w _ g 99 K.1 (by omega) (by omega)).mono ?_
        rintro e wB ⟨y2, rfl, hz0, hz1, hc, hg⟩
        replace K := K.own hc hg
        replace hwv := ownI_g hwv hg hg3
        clear hc hg
        obtain ⟨cb, co, hce, d0⟩ := hwv.rd.at j (by have := HYN.out; omega)
        injection hce with hce
        injection hce with hc1 hc2 hc3
        subst hc1
        subst hc2
        rw [Nat.zero_add] at d0
        have d1 : ∃ y : Int, wB.cell? ⟨qg, j, none⟩ = some (.int .i64 y) := ⟨_, d0⟩
        obtain ⟨c0, d0⟩ := d1
        have hos := hwv
        unfold OwnI at hos
        rw [← HYN.out] at hos
        have f0 := World.ownsRow.frozenAt hos j
        have ho9 : OwnI (wB.setCell ⟨qg, j, none⟩ (.int .i64 y2)) w3.heap.size (.slice (some ⟨qg, 0, none⟩) yn yc) (ws.set j y2) := by
          have h := (hos.stored j (.int .i64 y2)).1
          unfold OwnI
          rw [List.length_set, ← HYN.out, show IV (ws.set j y2) = (IV ws).set j (.int .i64 y2) by simp [IV, List.map_set]]
          exact h
        have K9 := keepL_set (b := qg) (j := j) (u := .int .i64 y2) K (by omega)
        have HE := HEND.out (ws.set j y2) _ y ho9.rd (fun k => getD_i64 (fun y hy => by rcases List.mem_or_eq_of_mem_set hy with h | h; exact HI.out y h; rw [h]; exact ⟨by omega, by omega⟩) k) K9.1
        clear hwv hos K K9 ho9
        go_wp2
        refine bodyPost_ret ?_ rfl HE
        simp [results, Tryd.results10, go_sem]
      · have hy0 : yn = 0 := by omega
        subst hy0
        clear hwv K
        go_wp2
        refine bodyPost_ret ?_ rfl HE0
        simp [results, Tryd.results10, go_sem]
end Go.Proofs.YtmfopbkhlekhkaaDoor
