/- The contracts of the law's marking of Votes, and of finding the marks again; Votes that came in as an argument. The contracts of the law's marking of Newss, and of finding the marks again; Newss that came in as an argument. A Replica that came in as an argument. -/
import Derived.Test.YtilhaokiohbeeaaGreatDoorG08
import Derived.OpenShut
import Derived.Deep.Slices
import Derived.ChangeArms
import Derived.Test.YtilhaokiohbeeaaGreatDoorNwsCp
import Derived.Test.YtilhaokiohbeeaaGreatDoorRepCp
-- UNF Gen
namespace Go.Proofs.YtilhaokiohbeeaaGreatDoor
open Go.RowKit Go.ChangeShapes Go.WideShapes
/-- The law's mark number k, as a Vote. -/
def vomk (k : Nat) : Vot := ⟨(k : Int), (k : Int) + 1, (k : Int) + 2, (k : Int) + 3⟩
def vomarks (k n : Nat) : List Vot := (List.range n).map fun i => vomk (k + 4 * i)
theorem vomarks_length (k n : Nat) : (vomarks k n).length = n := by simp [vomarks]
theorem vomarks_succ (k n : Nat) : vomarks k (n + 1) = vomarks k n ++ [vomk (k + 4 * n)] := by simp [vomarks, List.range_succ]
theorem vomarks_nth (k n i : Nat) (h : i < n) : nthVo (vomarks k n) i = vomk (k + 4 * i) := by
  rw [nthVo_eq (by rw [vomarks_length]; exact h)]; simp [vomarks]
theorem vomark_step (k i : Nat) (bs : List Vot) (h : i < bs.length) : (vomarks k i ++ bs.drop i).set i (vomk (k + 4 * i)) = vomarks k (i + 1) ++ bs.drop (i + 1) := by
  rw [vomarks_succ, List.set_append_right _ _ (by rw [vomarks_length]; omega), vomarks_length, Nat.sub_self, List.drop_eq_getElem_cons h, List.set_cons_zero]
  simp
theorem vogrown_set {w w1 : World} {g : Nat} {u : Value} {j : Nat} (hg : w.grownBy w1 (some g)) : w.grownBy (w1.setCell ⟨g, j, none⟩ u) (some g) :=
  ⟨hg.os, hg.tape, hg.output, by simpa using hg.size, fun k hk hn => (heap_setCell_other w1 ⟨g, j, none⟩ k u (fun e => hn (by simp [e]))).trans (hg.block k hk hn)⟩
theorem vogrown_one (a : World) (row : Option Nat) : a.grownBy a row := ⟨rfl, rfl, rfl, Nat.le_refl _, fun _ _ _ => rfl⟩
set_option maxHeartbeats 4000000 in
set_option maxRecDepth 100000 in
theorem vomark_any (v : Value) (bs : List Vot) (base k : Nat) (w : World) (hk : k + 4 * bs.length ≤ 1073741824) (hown : OwnVo w base v bs) :
    Calls Tryz.prog 122 #[v, .int .i64 k] w fun e w' => e = .returned (.int .i64 ((k + 4 * bs.length : Nat) : Int)) ∧ OwnVo w' base v (vomarks k bs.length) ∧ w.grownBy w' v.ownBlock := by
  obtain ⟨g, cap, hv⟩ | ⟨hv, h0⟩ : (∃ g cap, v = .slice (some ⟨g, 0, none⟩) bs.length cap) ∨ (v = .slice none 0 0 ∧ bs = []) := by
    rcases hown.2 with ⟨rfl, h0⟩ | ⟨g, cap, cur, rfl, _⟩
    · exact .inr ⟨rfl, List.length_eq_zero_iff.1 h0⟩
    · exact .inl ⟨g, cap, rfl⟩
  · subst hv
    go_enter Tryz.func122, Tryz.ntmps122
    go_wp2
    go_loopw [1, 5] (fun kk i wr => ∃ j : Nat, j ≤ bs.length ∧ i = .int .i64 j ∧ kk = .int .i64 ((k : Int) + 4 * (j : Int)) ∧ OwnVo wr base (.slice (some ⟨g, 0, none⟩) bs.length cap) (vomarks k j ++ bs.drop j) ∧ w.grownBy wr (some g)) (fun _ i _ => bs.length - (intOf i).toNat)
    case atStart => exact ⟨0, Nat.zero_le _, rfl, by simp, by simpa [vomarks] using hown, vogrown_one _ _⟩
    case round =>
      obtain ⟨j, hj, rfl, rfl, ho, hg⟩ := hrel
      have hlen : (vomarks k j ++ bs.drop j).length = bs.length := by simp [vomarks_length]; omega
      by_cases hlt : j < bs.length
      · have ho1 : wr.ownsRow base 36 4 (.slice (some ⟨g, 0, none⟩) bs.length cap) bs.length (VoV (vomarks k j ++ bs.drop j)) := by have h := ho; unfold OwnVo at h; rwa [hlen] at h
        obtain ⟨d0, d1, d2, d3⟩ := ownVo_cell ho1 hlen.symm j hlt
        have f0 := ho1.frozenAt (j * 4)
        have f1 := ho1.frozenAt (j * 4 + 1)
        have f2 := ho1.frozenAt (j * 4 + 2)
        have f3 := ho1.frozenAt (j * 4 + 3)
        have R1 := ownVo_store2 ho1 (k := j) (by omega) (vomk (k + 4 * j))
        rw [vomark_step k j bs hlt] at R1
        have R2 : Hid (World.ownsRow ((((wr.setCell ⟨g, j * 4, none⟩ (.int .i64 ((k : Int) + 4 * (j : Int)))).setCell ⟨g, j * 4 + 1, none⟩ (.int .i64 ((k : Int) + 4 * (j : Int) + 1))).setCell ⟨g, j * 4 + 2, none⟩ (.int .i64 ((k : Int) + 4 * (j : Int) + 2))).setCell ⟨g, j * 4 + 3, none⟩ (.int .i64 ((k : Int) + 4 * (j : Int) + 3))) base 36 4 (.slice (some ⟨g, 0, none⟩) bs.length cap) bs.length (VoV (vomarks k (j + 1) ++ bs.drop (j + 1)))) := by
          unfold Hid
          have e : ((k + 4 * j : Nat) : Int) = (k : Int) + 4 * (j : Int) := by omega
          have h := R1
          simp only [vomk] at h
          rw [e] at h
          exact h
        have hl5 : (vomarks k (j + 1) ++ bs.drop (j + 1)).length = bs.length := by simp [vomarks_length]; omega
        have e1 : IntKind.i64.wrap ((k : Int) + 4 * (j : Int) + 1) = (k : Int) + 4 * (j : Int) + 1 := by rw [IntKind.wrap_i64]; omega
        have e2 : IntKind.i64.wrap ((k : Int) + 4 * (j : Int) + 2) = (k : Int) + 4 * (j : Int) + 2 := by rw [IntKind.wrap_i64]; omega
        have e3 : IntKind.i64.wrap ((k : Int) + 4 * (j : Int) + 3) = (k : Int) + 4 * (j : Int) + 3 := by rw [IntKind.wrap_i64]; omega
        have w1 : (k : Int) + 4 * (j : Int) + 1 + 1 = (k : Int) + 4 * (j : Int) + 2 := by omega
        have w2 : (k : Int) + 4 * (j : Int) + 2 + 1 = (k : Int) + 4 * (j : Int) + 3 := by omega
        clear ho ho1 R1
        go_wp2
        go_roundw
        case rel => exact ⟨j + 1, by omega, by go_num, by go_num, by unfold OwnVo; rw [hl5]; exact R2.out, vogrown_set (vogrown_set (vogrown_set (vogrown_set hg)))⟩
        case measure => simp [intOf]; omega
      · have hje : j = bs.length := by omega
        subst hje
        go_wp2
        go_ret
        exact ⟨ret_intE (by omega), by simpa using ho, hg⟩
  · subst hv
    subst h0
    go_enter Tryz.func122, Tryz.ntmps122
    go_wp2
    refine wp_loop_rounds 1 ?_
    rw [rounds_succ]
    go_wp2
    go_ret
    exact ⟨rfl, hown, vogrown_one _ _⟩
set_option maxHeartbeats 4000000 in
set_option maxRecDepth 100000 in
theorem voheld_any (v : Value) (n k : Nat) (w : World) (hk : k + 4 * n ≤ 1073741824) (hr : RdVo w v (vomarks k n)) :
    Calls Tryz.prog 129 #[v, .int .i64 k] w fun e w' => e = .returned (.int .i64 ((k + 4 * n : Nat) : Int)) ∧ w' = w := by
  obtain ⟨a, cap, hv, hl, hm, _⟩ := id hr
  rw [vomarks_length] at hv hl
  unfold maxLen at hm
  subst hv
  go_enter Tryz.func129, Tryz.ntmps129
  go_wp2
  go_loopw [1, 5] (fun kk i wr => ∃ j : Nat, j ≤ n ∧ i = .int .i64 j ∧ kk = .int .i64 ((k : Int) + 4 * (j : Int)) ∧ wr = w) (fun _ i _ => n - (intOf i).toNat)
  case atStart => exact ⟨0, Nat.zero_le _, rfl, by simp, rfl⟩
  case round =>
    obtain ⟨j, hj, rfl, rfl, rfl⟩ := hrel
    by_cases hlt : j < n
    · obtain ⟨b, off, rfl, hc⟩ := hr.at (vomarks_length k n).symm j (by rw [vomarks_length]; exact hlt)
      rw [vomarks_nth k n j hlt] at hc
      obtain ⟨c0, c1, c2, c3⟩ := hc
      change _ = some (Value.int .i64 ((k + 4 * j : Nat) : Int)) at c0
      change _ = some (Value.int .i64 (((k + 4 * j : Nat) : Int) + 1)) at c1
      change _ = some (Value.int .i64 (((k + 4 * j : Nat) : Int) + 2)) at c2
      change _ = some (Value.int .i64 (((k + 4 * j : Nat) : Int) + 3)) at c3
      rw [show ((k + 4 * j : Nat) : Int) = (k : Int) + 4 * (j : Int) by omega] at c0 c1 c2 c3
      have hjl : (j : Int) < (n : Int) := by omega
      have e1 : IntKind.i64.wrap ((k : Int) + 4 * (j : Int) + 1) = (k : Int) + 4 * (j : Int) + 1 := by rw [IntKind.wrap_i64]; omega
      have e2 : IntKind.i64.wrap ((k : Int) + 4 * (j : Int) + 2) = (k : Int) + 4 * (j : Int) + 2 := by rw [IntKind.wrap_i64]; omega
      have e3 : IntKind.i64.wrap ((k : Int) + 4 * (j : Int) + 3) = (k : Int) + 4 * (j : Int) + 3 := by rw [IntKind.wrap_i64]; omega
      have w1 : (k : Int) + 4 * (j : Int) + 1 + 1 = (k : Int) + 4 * (j : Int) + 2 := by omega
      have w2 : (k : Int) + 4 * (j : Int) + 2 + 1 = (k : Int) + 4 * (j : Int) + 3 := by omega
      have n0 : (((k : Int) + 4 * (j : Int)) != ((k : Int) + 4 * (j : Int))) = false := by simp
      have n1 : (((k : Int) + 4 * (j : Int) + 1) != ((k : Int) + 4 * (j : Int) + 1)) = false := by simp
      have n2 : (((k : Int) + 4 * (j : Int) + 2) != ((k : Int) + 4 * (j : Int) + 2)) = false := by simp
      have n3 : (((k : Int) + 4 * (j : Int) + 3) != ((k : Int) + 4 * (j : Int) + 3)) = false := by simp
      go_wp2
      go_roundw
      case rel => exact ⟨j + 1, by omega, by go_num, by go_num, by simp⟩
      case measure => simp [intOf]; omega
    · have hje : j = n := by omega
      subst hje
      go_wp2
      go_ret
      exact ⟨ret_intE (by omega), rfl⟩
theorem vomarkZ (v : Value) (bs : List Vot) (base k : Nat) (z : Int) (w : World) (hz : z = (k : Int)) (hk : k + 4 * bs.length ≤ 1073741824) (hown : OwnVo w base v bs) :
    Calls Tryz.prog 122 #[v, .int .i64 z] w fun e w' => e = .returned (.int .i64 (z + 4 * (bs.length : Int))) ∧ OwnVo w' base v (vomarks k bs.length) ∧ w.grownBy w' v.ownBlock := by
  subst hz
  have h := vomark_any v bs base k w hk hown
  rwa [show ((k + 4 * bs.length : Nat) : Int) = (k : Int) + 4 * (bs.length : Int) by omega] at h
theorem voheldZ (v : Value) (n k : Nat) (z : Int) (w : World) (hz : z = (k : Int)) (hk : k + 4 * n ≤ 1073741824) (hr : RdVo w v (vomarks k n)) :
    Calls Tryz.prog 129 #[v, .int .i64 z] w fun e w' => e = .returned (.int .i64 (z + 4 * (n : Int))) ∧ Below w.heap.size w w' := by
  subst hz
  have h := voheld_any v n k w hk hr
  rw [show ((k + 4 * n : Nat) : Int) = (k : Int) + 4 * (n : Int) by omega] at h
  exact h.mono fun e w' ⟨a, b⟩ => ⟨a, by rw [b]; exact Below.refl _ _⟩
theorem volit {n : Int} (h : (Lit.int .i64 n).wf = true) : -9223372036854775808 ≤ n ∧ n ≤ 9223372036854775807 := bounds_i64 h
theorem cellsVo2 : Tryz.prog.cellsOf 2 = 1 := by kernel_rfl
theorem cells90 : Tryz.prog.cellsOf 90 = 4 := by kernel_rfl
set_option maxRecDepth 100000 in
theorem open_vote {H : Type} {enc : TypeId × Value → H} {w : World} {base : Nat} {spare : Nat → Bool} {held : Bool} {fuel : Nat} {cs : List Value} {x : DataW H × List MemPlace} (h : DataW.trod enc Tryz.prog w base spare held fuel 90 cs = some x) :
    ∃ e : Vot, cs = VoC e ∧ FitVo e := by
  obtain ⟨xs, n, _, _, hl, hxl, hf⟩ := DataW.trod_struct Tryz.underlying90 h
  rw [cells90] at hl
  match xs, hxl, cs, hl with
  | [y0, y1, y2, y3], _, [v0, v1, v2, v3], _ =>
    have g0 := hf 0 _ rfl
    have g1 := hf 1 _ rfl
    have g2 := hf 2 _ rfl
    have g3 := hf 3 _ rfl
    simp [cellsVo2] at g0 g1 g2 g3
    obtain ⟨n0, h0, _, z0⟩ := DataW.trod_int Tryz.underlying2 g0
    obtain ⟨n1, h1, _, z1⟩ := DataW.trod_int Tryz.underlying2 g1
    obtain ⟨n2, h2, _, z2⟩ := DataW.trod_int Tryz.underlying2 g2
    obtain ⟨n3, h3, _, z3⟩ := DataW.trod_int Tryz.underlying2 g3
    simp only [List.cons.injEq, and_true] at h0 h1 h2 h3
    subst h0 h1 h2 h3
    exact ⟨⟨n0, n1, n2, n3⟩, rfl, volit z0, volit z1, volit z2, volit z3⟩
/-- A slice of Votes that came in. -/
theorem open_votes {H : Type} {enc : TypeId × Value → H} {w : World} {held : Bool} {v : Value} {d : DataW H} {ps : List MemPlace} (h : DataW.Trod enc Tryz.prog w 0 (fun _ => true) held 84 v d ps) (hv : ∃ a len cap, v = .slice a len cap) :
    ∃ es, RdVo w v es ∧ ∀ e ∈ es, FitVo e := by
  obtain ⟨fuel, hf⟩ := h
  obtain ⟨a0, len0, cap0, rfl⟩ := hv
  rcases Deep.open_slice Tryz.underlying84 hf with ⟨hcs, _⟩ | ⟨a, len, cap, m, n, D, Pl, hcs, _, hl, hm, hmm, _, hx⟩
  · simp [Value.cells] at hcs
    obtain ⟨rfl, rfl, rfl⟩ := hcs
    exact ⟨[], rdVo_nil w, fun e he => by cases he⟩
  · simp [Value.cells] at hcs
    obtain ⟨rfl, rfl, rfl⟩ := hcs
    simp only [if_true] at hmm
    subst hmm
    have each : ∀ i, i < m → ∃ e : Vot, w.cells? 0 (a.add (i * 4)) 4 = some (VoC e) ∧ FitVo e := by
      intro i hi
      obtain ⟨cs', h1, h2⟩ := hx i hi
      rw [cells90] at h1
      obtain ⟨e, rfl, he⟩ := open_vote h2
      exact ⟨e, h1, he⟩
    obtain ⟨q, hq⟩ := Deep.choose_lt each
    obtain ⟨b, off, spot⟩ := a
    refine ⟨(List.range len0).map q, ⟨some ⟨b, off, spot⟩, m, by simp, by simpa using hl, hm, (fun h => by cases h), ?_⟩, fun e he => by
      simp only [List.mem_map, List.mem_range] at he
      obtain ⟨i, hi, rfl⟩ := he
      exact (hq i (by omega)).2⟩
    by_cases h0 : len0 = 0
    · left; simp [h0]
    · right
      obtain ⟨_, _, hc0⟩ := World.cells?_some (hq 0 (by omega)).1
      have hc00 := hc0 0 (by omega)
      rw [Deep.add_add] at hc00
      have hc01 : w.cell? ((⟨b, off, spot⟩ : Addr).add 0) = some (.int .i64 (q 0).vw) := hc00
      have hspot : spot = none := by
        have := World.cell?_spot hc01
        cases spot with
        | none => rfl
        | some sp => simp [Addr.add] at this
      subst hspot
      refine ⟨b, off, rfl, fun i hi => ?_⟩
      have hi' : i < len0 := by simpa using hi
      have hn : nthVo ((List.range len0).map q) i = q i := by rw [nthVo_eq hi]; simp
      rw [hn]
      obtain ⟨_, _, hc⟩ := World.cells?_some (hq i (by omega)).1
      have c0 := hc 0 (by omega)
      have c1 := hc 1 (by omega)
      have c2 := hc 2 (by omega)
      have c3 := hc 3 (by omega)
      rw [Deep.add_add, Addr.add_lit] at c0 c1 c2 c3
      exact ⟨by simpa [VoC] using c0, by simpa [VoC, Nat.add_assoc] using c1, by simpa [VoC, Nat.add_assoc] using c2, by simpa [VoC, Nat.add_assoc] using c3⟩
end Go.Proofs.YtilhaokiohbeeaaGreatDoor
-- UNF Gen
namespace Go.Proofs.YtilhaokiohbeeaaGreatDoor
open Go.RowKit Go.ChangeShapes Go.WideShapes
/-- The law's mark number k, as a News. -/
def nwmk (k : Nat) : Nws := ⟨(k : Int), (k : Int) + 1⟩
def nwmarks (k n : Nat) : List Nws := (List.range n).map fun i => nwmk (k + 2 * i)
theorem nwmarks_length (k n : Nat) : (nwmarks k n).length = n := by simp [nwmarks]
theorem nwmarks_succ (k n : Nat) : nwmarks k (n + 1) = nwmarks k n ++ [nwmk (k + 2 * n)] := by simp [nwmarks, List.range_succ]
theorem nwmarks_nth (k n i : Nat) (h : i < n) : nthNw (nwmarks k n) i = nwmk (k + 2 * i) := by
  rw [nthNw_eq (by rw [nwmarks_length]; exact h)]; simp [nwmarks]
theorem nwmark_step (k i : Nat) (bs : List Nws) (h : i < bs.length) : (nwmarks k i ++ bs.drop i).set i (nwmk (k + 2 * i)) = nwmarks k (i + 1) ++ bs.drop (i + 1) := by
  rw [nwmarks_succ, List.set_append_right _ _ (by rw [nwmarks_length]; omega), nwmarks_length, Nat.sub_self, List.drop_eq_getElem_cons h, List.set_cons_zero]
  simp
theorem nwgrown_set {w w1 : World} {g : Nat} {u : Value} {j : Nat} (hg : w.grownBy w1 (some g)) : w.grownBy (w1.setCell ⟨g, j, none⟩ u) (some g) :=
  ⟨hg.os, hg.tape, hg.output, by simpa using hg.size, fun k hk hn => (heap_setCell_other w1 ⟨g, j, none⟩ k u (fun e => hn (by simp [e]))).trans (hg.block k hk hn)⟩
theorem nwgrown_one (a : World) (row : Option Nat) : a.grownBy a row := ⟨rfl, rfl, rfl, Nat.le_refl _, fun _ _ _ => rfl⟩
set_option maxHeartbeats 4000000 in
set_option maxRecDepth 100000 in
theorem nwmark_any (v : Value) (bs : List Nws) (base k : Nat) (w : World) (hk : k + 2 * bs.length ≤ 1073741824) (hown : OwnNw w base v bs) :
    Calls Tryz.prog 123 #[v, .int .i64 k] w fun e w' => e = .returned (.int .i64 ((k + 2 * bs.length : Nat) : Int)) ∧ OwnNw w' base v (nwmarks k bs.length) ∧ w.grownBy w' v.ownBlock := by
  obtain ⟨g, cap, hv⟩ | ⟨hv, h0⟩ : (∃ g cap, v = .slice (some ⟨g, 0, none⟩) bs.length cap) ∨ (v = .slice none 0 0 ∧ bs = []) := by
    rcases hown.2 with ⟨rfl, h0⟩ | ⟨g, cap, cur, rfl, _⟩
    · exact .inr ⟨rfl, List.length_eq_zero_iff.1 h0⟩
    · exact .inl ⟨g, cap, rfl⟩
  · subst hv
    go_enter Tryz.func123, Tryz.ntmps123
    go_wp2
    go_loopw [1, 5] (fun kk i wr => ∃ j : Nat, j ≤ bs.length ∧ i = .int .i64 j ∧ kk = .int .i64 ((k : Int) + 2 * (j : Int)) ∧ OwnNw wr base (.slice (some ⟨g, 0, none⟩) bs.length cap) (nwmarks k j ++ bs.drop j) ∧ w.grownBy wr (some g)) (fun _ i _ => bs.length - (intOf i).toNat)
    case atStart => exact ⟨0, Nat.zero_le _, rfl, by simp, by simpa [nwmarks] using hown, nwgrown_one _ _⟩
    case round =>
      obtain ⟨j, hj, rfl, rfl, ho, hg⟩ := hrel
      have hlen : (nwmarks k j ++ bs.drop j).length = bs.length := by simp [nwmarks_length]; omega
      by_cases hlt : j < bs.length
      · have ho1 : wr.ownsRow base 128 2 (.slice (some ⟨g, 0, none⟩) bs.length cap) bs.length (NwV (nwmarks k j ++ bs.drop j)) := by have h := ho; unfold OwnNw at h; rwa [hlen] at h
        obtain ⟨d0, d1⟩ := ownNw_cell ho1 hlen.symm j hlt
        have f0 := ho1.frozenAt (j * 2)
        have f1 := ho1.frozenAt (j * 2 + 1)
        have R1 := ownNw_store2 ho1 (k := j) (by omega) (nwmk (k + 2 * j))
        rw [nwmark_step k j bs hlt] at R1
        have R2 : Hid (World.ownsRow ((wr.setCell ⟨g, j * 2, none⟩ (.int .i64 ((k : Int) + 2 * (j : Int)))).setCell ⟨g, j * 2 + 1, none⟩ (.int .i64 ((k : Int) + 2 * (j : Int) + 1))) base 128 2 (.slice (some ⟨g, 0, none⟩) bs.length cap) bs.length (NwV (nwmarks k (j + 1) ++ bs.drop (j + 1)))) := by
          unfold Hid
          have e : ((k + 2 * j : Nat) : Int) = (k : Int) + 2 * (j : Int) := by omega
          have h := R1
          simp only [nwmk] at h
          rw [e] at h
          exact h
        have hl5 : (nwmarks k (j + 1) ++ bs.drop (j + 1)).length = bs.length := by simp [nwmarks_length]; omega
        have e1 : IntKind.i64.wrap ((k : Int) + 2 * (j : Int) + 1) = (k : Int) + 2 * (j : Int) + 1 := by rw [IntKind.wrap_i64]; omega
        clear ho ho1 R1
        go_wp2
        go_roundw
        case rel => exact ⟨j + 1, by omega, by go_num, by go_num, by unfold OwnNw; rw [hl5]; exact R2.out, nwgrown_set (nwgrown_set hg)⟩
        case measure => simp [intOf]; omega
      · have hje : j = bs.length := by omega
        subst hje
        go_wp2
        go_ret
        exact ⟨ret_intE (by omega), by simpa using ho, hg⟩
  · subst hv
    subst h0
    go_enter Tryz.func123, Tryz.ntmps123
    go_wp2
    refine wp_loop_rounds 1 ?_
    rw [rounds_succ]
    go_wp2
    go_ret
    exact ⟨rfl, hown, nwgrown_one _ _⟩
set_option maxHeartbeats 4000000 in
set_option maxRecDepth 100000 in
theorem nwheld_any (v : Value) (n k : Nat) (w : World) (hk : k + 2 * n ≤ 1073741824) (hr : RdNw w v (nwmarks k n)) :
    Calls Tryz.prog 130 #[v, .int .i64 k] w fun e w' => e = .returned (.int .i64 ((k + 2 * n : Nat) : Int)) ∧ w' = w := by
  obtain ⟨a, cap, hv, hl, hm, _⟩ := id hr
  rw [nwmarks_length] at hv hl
  unfold maxLen at hm
  subst hv
  go_enter Tryz.func130, Tryz.ntmps130
  go_wp2
  go_loopw [1, 5] (fun kk i wr => ∃ j : Nat, j ≤ n ∧ i = .int .i64 j ∧ kk = .int .i64 ((k : Int) + 2 * (j : Int)) ∧ wr = w) (fun _ i _ => n - (intOf i).toNat)
  case atStart => exact ⟨0, Nat.zero_le _, rfl, by simp, rfl⟩
  case round =>
    obtain ⟨j, hj, rfl, rfl, rfl⟩ := hrel
    by_cases hlt : j < n
    · obtain ⟨b, off, rfl, hc⟩ := hr.at (nwmarks_length k n).symm j (by rw [nwmarks_length]; exact hlt)
      rw [nwmarks_nth k n j hlt] at hc
      obtain ⟨c0, c1⟩ := hc
      change _ = some (Value.int .i64 ((k + 2 * j : Nat) : Int)) at c0
      change _ = some (Value.int .i64 (((k + 2 * j : Nat) : Int) + 1)) at c1
      rw [show ((k + 2 * j : Nat) : Int) = (k : Int) + 2 * (j : Int) by omega] at c0 c1
      have hjl : (j : Int) < (n : Int) := by omega
      have e1 : IntKind.i64.wrap ((k : Int) + 2 * (j : Int) + 1) = (k : Int) + 2 * (j : Int) + 1 := by rw [IntKind.wrap_i64]; omega
      have n0 : (((k : Int) + 2 * (j : Int)) != ((k : Int) + 2 * (j : Int))) = false := by simp
      have n1 : (((k : Int) + 2 * (j : Int) + 1) != ((k : Int) + 2 * (j : Int) + 1)) = false := by simp
      go_wp2
      go_roundw
      case rel => exact ⟨j + 1, by omega, by go_num, by go_num, by simp⟩
      case measure => simp [intOf]; omega
    · have hje : j = n := by omega
      subst hje
      go_wp2
      go_ret
      exact ⟨ret_intE (by omega), rfl⟩
theorem nwmarkZ (v : Value) (bs : List Nws) (base k : Nat) (z : Int) (w : World) (hz : z = (k : Int)) (hk : k + 2 * bs.length ≤ 1073741824) (hown : OwnNw w base v bs) :
    Calls Tryz.prog 123 #[v, .int .i64 z] w fun e w' => e = .returned (.int .i64 (z + 2 * (bs.length : Int))) ∧ OwnNw w' base v (nwmarks k bs.length) ∧ w.grownBy w' v.ownBlock := by
  subst hz
  have h := nwmark_any v bs base k w hk hown
  rwa [show ((k + 2 * bs.length : Nat) : Int) = (k : Int) + 2 * (bs.length : Int) by omega] at h
theorem nwheldZ (v : Value) (n k : Nat) (z : Int) (w : World) (hz : z = (k : Int)) (hk : k + 2 * n ≤ 1073741824) (hr : RdNw w v (nwmarks k n)) :
    Calls Tryz.prog 130 #[v, .int .i64 z] w fun e w' => e = .returned (.int .i64 (z + 2 * (n : Int))) ∧ Below w.heap.size w w' := by
  subst hz
  have h := nwheld_any v n k w hk hr
  rw [show ((k + 2 * n : Nat) : Int) = (k : Int) + 2 * (n : Int) by omega] at h
  exact h.mono fun e w' ⟨a, b⟩ => ⟨a, by rw [b]; exact Below.refl _ _⟩
theorem nwlit {n : Int} (h : (Lit.int .i64 n).wf = true) : -9223372036854775808 ≤ n ∧ n ≤ 9223372036854775807 := bounds_i64 h
theorem cellsNw2 : Tryz.prog.cellsOf 2 = 1 := by kernel_rfl
theorem cells224 : Tryz.prog.cellsOf 224 = 2 := by kernel_rfl
set_option maxRecDepth 100000 in
theorem open_new {H : Type} {enc : TypeId × Value → H} {w : World} {base : Nat} {spare : Nat → Bool} {held : Bool} {fuel : Nat} {cs : List Value} {x : DataW H × List MemPlace} (h : DataW.trod enc Tryz.prog w base spare held fuel 224 cs = some x) :
    ∃ e : Nws, cs = NwC e ∧ FitNw e := by
  obtain ⟨xs, n, _, _, hl, hxl, hf⟩ := DataW.trod_struct Tryz.underlying224 h
  rw [cells224] at hl
  match xs, hxl, cs, hl with
  | [y0, y1], _, [v0, v1], _ =>
    have g0 := hf 0 _ rfl
    have g1 := hf 1 _ rfl
    simp [cellsNw2] at g0 g1
    obtain ⟨n0, h0, _, z0⟩ := DataW.trod_int Tryz.underlying2 g0
    obtain ⟨n1, h1, _, z1⟩ := DataW.trod_int Tryz.underlying2 g1
    simp only [List.cons.injEq, and_true] at h0 h1
    subst h0 h1
    exact ⟨⟨n0, n1⟩, rfl, nwlit z0, nwlit z1⟩
/-- A slice of Newss that came in. -/
theorem open_news {H : Type} {enc : TypeId × Value → H} {w : World} {held : Bool} {v : Value} {d : DataW H} {ps : List MemPlace} (h : DataW.Trod enc Tryz.prog w 0 (fun _ => true) held 85 v d ps) (hv : ∃ a len cap, v = .slice a len cap) :
    ∃ es, RdNw w v es ∧ ∀ e ∈ es, FitNw e := by
  obtain ⟨fuel, hf⟩ := h
  obtain ⟨a0, len0, cap0, rfl⟩ := hv
  rcases Deep.open_slice Tryz.underlying85 hf with ⟨hcs, _⟩ | ⟨a, len, cap, m, n, D, Pl, hcs, _, hl, hm, hmm, _, hx⟩
  · simp [Value.cells] at hcs
    obtain ⟨rfl, rfl, rfl⟩ := hcs
    exact ⟨[], rdNw_nil w, fun e he => by cases he⟩
  · simp [Value.cells] at hcs
    obtain ⟨rfl, rfl, rfl⟩ := hcs
    simp only [if_true] at hmm
    subst hmm
    have each : ∀ i, i < m → ∃ e : Nws, w.cells? 0 (a.add (i * 2)) 2 = some (NwC e) ∧ FitNw e := by
      intro i hi
      obtain ⟨cs', h1, h2⟩ := hx i hi
      rw [cells224] at h1
      obtain ⟨e, rfl, he⟩ := open_new h2
      exact ⟨e, h1, he⟩
    obtain ⟨q, hq⟩ := Deep.choose_lt each
    obtain ⟨b, off, spot⟩ := a
    refine ⟨(List.range len0).map q, ⟨some ⟨b, off, spot⟩, m, by simp, by simpa using hl, hm, (fun h => by cases h), ?_⟩, fun e he => by
      simp only [List.mem_map, List.mem_range] at he
      obtain ⟨i, hi, rfl⟩ := he
      exact (hq i (by omega)).2⟩
    by_cases h0 : len0 = 0
    · left; simp [h0]
    · right
      obtain ⟨_, _, hc0⟩ := World.cells?_some (hq 0 (by omega)).1
      have hc00 := hc0 0 (by omega)
      rw [Deep.add_add] at hc00
      have hc01 : w.cell? ((⟨b, off, spot⟩ : Addr).add 0) = some (.int .i64 (q 0).vw) := hc00
      have hspot : spot = none := by
        have := World.cell?_spot hc01
        cases spot with
        | none => rfl
        | some sp => simp [Addr.add] at this
      subst hspot
      refine ⟨b, off, rfl, fun i hi => ?_⟩
      have hi' : i < len0 := by simpa using hi
      have hn : nthNw ((List.range len0).map q) i = q i := by rw [nthNw_eq hi]; simp
      rw [hn]
      obtain ⟨_, _, hc⟩ := World.cells?_some (hq i (by omega)).1
      have c0 := hc 0 (by omega)
      have c1 := hc 1 (by omega)
      rw [Deep.add_add, Addr.add_lit] at c0 c1
      exact ⟨by simpa [NwC] using c0, by simpa [NwC, Nat.add_assoc] using c1⟩
end Go.Proofs.YtilhaokiohbeeaaGreatDoor
namespace Go.Proofs.YtilhaokiohbeeaaGreatDoor
open Go.RowKit Go.ChangeShapes Go.WideShapes
theorem cellsRp83 : Tryz.prog.cellsOf 83 = 1 := by kernel_rfl
theorem cellsRp84 : Tryz.prog.cellsOf 84 = 1 := by kernel_rfl
theorem cellsRp85 : Tryz.prog.cellsOf 85 = 1 := by kernel_rfl
theorem cellsRP : Tryz.prog.cellsOf 87 = 14 := by kernel_rfl
theorem open_blocks {H : Type} {enc : TypeId × Value → H} {w : World} {v : Value} {d : DataW H} {pl : List MemPlace} (h : DataW.Trod enc Tryz.prog w 0 (fun _ => true) true 83 v d pl) (hv : ∃ a len cap, v = .slice a len cap) :
    ∃ ts, RdBs w v ts ∧ InBs w ts ∧ ∀ t ∈ ts, FitBl t.b := by
  obtain ⟨fuel, hf⟩ := h
  obtain ⟨a0, len0, cap0, rfl⟩ := hv
  rcases Deep.open_slice Tryz.underlying83 hf with ⟨hcs, _⟩ | ⟨a, len, cap, m, n, D, Pl, hcs, _, hl, hm, hmm, _, hx⟩
  · simp [Value.cells] at hcs
    obtain ⟨rfl, rfl, rfl⟩ := hcs
    exact ⟨[], rdBs_nil w, (fun t ht => by cases ht), fun t ht => by cases ht⟩
  · simp [Value.cells] at hcs
    obtain ⟨rfl, rfl, rfl⟩ := hcs
    simp only [if_true] at hmm
    subst hmm
    have each : ∀ i, i < m → ∃ t : BlX, w.cells? 0 (a.add (i * 8)) 8 = some (BsC t) ∧ RdBl w t ∧ FitBl t.b := by
      intro i hi
      obtain ⟨cs', h1, h2⟩ := hx i hi
      rw [cellsBP] at h1
      obtain ⟨T, hcs, hr, hf⟩ := open_block h2
      subst hcs
      exact ⟨T, h1, hr, hf⟩
    obtain ⟨q, hq⟩ := Deep.choose_lt each
    obtain ⟨b, off, spot⟩ := a
    refine ⟨(List.range len0).map q, ⟨some ⟨b, off, spot⟩, m, by simp, by simpa using hl, hm, (fun h => by cases h), ?_⟩, fun t ht => ?_, fun t ht => ?_⟩
    · by_cases h0 : len0 = 0
      · left; simp [h0]
      · right
        obtain ⟨_, _, hc0⟩ := World.cells?_some (hq 0 (by omega)).1
        have hc00 := hc0 0 (by omega)
        rw [Deep.add_add] at hc00
        have hspot : spot = none := by
          have := World.cell?_spot hc00
          cases spot with
          | none => rfl
          | some sp => simp [Addr.add] at this
        subst hspot
        refine ⟨b, off, rfl, fun i hi => ?_⟩
        have hi' : i < len0 := by simpa using hi
        obtain ⟨_, _, hc⟩ := World.cells?_some (hq i (by omega)).1
        have k0 := hc 0 (by omega)
        have k1 := hc 1 (by omega)
        have k2 := hc 2 (by omega)
        have k3 := hc 3 (by omega)
        have k4 := hc 4 (by omega)
        have k5 := hc 5 (by omega)
        have k6 := hc 6 (by omega)
        have k7 := hc 7 (by omega)
        rw [Deep.add_add, Addr.add_lit] at k0 k1 k2 k3 k4 k5 k6 k7
        rw [nthBs_eq (by simpa using hi')]
        simp only [List.getElem_map, List.getElem_range]
        exact ⟨by simpa [BsC] using k0, by simpa [BsC, Nat.add_assoc] using k1, by simpa [BsC, Nat.add_assoc] using k2, by simpa [BsC, Nat.add_assoc] using k3, by simpa [BsC, Nat.add_assoc] using k4, by simpa [BsC, Nat.add_assoc] using k5, by simpa [BsC, Nat.add_assoc] using k6, by simpa [BsC, Nat.add_assoc] using k7⟩
    · simp only [List.mem_map, List.mem_range] at ht
      obtain ⟨i, hi, rfl⟩ := ht
      exact (hq i (by omega)).2.1
    · simp only [List.mem_map, List.mem_range] at ht
      obtain ⟨i, hi, rfl⟩ := ht
      exact (hq i (by omega)).2.2
set_option maxRecDepth 100000 in
theorem open_replica {H : Type} {enc : TypeId × Value → H} {w : World} {fuel : Nat} {cs : List Value} {x : DataW H × List MemPlace} (h : DataW.trod enc Tryz.prog w 0 (fun _ => true) true fuel 87 cs = some x) :
    ∃ X : RepX, cs = X.cs ∧ RdRep w X ∧ FitRep X.rep := by
  obtain ⟨xs, n, _, _, hl, hxl, hf⟩ := DataW.trod_struct Tryz.underlying87 h
  rw [cellsRP] at hl
  match xs, hxl, cs, hl with
  | [y0, y1, y2, y3, y4, y5, y6, y7, y8, y9, y10], _, [v0, v1, v2, v3, v4, v5, v6, v7, v8, v9, v10, v11, v12, v13], _ =>
    have g0 := hf 0 _ rfl
    have g1 := hf 1 _ rfl
    have g2 := hf 2 _ rfl
    have g3 := hf 3 _ rfl
    have g4 := hf 4 _ rfl
    have g5 := hf 5 _ rfl
    have g6 := hf 6 _ rfl
    have g7 := hf 7 _ rfl
    have g8 := hf 8 _ rfl
    have g9 := hf 9 _ rfl
    have g10 := hf 10 _ rfl
    simp [cellsP2, cellsP24, cellsPP, cellsRp83, cellsRp84, cellsRp85] at g0 g1 g2 g3 g4 g5 g6 g7 g8 g9 g10
    obtain ⟨n0, h0, _, z0⟩ := DataW.trod_int Tryz.underlying2 g0
    obtain ⟨n1, h1, _, z1⟩ := DataW.trod_int Tryz.underlying2 g1
    obtain ⟨n2, h2, _, z2⟩ := DataW.trod_int Tryz.underlying2 g2
    obtain ⟨n3, h3, _, z3⟩ := DataW.trod_int Tryz.underlying2 g3
    obtain ⟨n4, h4, _, z4⟩ := DataW.trod_int Tryz.underlying2 g4
    obtain ⟨n5, h5, _, z5⟩ := DataW.trod_int Tryz.underlying2 g5
    obtain ⟨P, hP, rP, fP⟩ := open_proof g6
    have sl7 : ∃ a len cap, v10 = .slice a len cap := by
      rcases DataW.trod_slice Tryz.underlying83 g7 with ⟨e, _⟩ | ⟨a', len', cap', _, _, _, _, e, _⟩
      · simp at e; exact ⟨none, 0, 0, e⟩
      · simp at e; exact ⟨some a', len', cap', e⟩
    have sl8 : ∃ a len cap, v11 = .slice a len cap := by
      rcases DataW.trod_slice Tryz.underlying84 g8 with ⟨e, _⟩ | ⟨a', len', cap', _, _, _, _, e, _⟩
      · simp at e; exact ⟨none, 0, 0, e⟩
      · simp at e; exact ⟨some a', len', cap', e⟩
    have sl9 : ∃ a len cap, v12 = .slice a len cap := by
      rcases DataW.trod_slice Tryz.underlying85 g9 with ⟨e, _⟩ | ⟨a', len', cap', _, _, _, _, e, _⟩
      · simp at e; exact ⟨none, 0, 0, e⟩
      · simp at e; exact ⟨some a', len', cap', e⟩
    obtain ⟨ts, hb0, hb1, hb2⟩ : ∃ ts, RdBs w v10 ts ∧ InBs w ts ∧ ∀ t ∈ ts, FitBl t.b := by
      obtain ⟨a, len, cap, rfl⟩ := sl7
      exact open_blocks (H := H) (enc := enc) (v := .slice a len cap) ⟨n, g7⟩ ⟨a, len, cap, rfl⟩
    obtain ⟨vs, hv0, hv1⟩ : ∃ es, RdVo w v11 es ∧ ∀ e ∈ es, FitVo e := by
      obtain ⟨a, len, cap, rfl⟩ := sl8
      exact open_votes (H := H) (enc := enc) (held := true) (v := .slice a len cap) ⟨n, g8⟩ ⟨a, len, cap, rfl⟩
    obtain ⟨ns, hn0, hn1⟩ : ∃ es, RdNw w v12 es ∧ ∀ e ∈ es, FitNw e := by
      obtain ⟨a, len, cap, rfl⟩ := sl9
      exact open_news (H := H) (enc := enc) (held := true) (v := .slice a len cap) ⟨n, g9⟩ ⟨a, len, cap, rfl⟩
    obtain ⟨ds, hd, kd⟩ := open_rowP g10
    simp only [PrX.cs, List.cons.injEq, and_true] at h0 h1 h2 h3 h4 h5 hP
    obtain ⟨hp0, hp1, hp2, hp3⟩ := hP
    subst h0 h1 h2 h3 h4 h5 hp0 hp1 hp2 hp3
    refine ⟨⟨n0, n1, n2, n3, n4, n5, P, v10, ts, v11, vs, v12, ns, v13, ds⟩, rfl, ⟨rP, hb0, hb1, hv0, hn0, hd⟩, ⟨bounds_i64 z0, bounds_i64 z1, bounds_i64 z2, bounds_i64 z3, bounds_i64 z4, bounds_i64 z5, fP, ?_, hv1, hn1, kd⟩⟩
    intro b hb
    simp only [RepX.rep, List.mem_map] at hb
    obtain ⟨t, ht, rfl⟩ := hb
    exact hb2 t ht
end Go.Proofs.YtilhaokiohbeeaaGreatDoor
