/- The contracts of the law's marking of Leafs, and of finding the marks again; Leafs that came in as an argument. -/
-- UNF Gen
import Derived.Test.YthmeikbfichkaabDoorLefCp
import Derived.OpenShut
import Derived.Deep.Slices
import Derived.ChangeArms
namespace Go.Proofs.YthmeikbfichkaabDoor
open Go.RowKit Go.ChangeShapes Go.WideShapes
/-- The law's mark number k, as a Leaf. -/
def lmk (k : Nat) : Lef := ⟨(k : Int), (k : Int) + 1⟩
def lmarks (k n : Nat) : List Lef := (List.range n).map fun i => lmk (k + 2 * i)
theorem lmarks_length (k n : Nat) : (lmarks k n).length = n := by simp [lmarks]
theorem lmarks_succ (k n : Nat) : lmarks k (n + 1) = lmarks k n ++ [lmk (k + 2 * n)] := by simp [lmarks, List.range_succ]
theorem lmarks_nth (k n i : Nat) (h : i < n) : nthL (lmarks k n) i = lmk (k + 2 * i) := by
  rw [nthL_eq (by rw [lmarks_length]; exact h)]; simp [lmarks]
theorem lmark_step (k i : Nat) (bs : List Lef) (h : i < bs.length) : (lmarks k i ++ bs.drop i).set i (lmk (k + 2 * i)) = lmarks k (i + 1) ++ bs.drop (i + 1) := by
  rw [lmarks_succ, List.set_append_right _ _ (by rw [lmarks_length]; omega), lmarks_length, Nat.sub_self, List.drop_eq_getElem_cons h, List.set_cons_zero]
  simp
theorem lgrown_set {w w1 : World} {g : Nat} {u : Value} {j : Nat} (hg : w.grownBy w1 (some g)) : w.grownBy (w1.setCell ⟨g, j, none⟩ u) (some g) :=
  ⟨hg.os, hg.tape, hg.output, by simpa using hg.size, fun k hk hn => (heap_setCell_other w1 ⟨g, j, none⟩ k u (fun e => hn (by simp [e]))).trans (hg.block k hk hn)⟩
theorem lgrown_one (a : World) (row : Option Nat) : a.grownBy a row := ⟨rfl, rfl, rfl, Nat.le_refl _, fun _ _ _ => rfl⟩
set_option maxHeartbeats 4000000 in
set_option maxRecDepth 100000 in
theorem lmark_any (v : Value) (bs : List Lef) (base k : Nat) (w : World) (hk : k + 2 * bs.length ≤ 1073741824) (hown : OwnL w base v bs) :
    Calls Tryd.prog 12 #[v, .int .i64 k] w fun e w' => e = .returned (.int .i64 ((k + 2 * bs.length : Nat) : Int)) ∧ OwnL w' base v (lmarks k bs.length) ∧ w.grownBy w' v.ownBlock := by
  obtain ⟨g, cap, hv⟩ | ⟨hv, h0⟩ : (∃ g cap, v = .slice (some ⟨g, 0, none⟩) bs.length cap) ∨ (v = .slice none 0 0 ∧ bs = []) := by
    rcases hown.2 with ⟨rfl, h0⟩ | ⟨g, cap, cur, rfl, _⟩
    · exact .inr ⟨rfl, List.length_eq_zero_iff.1 h0⟩
    · exact .inl ⟨g, cap, rfl⟩
  · subst hv
    go_enter Tryd.func12, Tryd.ntmps12
    go_wp2
    go_loopw [1, 5] (fun kk i wr => ∃ j : Nat, j ≤ bs.length ∧ i = .int .i64 j ∧ kk = .int .i64 ((k : Int) + 2 * (j : Int)) ∧ OwnL wr base (.slice (some ⟨g, 0, none⟩) bs.length cap) (lmarks k j ++ bs.drop j) ∧ w.grownBy wr (some g)) (fun _ i _ => bs.length - (intOf i).toNat)
    case atStart => exact ⟨0, Nat.zero_le _, rfl, by simp, by simpa [lmarks] using hown, lgrown_one _ _⟩
    case round =>
      obtain ⟨j, hj, rfl, rfl, ho, hg⟩ := hrel
      have hlen : (lmarks k j ++ bs.drop j).length = bs.length := by simp [lmarks_length]; omega
      by_cases hlt : j < bs.length
      · have ho1 : wr.ownsRow base 42 2 (.slice (some ⟨g, 0, none⟩) bs.length cap) bs.length (LV (lmarks k j ++ bs.drop j)) := by have h := ho; unfold OwnL at h; rwa [hlen] at h
        obtain ⟨d0, d1⟩ := ownL_cell ho1 hlen.symm j hlt
        have f0 := ho1.frozenAt (j * 2)
        have f1 := ho1.frozenAt (j * 2 + 1)
        have R1 := ownL_store2 ho1 (k := j) (by omega) (lmk (k + 2 * j))
        rw [lmark_step k j bs hlt] at R1
        have R2 : Hid (World.ownsRow ((wr.setCell ⟨g, j * 2, none⟩ (.int .i64 ((k : Int) + 2 * (j : Int)))).setCell ⟨g, j * 2 + 1, none⟩ (.int .i64 ((k : Int) + 2 * (j : Int) + 1))) base 42 2 (.slice (some ⟨g, 0, none⟩) bs.length cap) bs.length (LV (lmarks k (j + 1) ++ bs.drop (j + 1)))) := by
          unfold Hid
          have e : ((k + 2 * j : Nat) : Int) = (k : Int) + 2 * (j : Int) := by omega
          have h := R1
          simp only [lmk] at h
          rw [e] at h
          exact h
        have hl5 : (lmarks k (j + 1) ++ bs.drop (j + 1)).length = bs.length := by simp [lmarks_length]; omega
        have e1 : IntKind.i64.wrap ((k : Int) + 2 * (j : Int) + 1) = (k : Int) + 2 * (j : Int) + 1 := by rw [IntKind.wrap_i64]; omega
        clear ho ho1 R1
        go_wp2
        go_roundw
        case rel => exact ⟨j + 1, by omega, by go_num, by go_num, by unfold OwnL; rw [hl5]; exact R2.out, lgrown_set (lgrown_set hg)⟩
        case measure => simp [intOf]; omega
      · have hje : j = bs.length := by omega
        subst hje
        go_wp2
        go_ret
        exact ⟨ret_intE (by omega), by simpa using ho, hg⟩
  · subst hv
    subst h0
    go_enter Tryd.func12, Tryd.ntmps12
    go_wp2
    refine wp_loop_rounds 1 ?_
    rw [rounds_succ]
    go_wp2
    go_ret
    exact ⟨rfl, hown, lgrown_one _ _⟩
theorem lmarkZ (v : Value) (bs : List Lef) (base k : Nat) (z : Int) (w : World) (hz : z = (k : Int)) (hk : k + 2 * bs.length ≤ 1073741824) (hown : OwnL w base v bs) :
    Calls Tryd.prog 12 #[v, .int .i64 z] w fun e w' => e = .returned (.int .i64 (z + 2 * (bs.length : Int))) ∧ OwnL w' base v (lmarks k bs.length) ∧ w.grownBy w' v.ownBlock := by
  subst hz
  have h := lmark_any v bs base k w hk hown
  rwa [show ((k + 2 * bs.length : Nat) : Int) = (k : Int) + 2 * (bs.length : Int) by omega] at h
theorem cellsL2 : Tryd.prog.cellsOf 2 = 1 := by kernel_rfl
theorem cells44 : Tryd.prog.cellsOf 44 = 2 := by kernel_rfl
set_option maxRecDepth 100000 in
theorem open_lef {H : Type} {enc : TypeId × Value → H} {w : World} {base : Nat} {spare : Nat → Bool} {held : Bool} {fuel : Nat} {cs : List Value} {x : DataW H × List MemPlace} (h : DataW.trod enc Tryd.prog w base spare held fuel 44 cs = some x) :
    ∃ e : Lef, cs = LC e := by
  obtain ⟨xs, n, _, _, hl, hxl, hf⟩ := DataW.trod_struct Tryd.underlying44 h
  rw [cells44] at hl
  match xs, hxl, cs, hl with
  | [y0, y1], _, [v0, v1], _ =>
    have g0 := hf 0 _ rfl
    have g1 := hf 1 _ rfl
    simp [cellsL2] at g0 g1
    obtain ⟨n0, h0, _, z0⟩ := DataW.trod_int Tryd.underlying2 g0
    obtain ⟨n1, h1, _, z1⟩ := DataW.trod_int Tryd.underlying2 g1
    simp only [List.cons.injEq, and_true] at h0 h1
    subst h0 h1
    exact ⟨⟨n0, n1⟩, rfl⟩
/-- A slice of Leafs that came in. -/
theorem open_lefs {H : Type} {enc : TypeId × Value → H} {w : World} {held : Bool} {v : Value} {d : DataW H} {ps : List MemPlace} (h : DataW.Trod enc Tryd.prog w 0 (fun _ => true) held 22 v d ps) (hv : ∃ a len cap, v = .slice a len cap) :
    ∃ es, RdL w v es := by
  obtain ⟨fuel, hf⟩ := h
  obtain ⟨a0, len0, cap0, rfl⟩ := hv
  rcases Deep.open_slice Tryd.underlying22 hf with ⟨hcs, _⟩ | ⟨a, len, cap, m, n, D, Pl, hcs, _, hl, hm, hmm, _, hx⟩
  · simp [Value.cells] at hcs
    obtain ⟨rfl, rfl, rfl⟩ := hcs
    exact ⟨[], rdL_nil w⟩
  · simp [Value.cells] at hcs
    obtain ⟨rfl, rfl, rfl⟩ := hcs
    simp only [if_true] at hmm
    subst hmm
    have each : ∀ i, i < m → ∃ e : Lef, w.cells? 0 (a.add (i * 2)) 2 = some (LC e) := by
      intro i hi
      obtain ⟨cs', h1, h2⟩ := hx i hi
      rw [cells44] at h1
      obtain ⟨e, rfl⟩ := open_lef h2
      exact ⟨e, h1⟩
    obtain ⟨q, hq⟩ := Deep.choose_lt each
    obtain ⟨b, off, spot⟩ := a
    refine ⟨(List.range len0).map q, ⟨some ⟨b, off, spot⟩, m, by simp, by simpa using hl, hm, (fun h => by cases h), ?_⟩⟩
    by_cases h0 : len0 = 0
    · left; simp [h0]
    · right
      obtain ⟨_, _, hc0⟩ := World.cells?_some (hq 0 (by omega))
      have hc00 := hc0 0 (by omega)
      rw [Deep.add_add] at hc00
      have hc01 : w.cell? ((⟨b, off, spot⟩ : Addr).add 0) = some (.int .i64 (q 0).pl) := hc00
      have hspot : spot = none := by
        have := World.cell?_spot hc01
        cases spot with
        | none => rfl
        | some sp => simp [Addr.add] at this
      subst hspot
      refine ⟨b, off, rfl, fun i hi => ?_⟩
      have hi' : i < len0 := by simpa using hi
      have hn : nthL ((List.range len0).map q) i = q i := by rw [nthL_eq hi]; simp
      rw [hn]
      obtain ⟨_, _, hc⟩ := World.cells?_some (hq i (by omega))
      have c0 := hc 0 (by omega)
      have c1 := hc 1 (by omega)
      rw [Deep.add_add, Addr.add_lit] at c0 c1
      exact ⟨by simpa [LC] using c0, by simpa [LC, Nat.add_assoc] using c1⟩
end Go.Proofs.YthmeikbfichkaabDoor
