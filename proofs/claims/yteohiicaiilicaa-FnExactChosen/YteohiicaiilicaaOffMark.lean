/- The contracts of the laws' own marks of Offers, and of the looks at them; Offers that came in as an argument. -/
-- UNF Gen
import Derived.Test.YteohiicaiilicaaOffCp
import Derived.Test.YteohiicaiilicaaStrMark
import Derived.OpenShut
import Derived.SliceStrings
import Derived.Deep.Slices
import Derived.ChangeArms
namespace Go.Proofs.Yteohiicaiilicaa
open Go.RowKit
def omk (k : Nat) : Off := ⟨(k : Int), mk (k + 1)⟩
def omarks (k n : Nat) : List Off := (List.range n).map fun i => omk (k + 2 * i)
theorem omarks_length (k n : Nat) : (omarks k n).length = n := by simp [omarks]
theorem omarks_succ (k n : Nat) : omarks k (n + 1) = omarks k n ++ [omk (k + 2 * n)] := by simp [omarks, List.range_succ]
theorem omarks_nth (k n i : Nat) (h : i < n) : nthO (omarks k n) i = omk (k + 2 * i) := by
  rw [nthO_eq (by rw [omarks_length]; exact h)]; simp [omarks]
theorem omark_step (k i : Nat) (bs : List Off) (h : i < bs.length) : (omarks k i ++ bs.drop i).set i (omk (k + 2 * i)) = omarks k (i + 1) ++ bs.drop (i + 1) := by
  rw [omarks_succ, List.set_append_right _ _ (by rw [omarks_length]; omega), omarks_length, Nat.sub_self, List.drop_eq_getElem_cons h, List.set_cons_zero]
  simp
set_option maxHeartbeats 4000000 in
set_option maxRecDepth 100000 in
theorem omark_any (v : Value) (bs : List Off) (base k : Nat) (w : World) (hk0 : 0 < k) (hk : k + 2 * bs.length ≤ 4194304) (hown : OwnO w base v bs) :
    Calls Try.prog 27 #[v, .int .i64 (k : Int)] w fun e w' => e = .returned (.int .i64 ((k + 2 * bs.length : Nat) : Int)) ∧ OwnO w' base v (omarks k bs.length) ∧ w.grownBy w' v.ownBlock := by
  obtain ⟨g, cap, hv⟩ | ⟨hv, h0⟩ : (∃ g cap, v = .slice (some ⟨g, 0, none⟩) bs.length cap) ∨ (v = .slice none 0 0 ∧ bs = []) := by
    rcases hown.2 with ⟨rfl, h0⟩ | ⟨g, cap, cur, rfl, _⟩
    · exact .inr ⟨rfl, List.length_eq_zero_iff.1 h0⟩
    · exact .inl ⟨g, cap, rfl⟩
  · subst hv
    go_enter Try.func27, Try.ntmps27
    go_wp2
    go_loopw [1, 5] (fun kk i wr => ∃ j : Nat, j ≤ bs.length ∧ i = .int .i64 j ∧ kk = .int .i64 ((k : Int) + 2 * (j : Int)) ∧ OwnO wr base (.slice (some ⟨g, 0, none⟩) bs.length cap) (omarks k j ++ bs.drop j) ∧ w.grownBy wr (some g)) (fun _ i _ => bs.length - (intOf i).toNat)
    case atStart => exact ⟨0, Nat.zero_le _, rfl, by simp, by simpa [omarks] using hown, grownBy_one _ _⟩
    case round =>
      obtain ⟨j, hj, rfl, rfl, ho, hg⟩ := hrel
      have hlen : (omarks k j ++ bs.drop j).length = bs.length := by simp [omarks_length]; omega
      by_cases hlt : j < bs.length
      · have ho1 : wr.ownsRow base 26 2 (.slice (some ⟨g, 0, none⟩) bs.length cap) bs.length (OV (omarks k j ++ bs.drop j)) := by have h := ho; unfold OwnO at h; rwa [hlen] at h
        have d0 := (ownO_cell ho1 hlen.symm j hlt).1
        have f0 := ho1.frozenAt (j * 2)
        have R1 := ownO_store ho1 (k := j) (j := 0) (by omega) (by omega) (u := .int .i64 ((k : Int) + 2 * (j : Int))) (e' := { nthO (omarks k j ++ bs.drop j) j with fee := (k : Int) + 2 * (j : Int) }) rfl
        have G1 : w.grownBy (wr.setCell ⟨g, j * 2, none⟩ (.int .i64 ((k : Int) + 2 * (j : Int)))) (some g) := smark_frame hg (Below.refl _ _)
        obtain ⟨x, hx⟩ : ∃ x, x = nthO (omarks k j ++ bs.drop j) j := ⟨_, rfl⟩
        rw [← hx] at R1
        have H1 : Hid (World.ownsRow _ _ _ _ _ _ _) := R1
        clear ho ho1 hg R1 hx
        go_wp2_with fail
        refine (markText_at _ (k + 2 * j + 1) _ (by omega) (by omega) (by omega)).mono ?_
        rintro e2 w2 ⟨rfl, hb2⟩
        have ho2 := own_below H1.out hb2
        have l2 : ((omarks k j ++ bs.drop j).set j { x with fee := (k : Int) + 2 * (j : Int) }).length = bs.length := by rw [List.length_set]; exact hlen
        have d1 := (ownO_cell ho2 l2.symm j hlt).2
        have f1 := ho2.frozenAt (j * 2 + 1)
        have R2 := ownO_store ho2 (k := j) (j := 1) (by omega) (by omega) (u := .string (mk (k + 2 * j + 1))) (e' := omk (k + 2 * j)) (by
          rw [nthO_set_same (by omega)]
          show [Value.int .i64 ((k : Int) + 2 * (j : Int)), Value.string (mk (k + 2 * j + 1))] = OC (omk (k + 2 * j))
          have e1 : (k : Int) + 2 * (j : Int) = ((k + 2 * j : Nat) : Int) := by omega
          rw [e1]
          rfl)
        rw [List.set_set, omark_step k j bs hlt] at R2
        have G2 : w.grownBy (w2.setCell ⟨g, j * 2 + 1, none⟩ (.string (mk (k + 2 * j + 1)))) (some g) := smark_frame G1 hb2
        have H2 : Hid (World.ownsRow _ _ _ _ _ _ _) := R2
        clear ho2 R2 H1 G1 hb2 d0 f0
        go_wp2
        go_roundw
        case rel =>
          have hl5 : (omarks k (j + 1) ++ bs.drop (j + 1)).length = bs.length := by simp [omarks_length]; omega
          exact ⟨j + 1, by omega, by go_num, by go_num, by unfold OwnO; rw [hl5]; exact H2.out, G2⟩
        case measure => simp [intOf]; omega
      · have hje : j = bs.length := by omega
        subst hje
        go_wp2
        go_ret
        exact ⟨ret_intE (by omega), by simpa using ho, hg⟩
  · subst hv
    subst h0
    go_enter Try.func27, Try.ntmps27
    go_wp2
    refine wp_loop_rounds 1 ?_
    rw [rounds_succ]
    go_wp2
    go_ret
    exact ⟨rfl, hown, grownBy_one _ _⟩
set_option maxHeartbeats 4000000 in
set_option maxRecDepth 100000 in
theorem oheld_any (v : Value) (n k : Nat) (w : World) (hk0 : 0 < k) (hk : k + 2 * n ≤ 4194304) (hr : RdO w v (omarks k n)) :
    Calls Try.prog 28 #[v, .int .i64 (k : Int)] w fun e w' => e = .returned (.int .i64 ((k + 2 * n : Nat) : Int)) ∧ Below w.heap.size w w' := by
  obtain ⟨a, cap, hv, hl, hm, _⟩ := id hr
  rw [omarks_length] at hv hl
  unfold maxLen at hm
  subst hv
  go_enter Try.func28, Try.ntmps28
  go_wp2
  go_loopw [1, 5] (fun kk i wr => ∃ j : Nat, j ≤ n ∧ i = .int .i64 j ∧ kk = .int .i64 ((k : Int) + 2 * (j : Int)) ∧ Below w.heap.size w wr) (fun _ i _ => n - (intOf i).toNat)
  case atStart => exact ⟨0, Nat.zero_le _, rfl, by simp, Below.refl _ _⟩
  case round =>
    obtain ⟨j, hj, rfl, rfl, hb⟩ := hrel
    by_cases hlt : j < n
    · obtain ⟨b, off, rfl, hc⟩ := (hr.below hb).at (omarks_length k n).symm j (by rw [omarks_length]; exact hlt)
      rw [omarks_nth k n j hlt] at hc
      have hl2 := hc.lt
      have hjl : (j : Int) < (n : Int) := by omega
      have hjc : j < cap := by omega
      have hse : (((k + 2 * j : Nat) : Int)) = (k : Int) + 2 * (j : Int) := by omega
      obtain ⟨c0, c1⟩ := hc
      change _ = some (Value.int .i64 ((k + 2 * j : Nat) : Int)) at c0
      change _ = some (Value.string (mk (k + 2 * j + 1))) at c1
      rw [hse] at c0
      clear hse
      have hne : (((k : Int) + 2 * (j : Int)) != ((k : Int) + 2 * (j : Int))) = false := by simp
      go_wp2_with fail
      refine wp_region_noPanic ?_
      refine wp_region_held_drew (S := fun w' => w'.cell? ⟨b, off + j * 2 + 1, none⟩ = some (.string (mk (k + 2 * j + 1)))) (by kernel_rfl) c1 (fun hH => ?_)
      refine tkG 0 21 hH ?_
      try simp only [Act.put, List.setIfInBounds_toArray, List.set_cons_zero, List.set_cons_succ]
      refine tkG 1 22 hH ?_
      try simp only [Act.put, List.setIfInBounds_toArray, List.set_cons_zero, List.set_cons_succ]
      refine tkG 2 23 hH ?_
      try simp only [Act.put, List.setIfInBounds_toArray, List.set_cons_zero, List.set_cons_succ]
      refine tkG 3 24 hH ?_
      try simp only [Act.put, List.setIfInBounds_toArray, List.set_cons_zero, List.set_cons_succ]
      refine tkG 4 25 hH ?_
      try simp only [Act.put, List.setIfInBounds_toArray, List.set_cons_zero, List.set_cons_succ]
      refine tkG 5 26 hH ?_
      try simp only [Act.put, List.setIfInBounds_toArray, List.set_cons_zero, List.set_cons_succ]
      refine wpAnyH_ready (rs := [6]) (by kernel_rfl) (by simp) ?_
      refine AllReadyH.cons rfl (fun K hK => ?_) AllReadyH.nil
      go_simp
      refine (markText_at _ (k + 2 * j + 1) _ (by omega) (by omega) (by omega)).mono ?_
      rintro e w1 ⟨rfl, hb1⟩
      obtain ⟨q1, _⟩ := bcell hb1
      refine hK.out _ _ ((q1 _ _ hl2).trans c1) (fun hA => ?_)
      clear hK K
      try simp only [Act.put, List.setIfInBounds_toArray, List.set_cons_zero, List.set_cons_succ]
      refine tkG 7 28 hA ?_
      try simp only [Act.put, List.setIfInBounds_toArray, List.set_cons_zero, List.set_cons_succ]
      refine wpAnyH_done (by kernel_rfl) ?_ _
      refine NoPanic.normal ?_
      have b1 := hb.drew.trans (hb1.mono hb.size)
      clear hH hA hb hb1 q1 c0 c1
      go_wp2
      go_roundw
      case rel => exact ⟨j + 1, by omega, by go_num, by go_num, b1⟩
      case measure => simp [intOf]; omega
    · have hje : j = n := by omega
      subst hje
      go_wp2
      go_ret
      exact ⟨ret_intE (by omega), hb⟩
theorem omarkZ (v : Value) (bs : List Off) (base k : Nat) (z : Int) (w : World) (hz : z = (k : Int)) (hk : 0 < k ∧ k + 2 * bs.length ≤ 4194304) (hown : OwnO w base v bs) :
    Calls Try.prog 27 #[v, .int .i64 z] w fun e w' => e = .returned (.int .i64 (z + 2 * (bs.length : Int))) ∧ OwnO w' base v (omarks k bs.length) ∧ w.grownBy w' v.ownBlock := by
  subst hz
  have h := omark_any v bs base k w hk.1 hk.2 hown
  rwa [show ((k + 2 * bs.length : Nat) : Int) = (k : Int) + 2 * (bs.length : Int) by omega] at h
theorem oheldZ (v : Value) (n k : Nat) (z : Int) (w : World) (hz : z = (k : Int)) (hk : 0 < k ∧ k + 2 * n ≤ 4194304) (hr : RdO w v (omarks k n)) :
    Calls Try.prog 28 #[v, .int .i64 z] w fun e w' => e = .returned (.int .i64 (z + 2 * (n : Int))) ∧ Below w.heap.size w w' := by
  subst hz
  have h := oheld_any v n k w hk.1 hk.2 hr
  rwa [show ((k + 2 * n : Nat) : Int) = (k : Int) + 2 * (n : Int) by omega] at h
theorem cellsO2 : Try.prog.cellsOf 2 = 1 := by kernel_rfl
theorem cellsO9 : Try.prog.cellsOf 9 = 1 := by kernel_rfl
theorem cellsO45 : Try.prog.cellsOf 45 = 2 := by kernel_rfl
open Go.ChangeShapes Go.WideShapes
set_option maxRecDepth 100000 in
theorem open_off {H : Type} {enc : TypeId × Value → H} {w : World} {base : Nat} {spare : Nat → Bool} {held : Bool} {fuel : Nat} {cs : List Value} {x : DataW H × List MemPlace} (h : DataW.trod enc Try.prog w base spare held fuel 45 cs = some x) :
    ∃ e : Off, cs = OC e ∧ e.text.size ≤ maxLen := by
  obtain ⟨xs, n, _, _, hl, hxl, hf⟩ := DataW.trod_struct Try.underlying45 h
  rw [cellsO45] at hl
  match xs, hxl, cs, hl with
  | [y0, y1], _, [v0, v1], _ =>
    have g0 := hf 0 _ rfl
    have g1 := hf 1 _ rfl
    simp [cellsO9, cellsO2] at g0 g1
    obtain ⟨n0, h0, _, _⟩ := DataW.trod_int Try.underlying2 g0
    obtain ⟨s1, h1, _, z1⟩ := DataW.trod_string Try.underlying9 g1
    simp only [List.cons.injEq, and_true] at h0 h1
    subst h0 h1
    exact ⟨⟨n0, s1⟩, rfl, z1⟩
set_option maxRecDepth 100000 in
theorem open_offs {H : Type} {enc : TypeId × Value → H} {w : World} {held : Bool} {v : Value} {d : DataW H} {ps : List MemPlace} (h : DataW.Trod enc Try.prog w 0 (fun _ => true) held 41 v d ps) (hv : ∃ a len cap, v = .slice a len cap) :
    ∃ es, RdO w v es ∧ ∀ e ∈ es, e.text.size ≤ maxLen := by
  obtain ⟨fuel, hf⟩ := h
  obtain ⟨a0, len0, cap0, rfl⟩ := hv
  rcases Deep.open_slice Try.underlying41 hf with ⟨hcs, _⟩ | ⟨a, len, cap, m, n, D, Pl, hcs, _, hl, hm, hmm, _, hx⟩
  · simp [Value.cells] at hcs
    obtain ⟨rfl, rfl, rfl⟩ := hcs
    exact ⟨[], rdO_nil w, fun e he => by cases he⟩
  · simp [Value.cells] at hcs
    obtain ⟨rfl, rfl, rfl⟩ := hcs
    simp only [if_true] at hmm
    subst hmm
    have each : ∀ i, i < m → ∃ e : Off, w.cells? 0 (a.add (i * 2)) 2 = some (OC e) ∧ e.text.size ≤ maxLen := by
      intro i hi
      obtain ⟨cs', h1, h2⟩ := hx i hi
      rw [cellsO45] at h1
      obtain ⟨e, rfl, he⟩ := open_off h2
      exact ⟨e, h1, he⟩
    obtain ⟨q, hq⟩ := Deep.choose_lt each
    obtain ⟨b, off, spot⟩ := a
    refine ⟨(List.range len0).map q, ⟨some ⟨b, off, spot⟩, m, by simp, by simpa using hl, hm, (fun h => by cases h), ?_⟩, fun e he => ?_⟩
    · by_cases h0 : len0 = 0
      · left; simp [h0]
      · right
        obtain ⟨_, _, hc0⟩ := World.cells?_some (hq 0 (by omega)).1
        have hc00 := hc0 0 (by omega)
        rw [Deep.add_add] at hc00
        have hc01 : w.cell? ((⟨b, off, spot⟩ : Addr).add 0) = some (.int .i64 (q 0).fee) := hc00
        have hspot : spot = none := by
          have := World.cell?_spot hc01
          cases spot with
          | none => rfl
          | some sp => simp [Addr.add] at this
        subst hspot
        refine ⟨b, off, rfl, fun i hi => ?_⟩
        have hi' : i < len0 := by simpa using hi
        have hn : nthO ((List.range len0).map q) i = q i := by rw [nthO_eq hi]; simp
        rw [hn]
        obtain ⟨_, _, hc⟩ := World.cells?_some (hq i (by omega)).1
        have c0 := hc 0 (by omega)
        have c1 := hc 1 (by omega)
        rw [Deep.add_add, Addr.add_lit] at c0 c1
        exact ⟨by simpa [OC] using c0, by simpa [OC, Nat.add_assoc] using c1⟩
    · simp only [List.mem_map, List.mem_range] at he
      obtain ⟨i, hi, rfl⟩ := he
      exact (hq i (by omega)).2
end Go.Proofs.Yteohiicaiilicaa
