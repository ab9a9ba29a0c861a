/- The contracts of the laws' own helpers over slices of flags: copied, alike, marked; flags that came in as an argument. -/
-- UNF Gen
import Derived.Test.YtofbfjkkiikelabBoolBase
import Derived.OpenShut
import Derived.Deep.Slices
import Derived.ChangeArms
namespace Go.Proofs.Ytofbfjkkiikelab
open Go.RowKit Go.ChangeShapes Go.WideShapes
theorem made_BoV (n : Nat) : (madeCells #[Value.bool false] n).toList = BoV (List.replicate n false) := by
  rw [toList_madeCells_one]
  simp [BoV]
theorem cpB_step (bs : List Bool) (k : Nat) (h : k < bs.length) : (bs.take k ++ List.replicate (bs.length - k) false).set k bs[k] = bs.take (k + 1) ++ List.replicate (bs.length - (k + 1)) false := by
  have hl : (bs.take k).length = k := by rw [List.length_take]; omega
  rw [List.set_append_right _ _ (by omega), hl, Nat.sub_self]
  obtain ⟨m, hm⟩ : ∃ m, bs.length - k = m + 1 := ⟨bs.length - k - 1, by omega⟩
  have hm2 : bs.length - (k + 1) = m := by omega
  rw [hm, hm2, List.replicate_succ, List.set_cons_zero, List.take_succ_eq_append_getElem h, List.append_assoc, List.singleton_append]
theorem cpB_len (bs : List Bool) (k : Nat) (h : k ≤ bs.length) : (bs.take k ++ List.replicate (bs.length - k) false).length = bs.length := by
  rw [List.length_append, List.length_take, List.length_replicate]; omega
set_option maxHeartbeats 400000 in
set_option maxRecDepth 100000 in
theorem toBools_any (v : Value) (bs : List Bool) (w : World) (hr : RdB w v bs) (hs : bs.length ≤ 1073741824) :
    Calls Try.prog 7 #[v] w fun e w' => ∃ u, e = .returned u ∧ OwnB w' w.heap.size u bs ∧ Below w.heap.size w w' := by
  obtain ⟨i0, hi, hz0, hz1, hz2⟩ := info_parts Try.infoB4
  obtain ⟨a, cap, hv, hl, hm, _, hA⟩ := hr
  subst hv
  go_enter Try.func7, Try.ntmps7
  go_wp2_with (at_make; (refine wpList_make_full _ rfl _ _ 26 rfl w.heap.size 4 i0 (.bool false) 1 Try.underlying26 hi hz0 hz1 .i64 .i64 (bs.length : Int) (bs.length : Int) bs.length rfl rfl rfl rfl ?c1 ?c2 ?c3 ?_))
  case c1 => rw [hz2]; omega
  case c2 => unfold maxLen; omega
  case c3 => omega
  intro w1 ho1 hg1
  rw [made_BoV] at ho1
  have hb1 : Below w.heap.size w w1 := (Below.refl _ _).grown hg1 (Nat.le_refl _) (fun k hk => by cases hk)
  clear hg1
  go_wp2
  go_loopw [4] (fun i wr => ∃ k : Nat, k ≤ bs.length ∧ i = .int .i64 k ∧ wr.ownsRow w.heap.size 4 1 (.slice (some ⟨w.heap.size, 0, none⟩) bs.length bs.length) bs.length (BoV (bs.take k ++ List.replicate (bs.length - k) false)) ∧ Below w.heap.size w wr) (fun i _ => bs.length - (intOf i).toNat)
  case atStart => exact ⟨0, Nat.zero_le _, rfl, by simpa using ho1, hb1⟩
  case round =>
    obtain ⟨k, hk, rfl, ho, hb⟩ := hrel
    clear ho1 hb1
    by_cases hlt : k < bs.length
    · obtain ⟨b, off, ha, hc⟩ : ∃ b off, a = some ⟨b, off, none⟩ ∧ wr.cell? ⟨b, off + k, none⟩ = some (.bool bs[k]) := by
        rcases hA with h | ⟨b, off, ha, hc⟩
        · subst h; simp at hlt
        · exact ⟨b, off, ha, by rw [hb.cell (World.block_lt_of_cell? w _ (hc k hlt))]; exact hc k hlt⟩
      rw [ha]
      have hc2 := (ho.cellAt k (by omega)).trans (BoV_get _ k (by rw [cpB_len bs k hk]; exact hlt))
      have hf := ho.frozenAt k
      have R1 := (ho.stored k (.bool bs[k])).1
      rw [← BoV_set, cpB_step bs k hlt] at R1
      have R2 : Below w.heap.size w (wr.setCell ⟨w.heap.size, k, none⟩ (.bool bs[k])) := hb.setCell (Nat.le_refl _) _
      have H1 : Hid (World.ownsRow _ _ _ _ _ _ _) := R1
      clear ho hA hb R1
      go_wp2
      go_roundw
      case rel => exact ⟨k + 1, by omega, by go_num, H1.out, R2⟩
      case measure => simp [intOf]; omega
    · have hke : k = bs.length := by omega
      subst hke
      have H1 : OwnB wr w.heap.size (.slice (some ⟨w.heap.size, 0, none⟩) bs.length bs.length) bs := by unfold OwnB; simpa using ho
      clear ho
      go_wp2
      go_ret
      exact ⟨_, rfl, H1, hb⟩
set_option maxHeartbeats 1000000 in
set_option maxRecDepth 100000 in
theorem eqBools_same (va vb : Value) (xs : List Bool) (w : World) (ha : RdB w va xs) (hb : RdB w vb xs) :
    Calls Try.prog 10 #[va, vb] w fun e w' => e = .returned (.bool true) ∧ ∃ n, w' = w.drewN n := by
  obtain ⟨aa, ca, hva, hla, hma, _⟩ := id ha
  obtain ⟨ab, cb, hvb, hlb, hmb, _⟩ := id hb
  subst hva
  subst hvb
  unfold maxLen at hma hmb
  have hne : ((xs.length : Int) != (xs.length : Int)) = false := by simp
  go_enter Try.func10, Try.ntmps10
  go_wp2
  go_loopw [5] (fun i wr => ∃ k : Nat, k ≤ xs.length ∧ i = .int .i64 k ∧ ∃ n, wr = w.drewN n) (fun i _ => xs.length - (intOf i).toNat)
  case atStart => exact ⟨0, Nat.zero_le _, rfl, 0, rfl⟩
  case round =>
    obtain ⟨k, hk, rfl, n, rfl⟩ := hrel
    by_cases hlt : k < xs.length
    · obtain ⟨b1, o1, rfl, c1⟩ := (ha.drewN n).at k hlt
      obtain ⟨b2, o2, rfl, c2⟩ := (hb.drewN n).at k hlt
      generalize xs[k] = x at c1 c2
      have hd : (x != x) = false := by simp
      go_wp2_with fail
      refine wp_region_noPanic ?_
      refine wp_region_held_drew (S := fun w' => w'.cell? ⟨b1, o1 + k, none⟩ = some (.bool x) ∧ w'.cell? ⟨b2, o2 + k, none⟩ = some (.bool x)) (by kernel_rfl) ⟨c1, c2⟩ (fun hH => ?_)
      refine tkG 0 17 hH ?_
      try simp only [Act.put, List.setIfInBounds_toArray, List.set_cons_zero, List.set_cons_succ]
      refine tkG 1 18 hH ?_
      try simp only [Act.put, List.setIfInBounds_toArray, List.set_cons_zero, List.set_cons_succ]
      refine tkG 2 19 hH ?_
      try simp only [Act.put, List.setIfInBounds_toArray, List.set_cons_zero, List.set_cons_succ]
      refine tkG 3 20 hH ?_
      try simp only [Act.put, List.setIfInBounds_toArray, List.set_cons_zero, List.set_cons_succ]
      refine tkG 4 21 hH ?_
      try simp only [Act.put, List.setIfInBounds_toArray, List.set_cons_zero, List.set_cons_succ]
      refine tkG 5 22 hH ?_
      try simp only [Act.put, List.setIfInBounds_toArray, List.set_cons_zero, List.set_cons_succ]
      refine tkG 6 23 hH ?_
      try simp only [Act.put, List.setIfInBounds_toArray, List.set_cons_zero, List.set_cons_succ]
      refine tkG 7 24 hH ?_
      try simp only [Act.put, List.setIfInBounds_toArray, List.set_cons_zero, List.set_cons_succ]
      refine tkG 8 25 hH ?_
      try simp only [Act.put, List.setIfInBounds_toArray, List.set_cons_zero, List.set_cons_succ]
      refine wpAnyH_done (by kernel_rfl) ?_ _
      refine NoPanic.normal ?_
      go_wp2
      go_roundw
      case rel => exact ⟨k + 1, by omega, by go_num, n + 1, rfl⟩
      case measure => simp [intOf]; omega
    · have hlt2 : ¬ (k : Int) < (xs.length : Int) := by omega
      go_wp2
      go_ret
      exact ⟨rfl, n, rfl⟩
theorem bgrown_set {w wr : World} {g j : Nat} {u : Value} (hg : w.grownBy wr (some g)) : w.grownBy (wr.setCell ⟨g, j, none⟩ u) (some g) :=
  ⟨hg.os, hg.tape, hg.output, by have := hg.size; simp; omega, fun k hk hr => by
    rw [heap_setCell_other wr ⟨g, j, none⟩ k u (fun e => hr (by simp [e]))]
    exact hg.block k hk hr⟩
theorem bgrown_one (a : World) (row : Option Nat) : a.grownBy a row := ⟨rfl, rfl, rfl, Nat.le_refl _, fun _ _ _ => rfl⟩
set_option maxHeartbeats 1000000 in
set_option maxRecDepth 100000 in
theorem bmark_any (v : Value) (bs : List Bool) (base k : Nat) (w : World) (hk : k + bs.length ≤ 1073741824) (hown : OwnB w base v bs) :
    Calls Try.prog 12 #[v, .int .i64 (k : Int)] w fun e w' => e = .returned (.int .i64 ((k + bs.length : Nat) : Int)) ∧ w.grownBy w' v.ownBlock := by
  obtain ⟨g, cap, hv⟩ | ⟨hv, h0⟩ : (∃ g cap, v = .slice (some ⟨g, 0, none⟩) bs.length cap) ∨ (v = .slice none 0 0 ∧ bs = []) := by
    rcases hown.2 with ⟨rfl, h0⟩ | ⟨g, cap, cur, rfl, _⟩
    · exact .inr ⟨rfl, List.length_eq_zero_iff.1 h0⟩
    · exact .inl ⟨g, cap, rfl⟩
  · subst hv
    obtain ⟨n, hn⟩ : ∃ n, n = bs.length := ⟨_, rfl⟩
    unfold OwnB at hown
    rw [← hn] at hown hk ⊢
    have HN : Hid (n = bs.length) := hn
    clear hn
    go_enter Try.func12, Try.ntmps12
    go_wp2
    go_loopw [1, 5] (fun kk i wr => ∃ (j : Nat) (us : List Bool), j ≤ n ∧ i = .int .i64 j ∧ kk = .int .i64 ((k : Int) + (j : Int)) ∧ Hid (us.length = n) ∧ wr.ownsRow base 4 1 (.slice (some ⟨g, 0, none⟩) n cap) n (BoV us) ∧ w.grownBy wr (some g)) (fun _ i _ => n - (intOf i).toNat)
    case atStart => exact ⟨0, bs, Nat.zero_le _, rfl, by simp, HN.out.symm, hown, bgrown_one _ _⟩
    case round =>
      obtain ⟨j, us, hj, rfl, rfl, HL, ho, hg⟩ := hrel
      by_cases hlt : j < n
      · have hjl : j < us.length := by rw [HL.out]; exact hlt
        have hc := (ho.cellAt j (by omega)).trans (BoV_get us j hjl)
        have hf := ho.frozenAt j
        have R1 := (ho.stored j (.bool (((k : Int) + (j : Int)) % 3 == 0))).1
        rw [← BoV_set] at R1
        have HL1 : Hid ((us.set j (((k : Int) + (j : Int)) % 3 == 0)).length = n) := by unfold Hid; rw [List.length_set]; exact HL.out
        have G1 := bgrown_set (j := j) (u := .bool (((k : Int) + (j : Int)) % 3 == 0)) hg
        have H1 : Hid (World.ownsRow _ _ _ _ _ _ _) := R1
        generalize us[j] = old at hc
        clear ho hg R1 hjl
        go_wp2
        go_roundw
        case rel => exact ⟨j + 1, _, by omega, by go_num, by go_num, HL1, H1.out, G1⟩
        case measure => simp [intOf]; omega
      · have hje : j = n := by omega
        subst hje
        go_wp2
        go_ret
        exact ⟨ret_intE (by omega), hg⟩
  · subst hv
    subst h0
    go_enter Try.func12, Try.ntmps12
    go_wp2
    refine wp_loop_rounds 1 ?_
    rw [rounds_succ]
    go_wp2
    go_ret
    exact ⟨rfl, bgrown_one _ _⟩
theorem cellsB4 : Try.prog.cellsOf 4 = 1 := by kernel_rfl
set_option maxRecDepth 100000 in
theorem open_bools {H : Type} {enc : TypeId × Value → H} {w : World} {v : Value} {d : DataW H} {p : List MemPlace} (h : DataW.Trod enc Try.prog w 0 (fun _ => true) true 26 v d p) (hs : ∃ a n c, v = .slice a n c) : ∃ ns, RdB w v ns := by
  obtain ⟨fuel, hf⟩ := h
  obtain ⟨a0, len0, cap0, rfl⟩ := hs
  rcases Deep.open_slice Try.underlying26 hf with ⟨hcs, _⟩ | ⟨a, len, cap, m, n, D, Pl, hcs, _, hl, hm, hmm, _, hx⟩
  · simp [Value.cells] at hcs
    obtain ⟨rfl, rfl, rfl⟩ := hcs
    exact ⟨[], rdB_nil w⟩
  · simp [Value.cells] at hcs
    obtain ⟨rfl, rfl, rfl⟩ := hcs
    simp only [if_true] at hmm
    subst hmm
    have each : ∀ i, i < m → ∃ e : Bool, w.cells? 0 (a.add (i * 1)) 1 = some [.bool e] := by
      intro i hi
      obtain ⟨cs', h1, h2⟩ := hx i hi
      rw [cellsB4] at h1
      obtain ⟨b, hb, _⟩ := DataW.trod_bool Try.underlying4 h2
      rw [hb] at h1
      exact ⟨b, h1⟩
    obtain ⟨q, hq⟩ := Deep.choose_lt each
    obtain ⟨b, off, spot⟩ := a
    refine ⟨(List.range len0).map q, some ⟨b, off, spot⟩, m, by simp, by simpa using hl, hm, (fun h => by cases h), ?_⟩
    by_cases h0 : len0 = 0
    · left; simp [h0]
    · right
      obtain ⟨_, _, hc0⟩ := World.cells?_some (hq 0 (by omega))
      have hc00 := hc0 0 (by omega)
      rw [Deep.add_add] at hc00
      have hc01 : w.cell? ((⟨b, off, spot⟩ : Addr).add 0) = some (.bool (q 0)) := hc00
      have hspot : spot = none := by
        have := World.cell?_spot hc01
        cases spot with
        | none => rfl
        | some sp => simp [Addr.add] at this
      subst hspot
      refine ⟨b, off, rfl, fun i hi => ?_⟩
      have hi' : i < len0 := by simpa using hi
      obtain ⟨_, _, hc⟩ := World.cells?_some (hq i (by omega))
      have c0 := hc 0 (by omega)
      rw [Deep.add_add, Addr.add_lit] at c0
      simpa using c0
end Go.Proofs.Ytofbfjkkiikelab
