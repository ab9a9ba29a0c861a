/- The contracts of the law's marking of a slice of entries, and of finding the marks again. The contract of the program's question whether an entry is the newest of its key. The contract of the program's Shown. -/
import Derived.Test.YtbefmbjlogkmbaaGreatG20
import Derived.Test.YtbefmbjlogkmbaaGreatG14
namespace Go.Proofs.YtbefmbjlogkmbaaGreat
set_option maxHeartbeats 16000000
set_option maxRecDepth 100000
open Go.RowKit
def emk (k : Nat) : Ent := ⟨mk k, mk (k + 1), ((k + 2 : Nat) : Int), decide ((k + 3) % 3 = 0)⟩
def emarks (k n : Nat) : List Ent := (List.range n).map fun i => emk (k + 4 * i)
theorem emarks_length (k n : Nat) : (emarks k n).length = n := by simp [emarks]
theorem emarks_succ (k n : Nat) : emarks k (n + 1) = emarks k n ++ [emk (k + 4 * n)] := by simp [emarks, List.range_succ]
theorem emarks_nth (k n i : Nat) (h : i < n) : nth (emarks k n) i = emk (k + 4 * i) := by
  rw [nth_eq (by rw [emarks_length]; exact h)]; simp [emarks]
theorem emark_step (k i : Nat) (bs : List Ent) (h : i < bs.length) : (emarks k i ++ bs.drop i).set i (emk (k + 4 * i)) = emarks k (i + 1) ++ bs.drop (i + 1) := by
  rw [emarks_succ, List.set_append_right _ _ (by rw [emarks_length]; omega), emarks_length, Nat.sub_self, List.drop_eq_getElem_cons h, List.set_cons_zero]
  simp
theorem emark_frame {w wr w1 : World} {g : Nat} {u : Value} {j : Nat} (hg : w.grownBy wr (some g)) (hb : Below wr.heap.size wr w1) : w.grownBy (w1.setCell ⟨g, j, none⟩ u) (some g) :=
  ⟨hb.os.trans hg.os, hb.tape.trans hg.tape, hb.output.trans hg.output, by have := hg.size; have := hb.size; simp; omega, fun k hk hr => by
    rw [heap_setCell_other w1 ⟨g, j, none⟩ k u (fun e => hr (by simp [e])), hb.block k (by have := hg.size; omega)]
    exact hg.block k hk hr⟩
theorem emark_frame0 {w w1 : World} {g : Nat} {u : Value} {j : Nat} (hg : w.grownBy w1 (some g)) : w.grownBy (w1.setCell ⟨g, j, none⟩ u) (some g) := emark_frame hg (Below.refl _ _)
theorem egrownBy_one (a : World) (row : Option Nat) : a.grownBy a row := ⟨rfl, rfl, rfl, Nat.le_refl _, fun _ _ _ => rfl⟩
theorem emark_any (v : Value) (bs : List Ent) (base k : Nat) (w : World) (hk0 : 0 < k) (hk : k + 4 * bs.length ≤ 4194305) (hown : OwnE w base v bs) :
    Calls Tryz.prog 39 #[v, .int .i64 k] w fun e w' => e = .returned (.int .i64 ((k + 4 * bs.length : Nat) : Int)) ∧ OwnE w' base v (emarks k bs.length) ∧ w.grownBy w' v.ownBlock := by
  obtain ⟨g, cap, hv⟩ | ⟨hv, h0⟩ : (∃ g cap, v = .slice (some ⟨g, 0, none⟩) bs.length cap) ∨ (v = .slice none 0 0 ∧ bs = []) := by
    rcases hown.2 with ⟨rfl, h0⟩ | ⟨g, cap, cur, rfl, _⟩
    · exact .inr ⟨rfl, List.length_eq_zero_iff.1 h0⟩
    · exact .inl ⟨g, cap, rfl⟩
  · subst hv
    go_enter Tryz.func39, Tryz.ntmps39
    go_wp2
    go_loopw [1, 5] (fun kk i wr => ∃ j : Nat, j ≤ bs.length ∧ i = .int .i64 j ∧ kk = .int .i64 ((k : Int) + 4 * (j : Int)) ∧ OwnE wr base (.slice (some ⟨g, 0, none⟩) bs.length cap) (emarks k j ++ bs.drop j) ∧ w.grownBy wr (some g)) (fun _ i _ => bs.length - (intOf i).toNat)
    case atStart => exact ⟨0, Nat.zero_le _, rfl, by simp, by simpa [emarks] using hown, egrownBy_one _ _⟩
    case round =>
      obtain ⟨j, hj, rfl, rfl, ho, hg⟩ := hrel
      have hlen : (emarks k j ++ bs.drop j).length = bs.length := by simp [emarks_length]; omega
      by_cases hlt : j < bs.length
      · skip
        go_wp2_with fail
        refine (markText_at _ (k + 4 * j) _ (by omega) (by omega) (by omega)).mono ?_
        rintro e1 w1 ⟨rfl, hb1⟩
        have ho1 : w1.ownsRow base 89 4 (.slice (some ⟨g, 0, none⟩) bs.length cap) bs.length (EV (emarks k j ++ bs.drop j)) := by have h := ho.below hb1; unfold OwnE at h; rwa [hlen] at h
        have d0 := (ownE_cell ho1 hlen.symm j hlt).1
        have f0 := ho1.frozenAt (j * 4)
        have R1 := ownE_store ho1 (k := j) (j := 0) (by omega) (by omega) (u := .string (mk (k + 4 * j))) (e' := { nth (emarks k j ++ bs.drop j) j with key := mk (k + 4 * j) }) rfl
        have G1 : w.grownBy (w1.setCell ⟨g, j * 4, none⟩ (.string (mk (k + 4 * j)))) (some g) := emark_frame hg hb1
        obtain ⟨x, hx⟩ : ∃ x, x = nth (emarks k j ++ bs.drop j) j := ⟨_, rfl⟩
        rw [← hx] at R1
        have HX : Hid (x = nth (emarks k j ++ bs.drop j) j) := hx
        have H1 : Hid (World.ownsRow _ _ _ _ _ _ _) := R1
        clear ho ho1 hg hb1 R1 hx
        go_wp2_with fail
        refine (markText_at _ (k + 4 * j + 1) _ (by omega) (by omega) (by omega)).mono ?_
        rintro e2 w2 ⟨rfl, hb2⟩
        have ho2 := own_below H1.out hb2
        have l2 : ((emarks k j ++ bs.drop j).set j { x with key := mk (k + 4 * j) }).length = bs.length := by rw [List.length_set]; exact hlen
        have d1 := (ownE_cell ho2 l2.symm j hlt).2.1
        have f1 := ho2.frozenAt (j * 4 + 1)
        have R2 := ownE_store ho2 (k := j) (j := 1) (by omega) (by omega) (u := .string (mk (k + 4 * j + 1))) (e' := { x with key := mk (k + 4 * j), val := mk (k + 4 * j + 1) }) (by rw [nth_set_same (by omega)]; rfl)
        rw [List.set_set] at R2
        have G2 : w.grownBy (w2.setCell ⟨g, j * 4 + 1, none⟩ (.string (mk (k + 4 * j + 1)))) (some g) := emark_frame G1 hb2
        have l3 : ((emarks k j ++ bs.drop j).set j { x with key := mk (k + 4 * j), val := mk (k + 4 * j + 1) }).length = bs.length := by rw [List.length_set]; exact hlen
        have d2 := (ownE_cell R2 l3.symm j hlt).2.2.1
        have f2 := R2.frozenAt (j * 4 + 2)
        have R3 := ownE_store R2 (k := j) (j := 2) (by omega) (by omega) (u := .int .i64 ((k : Int) + 4 * (j : Int) + 1 + 1)) (e' := { x with key := mk (k + 4 * j), val := mk (k + 4 * j + 1), seq := (k : Int) + 4 * (j : Int) + 1 + 1 }) (by rw [nth_set_same (by omega)]; rfl)
        rw [List.set_set] at R3
        have l4 : ((emarks k j ++ bs.drop j).set j { x with key := mk (k + 4 * j), val := mk (k + 4 * j + 1), seq := (k : Int) + 4 * (j : Int) + 1 + 1 }).length = bs.length := by rw [List.length_set]; exact hlen
        have d3 := (ownE_cell R3 l4.symm j hlt).2.2.2
        have f3 := R3.frozenAt (j * 4 + 3)
        have R4 := ownE_store R3 (k := j) (j := 3) (by omega) (by omega) (u := .bool (((k : Int) + 4 * (j : Int) + 1 + 1 + 1) % 3 == 0)) (e' := emk (k + 4 * j)) (by
          rw [nth_set_same (by omega)]
          have e2 : (((k : Int) + 4 * (j : Int) + 1 + 1 + 1) % 3 == 0) = decide ((k + 4 * j + 3) % 3 = 0) := by rw [Bool.eq_iff_iff, beq_iff_eq, decide_eq_true_eq]; omega
          show [Value.string (mk (k + 4 * j)), Value.string (mk (k + 4 * j + 1)), Value.int .i64 ((k : Int) + 4 * (j : Int) + 1 + 1), Value.bool (((k : Int) + 4 * (j : Int) + 1 + 1 + 1) % 3 == 0)] = EC (emk (k + 4 * j))
          have e1 : (k : Int) + 4 * (j : Int) + 1 + 1 = ((k + 4 * j + 2 : Nat) : Int) := by omega
          rw [e2, e1]
          rfl)
        rw [List.set_set, emark_step k j bs hlt] at R4
        have H4 : Hid (World.ownsRow _ _ _ _ _ _ _) := R4
        clear ho2 R2 R3 R4 H1 G1 hb2
        go_wp2
        go_roundw
        case rel =>
          have hl5 : (emarks k (j + 1) ++ bs.drop (j + 1)).length = bs.length := by simp [emarks_length]; omega
          exact ⟨j + 1, by omega, by go_num, by go_num, by unfold OwnE; rw [hl5]; exact H4.out, emark_frame0 (emark_frame0 G2)⟩
        case measure => simp [intOf]; omega
      · have hje : j = bs.length := by omega
        subst hje
        go_wp2
        go_ret
        exact ⟨ret_intE (by omega), by simpa using ho, hg⟩
  · subst hv
    subst h0
    go_enter Tryz.func39, Tryz.ntmps39
    go_wp2
    refine wp_loop_rounds 1 ?_
    rw [rounds_succ]
    go_wp2
    go_ret
    exact ⟨rfl, hown, egrownBy_one _ _⟩
theorem eheld_any (v : Value) (n k : Nat) (w : World) (hk0 : 0 < k) (hk : k + 4 * n ≤ 4194305) (hr : RdE w v (emarks k n)) :
    Calls Tryz.prog 43 #[v, .int .i64 k] w fun e w' => e = .returned (.int .i64 ((k + 4 * n : Nat) : Int)) ∧ Below w.heap.size w w' := by
  obtain ⟨a, cap, hv, hl, hm, _⟩ := id hr
  rw [emarks_length] at hv hl
  unfold maxLen at hm
  subst hv
  go_enter Tryz.func43, Tryz.ntmps43
  go_wp2
  go_loopw [1, 5] (fun kk i wr => ∃ j : Nat, j ≤ n ∧ i = .int .i64 j ∧ kk = .int .i64 ((k : Int) + 4 * (j : Int)) ∧ Below w.heap.size w wr) (fun _ i _ => n - (intOf i).toNat)
  case atStart => exact ⟨0, Nat.zero_le _, rfl, by simp, Below.refl _ _⟩
  case round =>
    obtain ⟨j, hj, rfl, rfl, hb⟩ := hrel
    by_cases hlt : j < n
    · obtain ⟨b, off, rfl, hc⟩ := (hr.below hb).at (emarks_length k n).symm j (by rw [emarks_length]; exact hlt)
      rw [emarks_nth k n j hlt] at hc
      have hl2 := hc.lt
      have hjl : (j : Int) < (n : Int) := by omega
      have hse : (((k + 4 * j + 2 : Nat) : Int)) = (k : Int) + 4 * (j : Int) + 1 + 1 := by omega
      have hgo : decide ((k + 4 * j + 3) % 3 = 0) = (((k : Int) + 4 * (j : Int) + 1 + 1 + 1) % 3 == 0) := by rw [Bool.eq_iff_iff, beq_iff_eq, decide_eq_true_eq]; omega
      obtain ⟨c0, c1, c2, c3⟩ := hc
      change _ = some (Value.string (mk (k + 4 * j))) at c0
      change _ = some (Value.string (mk (k + 4 * j + 1))) at c1
      change _ = some (Value.int .i64 ((k + 4 * j + 2 : Nat) : Int)) at c2
      change _ = some (Value.bool (decide ((k + 4 * j + 3) % 3 = 0))) at c3
      rw [hse] at c2
      rw [hgo] at c3
      clear hse hgo
      have hne : (((k : Int) + 4 * (j : Int) + 1 + 1) != ((k : Int) + 4 * (j : Int) + 1 + 1)) = false := by simp
      have hnb : ((((k : Int) + 4 * (j : Int) + 1 + 1 + 1) % 3 == 0) != (((k : Int) + 4 * (j : Int) + 1 + 1 + 1) % 3 == 0)) = false := by simp
      go_wp2_with fail
      refine wp_region_noPanic ?_
      refine wp_region_held_drew (S := fun w' => w'.cell? ⟨b, off + j * 4, none⟩ = some (.string (mk (k + 4 * j)))) (by kernel_rfl) c0 (fun hH => ?_)
      refine tkA 0 12 hH ?_; try simp only [Act.put, sA, sZ, sS]
      refine tkA 1 13 hH ?_; try simp only [Act.put, sA, sZ, sS]
      refine tkA 2 14 hH ?_; try simp only [Act.put, sA, sZ, sS]
      refine tkA 3 15 hH ?_; try simp only [Act.put, sA, sZ, sS]
      refine tkA 4 16 hH ?_; try simp only [Act.put, sA, sZ, sS]
      refine tkA 5 17 hH ?_; try simp only [Act.put, sA, sZ, sS]
      refine wpAnyH_ready (rs := [6]) (by kernel_rfl) (by simp) ?_
      refine AllReadyH.cons rfl (fun K hK => ?_) AllReadyH.nil
      go_simp
      refine (markText_at _ (k + 4 * j) _ (by omega) (by omega) (by omega)).mono ?_
      rintro e w1 ⟨rfl, hb1⟩
      obtain ⟨q1, _⟩ := bcell hb1
      refine hK.out _ _ ((q1 _ _ hl2).trans c0) (fun hA => ?_)
      clear hK K
      try simp only [Act.put, sA, sZ, sS]
      refine tkA 7 19 hA ?_; try simp only [Act.put, sA, sZ, sS]
      refine wpAnyH_done (by kernel_rfl) ?_ _
      refine NoPanic.normal ?_
      have d1 : w1.cell? ⟨b, off + j * 4 + 1, none⟩ = some (.string (mk (k + 4 * j + 1))) := (q1 _ _ hl2).trans c1
      have d2 : w1.cell? ⟨b, off + j * 4 + 2, none⟩ = some (.int .i64 ((k : Int) + 4 * (j : Int) + 1 + 1)) := (q1 _ _ hl2).trans c2
      have d3 : w1.cell? ⟨b, off + j * 4 + 3, none⟩ = some (.bool (((k : Int) + 4 * (j : Int) + 1 + 1 + 1) % 3 == 0)) := (q1 _ _ hl2).trans c3
      have b1 := hb.drew.trans (hb1.mono hb.size)
      have hl3 := World.block_lt_of_cell? w1 _ d1
      clear hH hA hb hb1 q1 c0 c1 c2 c3
      go_wp2_with fail
      refine wp_region_noPanic ?_
      refine wp_region_held_drew (S := fun w' => w'.cell? ⟨b, off + j * 4 + 1, none⟩ = some (.string (mk (k + 4 * j + 1)))) (by kernel_rfl) d1 (fun hH => ?_)
      refine tkA 0 22 hH ?_; try simp only [Act.put, sA, sZ, sS]
      refine tkA 1 23 hH ?_; try simp only [Act.put, sA, sZ, sS]
      refine tkA 2 24 hH ?_; try simp only [Act.put, sA, sZ, sS]
      refine tkA 3 25 hH ?_; try simp only [Act.put, sA, sZ, sS]
      refine tkA 4 26 hH ?_; try simp only [Act.put, sA, sZ, sS]
      refine tkA 5 27 hH ?_; try simp only [Act.put, sA, sZ, sS]
      refine wpAnyH_ready (rs := [6]) (by kernel_rfl) (by simp) ?_
      refine AllReadyH.cons rfl (fun K hK => ?_) AllReadyH.nil
      go_simp
      refine (markText_at _ (k + 4 * j + 1) _ (by omega) (by omega) (by omega)).mono ?_
      rintro e w2 ⟨rfl, hb2⟩
      obtain ⟨q2, _⟩ := bcell hb2
      refine hK.out _ _ ((q2 _ _ hl3).trans d1) (fun hA => ?_)
      clear hK K
      try simp only [Act.put, sA, sZ, sS]
      refine tkA 7 29 hA ?_; try simp only [Act.put, sA, sZ, sS]
      refine wpAnyH_done (by kernel_rfl) ?_ _
      refine NoPanic.normal ?_
      have e2 : w2.cell? ⟨b, off + j * 4 + 2, none⟩ = some (.int .i64 ((k : Int) + 4 * (j : Int) + 1 + 1)) := (q2 _ _ hl3).trans d2
      have e3 : w2.cell? ⟨b, off + j * 4 + 3, none⟩ = some (.bool (((k : Int) + 4 * (j : Int) + 1 + 1 + 1) % 3 == 0)) := (q2 _ _ hl3).trans d3
      have b2 := b1.drew.trans (hb2.mono b1.size)
      clear hH hA b1 hb2 q2 d1 d2 d3
      go_wp2
      go_roundw
      case rel => exact ⟨j + 1, by omega, by go_num, by go_num, b2⟩
      case measure => simp [intOf]; omega
    · have hje : j = n := by omega
      subst hje
      go_wp2
      go_ret
      exact ⟨ret_intE (by omega), hb⟩
open Go.RowKit
open Go.RowKit
def OwnP (w : World) (base : Nat) (v : Value) (ps : List (Value × List Ent)) : Prop := w.ownsRow base 30 1 v ps.length (ps.map (·.1))
theorem OwnP.pieces {w : World} {base : Nat} {v : Value} {ps : List (Value × List Ent)} (h : OwnP w base v ps) (hp : ∀ p ∈ ps, RdE w p.1 p.2) : Pieces w v ps := by
  have h' := h
  rcases h.2 with ⟨rfl, h0⟩ | ⟨g, cap, cur, rfl, hb, hg, hn, hc, hs, ht⟩
  · exact .inl ⟨rfl, List.length_eq_zero_iff.1 h0⟩
  · refine .inr ⟨g, 0, cap, rfl, hn, hc, fun i hi => ⟨?_, hp _ (List.getElem_mem hi)⟩⟩
    have := World.ownsRow.cellAt h' i (by omega)
    rw [Nat.zero_add, this]
    simp [hi]
theorem OwnP.below {w w' : World} {base : Nat} {v : Value} {ps : List (Value × List Ent)} (h : OwnP w base v ps) (hb : Below w.heap.size w w') : OwnP w' base v ps := own_below h hb
theorem OwnP.mono {w : World} {base base' : Nat} {v : Value} {ps : List (Value × List Ent)} (h : OwnP w base v ps) (hb : base' ≤ base) : OwnP w base' v ps := by
  refine ⟨h.1, ?_⟩
  rcases h.2 with h2 | ⟨g, cap, cur, hv, hg, r⟩
  · exact .inl h2
  · exact .inr ⟨g, cap, cur, hv, Nat.le_trans hb hg, r⟩
end Go.Proofs.YtbefmbjlogkmbaaGreat
