/- Appends of bytes that can be read, rows of slices of bytes, and the contract of the program's inRow. -/
import Derived.Test.YtilhaokiohbeeaaGreatDoorG02
import Derived.Test.YtilhaokiohbeeaaGreatDoorG00
import Derived.Test.YtilhaokiohbeeaaGreatDoorG22
-- UNF Gen
namespace Go.Proofs.YtilhaokiohbeeaaGreatDoor
open Go.RowKit
theorem run_append_byts (ty : TypeId) {w : World} {base : Nat} {v u : Value} {ys zs : List UInt8} (hown : Own w base v ys) (hr : Rd w u zs) (hn : NilOk u) (hl : ys.length + zs.length ≤ 1000000000) (hbase : base ≤ w.heap.size) :
    ∃ v' w', (Builtin.append_ #[22, 22] ty #[v, u]).run Tryz.prog w = .ok v' w' ∧ Own w' base v' (ys ++ zs) ∧ w.grownBy w' v.ownBlock := by
  obtain ⟨i0, hi, hz0, hz1, hz2⟩ := info_parts Tryz.info5
  obtain ⟨a, cap, rfl, h1, h2, h3⟩ := hr
  have more : ∀ {w1 : World} {v' : Value}, w1.ownsRow base 5 1 v' (ys.length + zs.length) (BV ys ++ BV zs) → Own w1 base v' (ys ++ zs) := fun h => by unfold Own; rw [BV_append, List.length_append]; exact h
  have row : ∀ ad, (∀ j u, (BV zs)[j]? = some u → w.cell? (ad.add j) = some u) → ∃ v' w', (Builtin.append_ #[22, 22] ty #[v, .slice (some ad) zs.length cap]).run Tryz.prog w = .ok v' w' ∧ Own w' base v' (ys ++ zs) ∧ w.grownBy w' v.ownBlock := by
    intro ad hc
    obtain ⟨v', w', hrun, r1, r2, _⟩ := run_append_own (P := Tryz.prog) w base 22 ty 5 i0 _ 1 1 Tryz.underlying22 hi hz0 hz1 hz2 rfl (by decide) v ys.length (BV ys) hown ad zs.length cap (BV zs) (by rw [BV_length]; omega) hc (fun u hu => by obtain ⟨_, _, rfl⟩ := List.mem_map.1 hu; rfl) (by unfold maxLen; omega) (by omega) hbase
    exact ⟨v', w', hrun, more r1, r2⟩
  cases a with
  | some ad =>
    refine row ad ?_
    rcases h3 with rfl | ⟨b, off, ha, hc⟩
    · intro j u hj; simp [BV] at hj
    · cases ha
      intro j u hj
      have hjl : j < zs.length := by have := (List.getElem?_eq_some_iff.1 hj).1; rwa [BV_length] at this
      rw [BV_get zs j hjl] at hj
      cases hj
      rw [Addr.add_lit]
      exact hc j hjl
  | none =>
    have hc0 := hn _ _ rfl
    subst hc0
    rcases h3 with rfl | ⟨b, off, ha, hc⟩
    · refine ⟨v, w, run_append_owned_none (P := Tryz.prog) w base 22 ty 5 i0 1 Tryz.underlying22 hi v ys.length (BV ys) hown, by simpa using hown, ⟨rfl, rfl, rfl, Nat.le_refl _, fun _ _ _ => rfl⟩⟩
    · cases ha
theorem wpList_append_byts {w : World} {ops : Array Oper} {rest : List Oper} {o : Oper} {a : Act} {Q : Exit → Act → World → Prop} (hgd : o.guard = none) (s x : Operand)
    (ho : o.op = .call { callee := .builtin .append, args := #[s, x], argTypes := #[22, 22] }) (base : Nat) (v u : Value) (ys zs : List UInt8) (hs : a.eval s = v) (hx : a.eval x = u) (hown : Own w base v ys) (hr : Rd w u zs) (hn : NilOk u) (hl : ys.length + zs.length ≤ 1000000000) (hbase : base ≤ w.heap.size)
    (h : ∀ v' w', Own w' base v' (ys ++ zs) → w.grownBy w' v.ownBlock → wpList Tryz.prog ops Q rest (a.put o.dst v') w') : wpList Tryz.prog ops Q (o :: rest) a w := by
  refine wpList_plain hgd fun K hK => ?_
  obtain ⟨v', w', hrun, r1, r2⟩ := run_append_byts o.type hown hr hn hl hbase
  unfold Oper.wp
  simp [execOp, ho, resolve, invoke, builtin, hs, hx, hrun, Result.andThen]
  exact hK _ _ (h v' w' r1 r2)
theorem step_append_byts {w : World} {ops : Array Oper} {o : Oper} {a : Act} {K : Act → World → Prop} {Q : Exit → Act → World → Prop} {E : Prop} (hgd : o.guard = none) (d : Nat) (hd : o.dst = some d) (s x : Operand)
    (ho : o.op = .call { callee := .builtin .append, args := #[s, x], argTypes := #[22, 22] }) (base : Nat) (v u : Value) (ys zs : List UInt8) (hs : a.eval s = v) (hx : a.eval x = u) (hown : Own w base v ys) (hr : Rd w u zs) (hn : NilOk u) (hl : ys.length + zs.length ≤ 1000000000) (hbase : base ≤ w.heap.size)
    (h : ∀ v' w', Own w' base v' (ys ++ zs) → w.grownBy w' v.ownBlock → K (a.put (some d) v') w') :
    if Region.wanted o (yielded ops a.tmps) = true then Oper.wp Tryz.prog o a w K Q else E := by
  have hw : Region.wanted o (yielded ops a.tmps) = true := by simp [Region.wanted, hgd]
  rw [if_pos hw]
  obtain ⟨v', w', hrun, r1, r2⟩ := run_append_byts o.type hown hr hn hl hbase
  unfold Oper.wp
  simp [execOp, ho, resolve, invoke, builtin, hs, hx, hrun, Result.andThen]
  have h' := h v' w' r1 r2
  rw [← hd] at h'
  exact h'
/-- A row of slices of bytes, in the call's own memory. -/
def RV (us : List (Value × List UInt8)) : List Value := us.map (·.1)
theorem RV_length (us : List (Value × List UInt8)) : (RV us).length = us.length := by simp [RV]
theorem RV_append (a b : List (Value × List UInt8)) : RV (a ++ b) = RV a ++ RV b := by simp [RV]
def OwnR (w : World) (base : Nat) (v : Value) (us : List (Value × List UInt8)) : Prop := w.ownsRow base 22 1 v us.length (RV us)
/-- Slices that can be read and hold these bytes. -/
def InR (w : World) (us : List (Value × List UInt8)) : Prop := ∀ u ∈ us, Rd w u.1 u.2 ∧ NilOk u.1
theorem InR.below {w w' : World} {us : List (Value × List UInt8)} (h : InR w us) (hb : Below w.heap.size w w') : InR w' us := fun u hu => ⟨(h u hu).1.below hb, (h u hu).2⟩
def RdR (w : World) (v : Value) (us : List (Value × List UInt8)) : Prop :=
  (∃ a cap, v = .slice a us.length cap ∧ us.length ≤ cap ∧ cap ≤ maxLen ∧ (us = [] ∨ ∃ b off, a = some ⟨b, off, none⟩ ∧ ∀ i (h : i < us.length), w.cell? ⟨b, off + i, none⟩ = some us[i].1)) ∧ InR w us
theorem OwnR.rd {w : World} {base : Nat} {v : Value} {us : List (Value × List UInt8)} (h : OwnR w base v us) (hi : InR w us) : RdR w v us := by
  refine ⟨?_, hi⟩
  have h' := h
  rcases h.2 with ⟨rfl, h0⟩ | ⟨g, cap, cur, rfl, hb, hg, hn, hc, hs, ht⟩
  · exact ⟨none, 0, by rw [h0], by omega, Nat.zero_le _, .inl (List.length_eq_zero_iff.1 h0)⟩
  · refine ⟨_, cap, rfl, hn, hc, .inr ⟨g, 0, rfl, fun i hi => ?_⟩⟩
    have := World.ownsRow.cellAt h' i (by omega)
    rw [Nat.zero_add, this]
    simp [RV, hi]
theorem OwnR.below {w w' : World} {base : Nat} {v : Value} {us : List (Value × List UInt8)} (h : OwnR w base v us) (hb : Below w.heap.size w w') : OwnR w' base v us := own_below h hb
/-- A row of slices written out. -/
theorem ownR_lit (w : World) (us : List (Value × List UInt8)) (h : us.length ≤ maxLen) : OwnR (w.alloc (.cells (RV us).toArray 22)) w.heap.size (.slice (some ⟨w.heap.size, 0, none⟩) us.length us.length) us :=
  World.ownsRow_lit w (RV us).toArray us.length (Nat.le_refl _) h (by simp [RV])
set_option maxHeartbeats 2000000 in
set_option maxRecDepth 100000 in
theorem inRow_any (v : Value) (us : List (Value × List UInt8)) (w : World) (hr : RdR w v us) (hz : ∀ u ∈ us, u.2.length ≤ 700000) (hn : us.length ≤ 40) :
    Calls Tryz.prog 240 #[v] w fun e w' => ∃ u, e = .returned u ∧ Own w' w.heap.size u (inR (us.map (·.2))) ∧ Below w.heap.size w w' := by
  obtain ⟨⟨a, cap, rfl, hl, hm, hA⟩, hI⟩ := hr
  unfold maxLen at hm
  obtain ⟨n, hn'⟩ : ∃ n, n = us.length := ⟨_, rfl⟩
  have HN : Hid (n = us.length) := hn'
  obtain ⟨T, hT⟩ : ∃ T, T = inR (us.map (·.2)) := ⟨_, rfl⟩
  have HT : Hid (T = inR (us.map (·.2))) := hT
  have HZ : Hid (∀ u ∈ us, u.2.length ≤ 700000) := hz
  have HI : Hid (InR w us) := hI
  have HA : Hid (∀ i (h : i < us.length), ∃ b off, a = some ⟨b, off, none⟩ ∧ w.cell? ⟨b, off + i, none⟩ = some us[i].1) := fun i h => by
    rcases hA with rfl | ⟨b, off, ha, hc⟩
    · simp at h
    · exact ⟨b, off, ha, hc i h⟩
  rw [← hT]
  rw [← hn'] at hl hn ⊢
  clear hn' hT hz hI hA
  go_enter Tryz.func240, Tryz.ntmps240
  go_wp2
  go_loopw [3, 9] (fun oo ii wr => ∃ (k : Nat) (oa : Option Addr) (on oc : Nat), k ≤ n ∧ ii = .int .i64 k ∧ oo = .slice oa on oc ∧ Hid (Own wr w.heap.size (.slice oa on oc) (((us.map (·.2)).take k).flatten)) ∧ Hid (Below w.heap.size w wr) ∧ Hid (∀ j (h : j < us.length), j < k → us[j].2 ≠ []) ∧ Hid ((((us.map (·.2)).take k).flatten).length ≤ 700000 * k)) (fun _ ii _ => n - (intOf ii).toNat)
  case atStart => exact ⟨0, some ⟨w.heap.size, 0, none⟩, 0, 0, Nat.zero_le _, rfl, rfl, own_none w, below1 w _, fun j h h' => by omega, by unfold Hid; simp⟩
  case round =>
    obtain ⟨k, oa, on, oc, hk, rfl, rfl, HO, HB, HJ, HL⟩ := hrel
    by_cases hlt : k < n
    · have hku : k < us.length := by rw [← HN.out]; exact hlt
      obtain ⟨b, off, rfl, hc⟩ := HA.out k hku
      obtain ⟨u, hu⟩ : ∃ u, u = us[k] := ⟨_, rfl⟩
      rw [← hu] at hc
      have HU : Hid (u = us[k]) := hu
      have HRu : Hid (Rd w u.1 u.2 ∧ NilOk u.1) := HI.out u (by rw [hu]; exact List.getElem_mem hku)
      have HZu : Hid (u.2.length ≤ 700000) := HZ.out u (by rw [hu]; exact List.getElem_mem hku)
      have HC : Hid (∀ V, Below w.heap.size w V → V.cell? ⟨b, off + k, none⟩ = some u.1) := fun V hb => (Below.cell hb (p := ⟨b, off + k, none⟩) (World.block_lt_of_cell? w _ hc)).trans hc
      have hcr := HC.out _ HB.out
      obtain ⟨ua, uc, hus⟩ := HRu.out.1.shape
      obtain ⟨uv, ub⟩ := u
      simp only at hus hcr HRu HZu HU
      subst hus
      obtain ⟨m, hm'⟩ : ∃ m, m = ub.length := ⟨_, rfl⟩
      have HM : Hid (m = ub.length) := hm'
      rw [← hm'] at hcr HRu
      have hmz : m ≤ 700000 := by rw [hm']; exact HZu.out
      have hk1 : (k : Int) < (n : Int) := by omega
      have HF : Hid (((us.map (·.2)).take (k + 1)).flatten = ((us.map (·.2)).take k).flatten ++ ub) := by
        unfold Hid
        rw [flat_snoc _ k (by simpa using hku)]
        simp [← HU.out]
      clear hu hc HC hm'
      by_cases h0 : m = 0
      · have RES : Hid (T = []) := by
          unfold Hid
          rw [HT.out]
          exact inR_empty (k := k) (by simpa using hku) (by rw [List.getElem_map, ← HU.out]; exact List.length_eq_zero_iff.1 (by rw [← HM.out]; exact h0))
        subst h0
        have hsz := HB.out.size
        have BZ := HB.out.alloc hsz (.cells #[] 5)
        have OZ := (own_none wr).mono hsz
        go_wp2
        go_ret
        exact ⟨_, rfl, by rw [RES.out]; exact OZ, BZ⟩
      · have hmn : ((m : Int) == 0) = false := by simp; omega
        have HO' := HO.out
        have HRr : Rd wr (.slice ua m uc) ub := HRu.out.1.below HB.out
        have hsz := HB.out.size
        have hll : (((us.map (·.2)).take k).flatten).length + ub.length ≤ 1000000000 := by have h1 := HL.out; have h2 := HM.out; omega
        go_wp2_with (at_builtin; (refine wpList_append_byts rfl _ _ rfl w.heap.size (.slice oa on oc) (.slice ua m uc) _ ub rfl rfl HO' HRr HRu.out.2 hll hsz ?_))
        intro v' w3 ho3 hg3
        obtain ⟨va, vc, hv⟩ := ownSlX ho3
        have HO3 : Hid (Own w3 w.heap.size v' (((us.map (·.2)).take (k + 1)).flatten)) := by unfold Hid; rw [HF.out]; exact ho3
        have HB3 : Hid (Below w.heap.size w w3) := HB.out.grown hg3 hsz (fun q hq => (World.ownsRow.lt HO' q hq).1)
        have HL3 : Hid ((((us.map (·.2)).take (k + 1)).flatten).length ≤ 700000 * (k + 1)) := by unfold Hid; rw [HF.out, List.length_append]; have h1 := HL.out; have h2 := HZu.out; omega
        have HJ3 : Hid (∀ j (h : j < us.length), j < k + 1 → us[j].2 ≠ []) := fun j h h' => by
          by_cases hjk : j = k
          · subst hjk
            rw [← HU.out]
            intro he
            have h2 := HM.out
            rw [show ub = [] from he] at h2
            simp at h2
            exact h0 h2
          · exact HJ.out j h (by omega)
        generalize (((us.map (·.2)).take k).flatten ++ ub).length = vn at hv
        subst hv
        clear ho3 hg3 HO' HRr hll hcr
        go_wp2
        go_roundw
        case rel => exact ⟨k + 1, va, vn, vc, by omega, by go_num, rfl, HO3, HB3, HJ3, HL3⟩
        case measure => simp [intOf]; omega
    · have hke : k = n := by omega
      subst hke
      have RES : Hid (((us.map (·.2)).take k).flatten = T) := by
        unfold Hid
        rw [HT.out, inR_full (fun j hj => by rw [List.getElem_map]; exact HJ.out j (by simpa using hj) (by rw [HN.out]; simpa using hj)), HN.out, List.take_of_length_le (by simp)]
      go_wp2
      go_ret
      exact ⟨_, rfl, by rw [← RES.out]; exact HO.out, HB.out⟩
end Go.Proofs.YtilhaokiohbeeaaGreatDoor
