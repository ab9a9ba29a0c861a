/- The contracts of the program's cut and joining of pieces of entries. The contract of the model's Shown. -/
import Derived.Test.YtjnhhdnfncfedaaG27
import Derived.Laws.CopyOwn
import Derived.Test.YtjnhhdnfncfedaaG07
namespace Go.Proofs.Ytjnhhdnfncfedaa
open Go.RowKit
theorem Try.info29 : (Try.prog.info? 29).map (fun i => (i.zero, i.size, i.bytes)) = some (some (.slice none 0 0), 1, 24) := by kernel_rfl
theorem belowN {B : Nat} {a w : World} (h : Below B a w) (n : Nat) : Below B a (w.drewN n) := ⟨h.os, h.tape, h.output, h.size, h.block⟩
/-- A row of slices, each of entries that can be read. -/
def Pieces (w : World) (v : Value) (ps : List (Value × List Ent)) : Prop :=
  (v = .slice none 0 0 ∧ ps = []) ∨ ∃ b off cap, v = .slice (some ⟨b, off, none⟩) ps.length cap ∧ ps.length ≤ cap ∧ cap ≤ maxLen ∧
    ∀ i (h : i < ps.length), w.cell? ⟨b, off + i, none⟩ = some (ps[i].1) ∧ RdE w ps[i].1 ps[i].2
/-- copy of entries that can be read into a row that is known whole. -/
theorem run_copy_ents (ty : TypeId) {w : World} {g off dLen dCap : Nat} {dp : Option Addr} {u : Value} {zs : List Ent} {cur : List Value} (hg : w.heap[g]? = some (.cells cur.toArray 43 (0, 0))) (hr : RdE w u zs)
    (hd : 0 < zs.length → dp = some ⟨g, off, none⟩) (hn : zs.length ≤ dLen) (hfit : off + zs.length * 4 ≤ cur.length) :
    ∃ w', (Builtin.copy_ #[29, 29] ty #[.slice dp dLen dCap, u]).run Try.prog w = .ok (goInt zs.length) w' ∧ w'.heap[g]? = some (.cells (splice cur off (EV zs)).toArray 43 (0, 0)) ∧ w.grownBy w' (some g) := by
  obtain ⟨i0, hi, hz0, hz1, hz2⟩ := info_parts Try.info43
  obtain ⟨a, cap, rfl, h1, h2, h0, h3⟩ := hr
  have hmin : Nat.min zs.length dLen = zs.length := Nat.min_eq_left hn
  by_cases hz : zs.length = 0
  · obtain rfl : zs = [] := List.eq_nil_of_length_eq_zero hz
    refine ⟨w, ?_, by simpa [splice, EV] using hg, ⟨rfl, rfl, rfl, Nat.le_refl _, fun _ _ _ => rfl⟩⟩
    cases dp <;> cases a <;> simp [Builtin.copy_, run_underlying Try.underlying29, Builtin.lenOf, Builtin.firstCells, sizeOf, typeInfo, hi, storeCells, loadCells, loadCellsFrom]
  · rcases h3 with rfl | ⟨b, o, rfl, hc⟩
    · simp at hz
    obtain rfl := hd (by omega)
    have hcells := entsAt_cells hc
    have hl := run_loadCells_list (P := Try.prog) w ⟨b, o, none⟩ (EV zs) hcells
    have hst := run_storeCells_at Try.prog g off 43 (EV zs) 0 cur.toArray w hg (by rw [EV_length]; simpa using hfit) (EV_oneCell zs)
    refine ⟨_, ?_, setRow_heap w g cur.toArray _ _ _ hg, ⟨rfl, rfl, rfl, by simp [World.setRow], fun k _ hk => setRow_other w g k _ (fun e => hk (by simp [e]))⟩⟩
    rw [EV_length] at hl
    simp [Builtin.copy_, run_underlying Try.underlying29, Builtin.lenOf, Builtin.firstCells, sizeOf, typeInfo, hi, hz1, hmin, hl, hst, splice]
theorem wpList_copy_ents {w : World} {ops : Array Oper} {rest : List Oper} {o : Oper} {a : Act} {Q : Exit → Act → World → Prop} (hgd : o.guard = none) (d s : Operand)
    (ho : o.op = .call { callee := .builtin .copy, args := #[d, s], argTypes := #[29, 29] }) (dp : Option Addr) (dLen dCap : Nat) (u : Value) (hd : a.eval d = .slice dp dLen dCap) (hs : a.eval s = u)
    (g off : Nat) (cur : List Value) (zs : List Ent) (hg : w.heap[g]? = some (.cells cur.toArray 43 (0, 0))) (hr : RdE w u zs) (hdp : 0 < zs.length → dp = some ⟨g, off, none⟩) (hn : zs.length ≤ dLen) (hfit : off + zs.length * 4 ≤ cur.length)
    (h : ∀ w', Hid (w'.heap[g]? = some (.cells (splice cur off (EV zs)).toArray 43 (0, 0))) → w.grownBy w' (some g) → wpList Try.prog ops Q rest (a.put o.dst (goInt zs.length)) w') : wpList Try.prog ops Q (o :: rest) a w := by
  refine wpList_plain hgd fun K hK => ?_
  obtain ⟨w', hrun, r1, r2⟩ := run_copy_ents o.type (dCap := dCap) hg hr hdp hn hfit
  unfold Oper.wp
  simp [execOp, ho, resolve, invoke, builtin, hd, hs, hrun, Result.andThen]
  exact hK _ _ (h w' r1 r2)
theorem splice_ents (ds zs rs : List Ent) (h : zs.length ≤ rs.length) : splice (EV (ds ++ rs)) (ds.length * 4) (EV zs) = EV (ds ++ zs ++ rs.drop zs.length) := by
  have hl : (EV ds).length = ds.length * 4 := EV_length ds
  have hd : EV rs = EV (rs.take zs.length) ++ EV (rs.drop zs.length) := by rw [← EV_append, List.take_append_drop]
  have ht : (EV (rs.take zs.length)).length = zs.length * 4 := by rw [EV_length, List.length_take]; omega
  unfold splice
  rw [EV_append, List.take_append_of_le_length (by omega), List.take_of_length_le (by omega), EV_length, List.drop_append, List.drop_eq_nil_of_le (by omega), List.nil_append, hl,
    show ds.length * 4 + zs.length * 4 - ds.length * 4 = zs.length * 4 by omega, hd, List.drop_append, List.drop_eq_nil_of_le (by omega), List.nil_append, ht, Nat.sub_self, List.drop_zero, EV_append, EV_append, List.append_assoc]
/-- The entries of all pieces, one behind the other. -/
def joinE (ps : List (Value × List Ent)) : List Ent := ps.flatMap (·.2)
theorem joinE_succ (ps : List (Value × List Ent)) (k : Nat) (h : k < ps.length) : joinE (ps.take (k + 1)) = joinE (ps.take k) ++ ps[k].2 := by
  unfold joinE; rw [List.take_succ_eq_append_getElem h, List.flatMap_append]; simp
theorem joinE_le (ps : List (Value × List Ent)) (k : Nat) : (joinE (ps.take k)).length ≤ (joinE ps).length := by
  have : joinE ps = joinE (ps.take k) ++ joinE (ps.drop k) := by unfold joinE; rw [← List.flatMap_append, List.take_append_drop]
  rw [this, List.length_append]; omega
theorem row_of_heap {w : World} {B g n : Nat} {es : List Ent} (hn : n = es.length) (hB : B ≤ g) (hm : n ≤ maxLen) (hg : w.heap[g]? = some (.cells (EV es).toArray 43 (0, 0))) : OwnE w B (.slice (some ⟨g, 0, none⟩) n n) es := by
  subst hn
  refine ⟨by rw [EV_length], .inr ⟨g, es.length, _, rfl, hB, hg, Nat.le_refl _, hm, by simp [EV_length], ?_⟩⟩
  rw [List.take_of_length_le (by simp [EV_length])]
theorem heap_of_row {w : World} {B g n : Nat} {es : List Ent} (hn : n = es.length) (h : w.ownsRow B 43 4 (.slice (some ⟨g, 0, none⟩) n n) n (EV es)) : w.heap[g]? = some (.cells (EV es).toArray 43 (0, 0)) := by
  subst hn
  rcases h.2 with ⟨h0, _⟩ | ⟨g', cap, cur, hv, hb, hg, hc, hm, hs, ht⟩
  · cases h0
  · simp only [Value.slice.injEq, Option.some.injEq, Addr.mk.injEq, and_true] at hv
    obtain ⟨rfl, _, rfl⟩ := hv
    rw [hg, ← ht, List.take_of_length_le (by rw [Array.length_toList]; omega)]
theorem Pieces.below {w w' : World} {v : Value} {ps : List (Value × List Ent)} (h : Pieces w v ps) (hb : Below w.heap.size w w') : Pieces w' v ps := by
  rcases h with h | ⟨b, off, cap, hv, h1, h2, hc⟩
  · exact .inl h
  · exact .inr ⟨b, off, cap, hv, h1, h2, fun i hi => ⟨by rw [hb.cell (World.block_lt_of_cell? w _ (hc i hi).1)]; exact (hc i hi).1, (hc i hi).2.below hb⟩⟩
theorem rdE_mid {w : World} {b off n cap i j : Nat} {es : List Ent} (h : RdE w (.slice (some ⟨b, off, none⟩) n cap) es) (hij : i ≤ j) (hj : j ≤ es.length) : RdE w (.slice (some ⟨b, off + i * 4, none⟩) (j - i) (j - i)) ((es.take j).drop i) := by
  obtain ⟨a', cap', hv, h1, h2, h0, h3⟩ := h
  simp only [Value.slice.injEq] at hv
  obtain ⟨rfl, _, rfl⟩ := hv
  have hl : ((es.take j).drop i).length = j - i := by rw [List.length_drop, List.length_take]; omega
  refine ⟨_, _, by rw [hl], by omega, by omega, (fun h => by cases h), ?_⟩
  rcases h3 with rfl | ⟨b', off', ha, hc⟩
  · exact .inl (by simp)
  · cases ha
    refine .inr ⟨b, off + i * 4, rfl, fun k hk => ?_⟩
    rw [hl] at hk
    rw [nth_drop (by rw [List.length_take]; omega), nth_take (by omega) (by omega), show off + i * 4 + k * 4 = off + (i + k) * 4 by omega]
    exact hc (i + k) (by omega)
end Go.Proofs.Ytjnhhdnfncfedaa
namespace Go.Proofs.Ytjnhhdnfncfedaa
open Go.RowKit
theorem entAt_boxS (W : World) (x : Ent) (t : TypeId) : EntAt (W.alloc (.cells #[.string x.key, .string x.val, .int .i64 x.seq, .bool x.gone] t)) W.heap.size 0 x :=
  ⟨by simp [World.cell?_alloc_at], by simp [World.cell?_alloc_at], by simp [World.cell?_alloc_at], by simp [World.cell?_alloc_at]⟩
theorem rdE_oneS {w : World} {b : Nat} {x : Ent} (h : EntAt w b 0 x) : RdE w (.slice (some ⟨b, 0, none⟩) 1 1) [x] :=
  ⟨_, 1, rfl, Nat.le_refl _, by decide, (fun h => by cases h), .inr ⟨b, 0, rfl, fun i hi => by
    have : i = 0 := by simpa using hi
    subst this
    exact h⟩⟩
theorem lastK_yes {es : List Ent} {q : Int} {i : Nat} (h : (nth es i).seq ≤ q) : lastK es q (i + 1) = (nth es i).key := by rw [lastK, if_pos h]
theorem lastK_no {es : List Ent} {q : Int} {i : Nat} (h : ¬ (nth es i).seq ≤ q) : lastK es q (i + 1) = lastK es q i := by rw [lastK, if_neg h]
/-- What Shown leaves. -/
def RowPost (w : World) (ys : List Ent) (e : Ending) (w' : World) : Prop :=
  ∃ u, e = .returned u ∧ OwnE w' w.heap.size u ys ∧ Below w.heap.size w w'
end Go.Proofs.Ytjnhhdnfncfedaa
