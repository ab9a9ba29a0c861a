/- The contracts of the law's measure, copy and comparison of entries. The contracts of the program's cut and joining of pieces of entries. The contract of the model's Shown. -/
import Derived.Deep.RegionHeld3
import Derived.Test.YtbefmbjlogkmbaaGreatEntSpecPut
import Derived.Laws.CopyOwn
namespace Go.Proofs.YtbefmbjlogkmbaaGreat
set_option maxHeartbeats 16000000
set_option maxRecDepth 100000
open Go.RowKit
theorem made_EV (n : Nat) : (madeCells #[.string ⟨#[]⟩, .string ⟨#[]⟩, .int .i64 0, .bool false] (n * 4)).toList = EV (List.replicate n zeroE) := by
  apply List.ext_getElem?
  intro j
  by_cases hj : j < n * 4
  · have h1 : j / 4 < n := by omega
    have h2 := EV_get (List.replicate n zeroE) (j / 4) (by rw [List.length_replicate]; exact h1) (j % 4) (by omega)
    rw [show j / 4 * 4 + j % 4 = j by omega] at h2
    rw [h2, nth_eq (by rw [List.length_replicate]; exact h1), List.getElem_replicate]
    have h3 : j % 4 = 0 ∨ j % 4 = 1 ∨ j % 4 = 2 ∨ j % 4 = 3 := by omega
    rcases h3 with h | h | h | h <;> simp [madeCells, hj, h, EC, zeroE]
  · rw [List.getElem?_eq_none (by rw [Array.length_toList, size_madeCells]; omega), List.getElem?_eq_none (by rw [EV_length, List.length_replicate]; omega)]
theorem EV_setAt : ∀ (es : List Ent) (k : Nat), k < es.length → ∀ (j : Nat), j < 4 → ∀ (u : Value) (e' : Ent), (EC (nth es k)).set j u = EC e' → (EV es).set (k * 4 + j) u = EV (es.set k e')
  | [], k, h, _, _, _, _, _ => by simp at h
  | a :: r, 0, _, j, hj, u, e', h => by
    rw [nth_zero] at h
    rw [EV_cons, Nat.zero_mul, Nat.zero_add, List.set_append_left _ _ (by simp [EC]; exact hj), h, List.set_cons_zero, EV_cons]
  | a :: r, k + 1, hk, j, hj, u, e', h => by
    rw [nth_succ] at h
    rw [EV_cons, List.set_append_right _ _ (by simp [EC]; omega), List.set_cons_succ, EV_cons, ← EV_setAt r k (by simpa using hk) j hj u e' h]
    congr 2
    simp [EC]; omega
theorem ownE_store {w : World} {base g cap n : Nat} {es : List Ent} (ho : w.ownsRow base 89 4 (.slice (some ⟨g, 0, none⟩) n cap) n (EV es)) {k j : Nat} (hk : k < es.length) (hj : j < 4) {u : Value} {e' : Ent} (h : (EC (nth es k)).set j u = EC e') :
    (w.setCell ⟨g, k * 4 + j, none⟩ u).ownsRow base 89 4 (.slice (some ⟨g, 0, none⟩) n cap) n (EV (es.set k e')) := by
  have := (ho.stored (k * 4 + j) u).1
  rwa [EV_setAt es k hk j hj u e' h] at this
theorem nth_set_same {es : List Ent} {k : Nat} (hk : k < es.length) (e : Ent) : nth (es.set k e) k = e := by
  rw [nth_eq (by rw [List.length_set]; exact hk), List.getElem_set_self]
theorem ownE_store4 {w : World} {base g cap n : Nat} {es : List Ent} (ho : w.ownsRow base 89 4 (.slice (some ⟨g, 0, none⟩) n cap) n (EV es)) {k : Nat} (hk : k < es.length) (x : Ent) :
    ((((w.setCell ⟨g, k * 4, none⟩ (.string x.key)).setCell ⟨g, k * 4 + 1, none⟩ (.string x.val)).setCell ⟨g, k * 4 + 2, none⟩ (.int .i64 x.seq)).setCell ⟨g, k * 4 + 3, none⟩ (.bool x.gone)).ownsRow base 89 4 (.slice (some ⟨g, 0, none⟩) n cap) n (EV (es.set k x)) := by
  have h0 := ownE_store ho hk (j := 0) (by omega) (u := .string x.key) (e' := { nth es k with key := x.key }) rfl
  have h1 := ownE_store h0 (k := k) (j := 1) (by rw [List.length_set]; exact hk) (by omega) (u := .string x.val) (e' := { nth es k with key := x.key, val := x.val }) (by rw [nth_set_same hk]; rfl)
  rw [List.set_set] at h1
  have h2 := ownE_store h1 (k := k) (j := 2) (by rw [List.length_set]; exact hk) (by omega) (u := .int .i64 x.seq) (e' := { nth es k with key := x.key, val := x.val, seq := x.seq }) (by rw [nth_set_same hk]; rfl)
  rw [List.set_set] at h2
  have h3 := ownE_store h2 (k := k) (j := 3) (by rw [List.length_set]; exact hk) (by omega) (u := .bool x.gone) (e' := x) (by rw [nth_set_same hk]; rfl)
  rw [List.set_set] at h3
  exact h3
theorem cpE_step (bs : List Ent) (z : Ent) (k : Nat) (h : k < bs.length) : (bs.take k ++ List.replicate (bs.length - k) z).set k (nth bs k) = bs.take (k + 1) ++ List.replicate (bs.length - (k + 1)) z := by
  have hl : (bs.take k).length = k := by rw [List.length_take]; omega
  rw [List.set_append_right _ _ (by omega), hl, Nat.sub_self]
  obtain ⟨m, hm⟩ : ∃ m, bs.length - k = m + 1 := ⟨bs.length - k - 1, by omega⟩
  have hm2 : bs.length - (k + 1) = m := by omega
  rw [hm, hm2, List.replicate_succ, List.set_cons_zero, List.take_succ_eq_append_getElem h, List.append_assoc, List.singleton_append, nth_eq h]
theorem cpE_len (bs : List Ent) (z : Ent) (k : Nat) (h : k ≤ bs.length) : (bs.take k ++ List.replicate (bs.length - k) z).length = bs.length := by
  rw [List.length_append, List.length_take, List.length_replicate]; omega
theorem toEntry_any (x : Ent) (w : World) :
    Calls Tryz.prog 62 #[.agg #[.string x.key, .string x.val, .int .i64 x.seq, .bool x.gone]] w fun e w' => e = .returned (.agg #[.string x.key, .string x.val, .int .i64 x.seq, .bool x.gone]) ∧ Below w.heap.size w w' := by
  go_enter Tryz.func62, Tryz.ntmps62
  go_wp2
  refine bodyPost_ret (v := .agg #[.string x.key, .string x.val, .int .i64 x.seq, .bool x.gone]) (by simp [results, Tryz.results62, go_sem]) rfl ⟨rfl, (below2 _ _ _).alloc (by simp; omega) _⟩
theorem toEnts_any (v : Value) (bs : List Ent) (w : World) (hr : RdE w v bs) (hs : bs.length ≤ 1073741824) :
    Calls Tryz.prog 28 #[v] w fun e w' => ∃ u, e = .returned u ∧ OwnE w' w.heap.size u bs ∧ Below w.heap.size w w' := by
  obtain ⟨i0, hi, hz0, hz1, hz2⟩ := info_parts Tryz.info89
  obtain ⟨a, cap, hv, hl, hm, _⟩ := id hr
  unfold maxLen at hm
  subst hv
  go_enter Tryz.func28, Tryz.ntmps28
  go_wp2_with (at_make; (refine wpList_make_full _ rfl _ _ 30 rfl w.heap.size 89 i0 _ 4 Tryz.underlying30 hi hz0 hz1 .i64 .i64 (bs.length : Int) (bs.length : Int) bs.length rfl rfl rfl rfl ?c1 ?c2 ?c3 ?_))
  case c1 => rw [hz2]; omega
  case c2 => unfold maxLen; omega
  case c3 => omega
  intro w1 ho1 hg1
  rw [made_EV] at ho1
  have hb1 : Below w.heap.size w w1 := (Below.refl _ _).grown hg1 (Nat.le_refl _) (fun k hk => by cases hk)
  clear hg1
  go_wp2
  go_loopw [4] (fun i wr => ∃ k : Nat, k ≤ bs.length ∧ i = .int .i64 k ∧ wr.ownsRow w.heap.size 89 4 (.slice (some ⟨w.heap.size, 0, none⟩) bs.length bs.length) bs.length (EV (bs.take k ++ List.replicate (bs.length - k) zeroE)) ∧ Below w.heap.size w wr) (fun i _ => bs.length - (intOf i).toNat)
  case atStart => exact ⟨0, Nat.zero_le _, rfl, by simpa using ho1, hb1⟩
  case round =>
    obtain ⟨k, hk, rfl, ho, hb⟩ := hrel
    clear ho1 hb1
    by_cases hlt : k < bs.length
    · obtain ⟨b, off, rfl, hc⟩ := (hr.below hb).at rfl k hlt
      obtain ⟨x, hx⟩ : ∃ x, x = nth bs k := ⟨_, rfl⟩
      rw [← hx] at hc
      have HX : Hid (x = nth bs k) := hx
      clear hx
      obtain ⟨c0, c1, c2, c3⟩ := hc
      go_wp2_with fail
      refine (toEntry_any x _).mono ?_
      rintro e w1 ⟨rfl, hb1⟩
      have ho1 := own_below ho hb1
      have hlen := cpE_len bs zeroE k hk
      obtain ⟨d0, d1, d2, d3⟩ := ownE_cell ho1 hlen.symm k hlt
      have f0 := ho1.frozenAt (k * 4)
      have f1 := ho1.frozenAt (k * 4 + 1)
      have f2 := ho1.frozenAt (k * 4 + 2)
      have f3 := ho1.frozenAt (k * 4 + 3)
      have R1 := ownE_store4 ho1 (k := k) (by rw [hlen]; exact hlt) x
      rw [HX.out, cpE_step bs zeroE k hlt, ← HX.out] at R1
      have R2 := hb.trans (hb1.mono hb.size)
      have H1 : Hid (World.ownsRow _ _ _ _ _ _ _) := R1
      clear ho ho1 hb hb1 R1
      go_wp2
      go_roundw
      case rel => exact ⟨k + 1, by omega, by go_num, H1.out, (((R2.setCell (Nat.le_refl _) _).setCell (Nat.le_refl _) _).setCell (Nat.le_refl _) _).setCell (Nat.le_refl _) _⟩
      case measure => simp [intOf]; omega
    · have hke : k = bs.length := by omega
      subst hke
      have H1 : OwnE wr w.heap.size (.slice (some ⟨w.heap.size, 0, none⟩) bs.length bs.length) bs := by unfold OwnE; simpa using ho
      clear ho
      go_wp2
      go_ret
      exact ⟨_, rfl, H1, hb⟩
theorem eqEntry_same (x : Ent) (w : World) :
    Calls Tryz.prog 68 #[.agg #[.string x.key, .string x.val, .int .i64 x.seq, .bool x.gone], .agg #[.string x.key, .string x.val, .int .i64 x.seq, .bool x.gone]] w fun e w' => e = .returned (.bool true) ∧ Below w.heap.size w w' := by
  have h1 : (x.seq != x.seq) = false := by simp
  have h2 : (x.gone != x.gone) = false := by simp
  go_enter Tryz.func68, Tryz.ntmps68
  go_wp2
  go_ret
  exact ⟨rfl, below2 _ _ _⟩
theorem eqEnts_same (va vb : Value) (es : List Ent) (w : World) (ha : RdE w va es) (hb : RdE w vb es) :
    Calls Tryz.prog 35 #[va, vb] w fun e w' => e = .returned (.bool true) ∧ Below w.heap.size w w' := by
  obtain ⟨aa, ca, hva, hla, hma, _⟩ := id ha
  obtain ⟨ab, cb, hvb, hlb, hmb, _⟩ := id hb
  subst hva
  subst hvb
  unfold maxLen at hma hmb
  have hne : ((es.length : Int) != (es.length : Int)) = false := by simp
  go_enter Tryz.func35, Tryz.ntmps35
  go_wp2
  go_loopw [5] (fun i wr => ∃ k : Nat, k ≤ es.length ∧ i = .int .i64 k ∧ Below w.heap.size w wr) (fun i _ => es.length - (intOf i).toNat)
  case atStart => exact ⟨0, Nat.zero_le _, rfl, Below.refl _ _⟩
  case round =>
    obtain ⟨k, hk, rfl, hbw⟩ := hrel
    by_cases hlt : k < es.length
    · obtain ⟨b1, o1, rfl, hc1⟩ := (ha.below hbw).at rfl k hlt
      obtain ⟨b2, o2, rfl, hc2⟩ := (hb.below hbw).at rfl k hlt
      obtain ⟨x, hx⟩ : ∃ x, x = nth es k := ⟨_, rfl⟩
      rw [← hx] at hc1 hc2
      clear hx
      go_wp2_with fail
      refine wp_region_noPanic ?_
      refine wp_region_held_drew (S := fun w' => EntAt w' b1 (o1 + k * 4) x ∧ EntAt w' b2 (o2 + k * 4) x) (by kernel_rfl) ⟨hc1, hc2⟩ (fun hH => ?_)
      refine tkA 0 17 hH ?_; try simp only [Act.put, sA, sZ, sS]
      refine tkA 1 18 hH ?_; try simp only [Act.put, sA, sZ, sS]
      refine tkA 2 19 hH ?_; try simp only [Act.put, sA, sZ, sS]
      refine tkA 3 20 hH ?_; try simp only [Act.put, sA, sZ, sS]
      refine tkA 4 21 hH ?_; try simp only [Act.put, sA, sZ, sS]
      refine tkA 5 22 hH ?_; try simp only [Act.put, sA, sZ, sS]
      refine tkA 6 23 hH ?_; try simp only [Act.put, sA, sZ, sS]
      refine tkA 7 24 hH ?_; try simp only [Act.put, sA, sZ, sS]
      refine wpAnyH_ready (rs := [8]) (by kernel_rfl) (by simp) ?_
      refine AllReadyH.cons rfl (fun K hK => ?_) AllReadyH.nil
      go_simp
      refine (eqEntry_same x _).mono ?_
      rintro e w1 ⟨rfl, hb1⟩
      refine hK.out _ _ ⟨hH.1.below hb1, hH.2.below hb1⟩ (fun hA => ?_)
      clear hK K
      try simp only [Act.put, sA, sZ, sS]
      refine tkA 9 26 hA ?_; try simp only [Act.put, sA, sZ, sS]
      refine wpAnyH_done (by kernel_rfl) ?_ _
      refine NoPanic.normal ?_
      have bz := hbw.drew.trans (hb1.mono hbw.size)
      clear hH hA hc1 hc2
      go_wp2
      go_roundw
      case rel => exact ⟨k + 1, by omega, by go_num, bz⟩
      case measure => simp [intOf]; omega
    · go_wp2
      go_ret
      exact ⟨rfl, hbw⟩
open Go.RowKit
def Pieces (w : World) (v : Value) (ps : List (Value × List Ent)) : Prop :=
  (v = .slice none 0 0 ∧ ps = []) ∨ ∃ b off cap, v = .slice (some ⟨b, off, none⟩) ps.length cap ∧ ps.length ≤ cap ∧ cap ≤ maxLen ∧
    ∀ i (h : i < ps.length), w.cell? ⟨b, off + i, none⟩ = some (ps[i].1) ∧ RdE w ps[i].1 ps[i].2
theorem run_copy_ents (ty : TypeId) {w : World} {g off dLen dCap : Nat} {dp : Option Addr} {u : Value} {zs : List Ent} {cur : List Value} (hg : w.heap[g]? = some (.cells cur.toArray 89 (0, 0))) (hr : RdE w u zs)
    (hd : 0 < zs.length → dp = some ⟨g, off, none⟩) (hn : zs.length ≤ dLen) (hfit : off + zs.length * 4 ≤ cur.length) :
    ∃ w', (Builtin.copy_ #[30, 30] ty #[.slice dp dLen dCap, u]).run Tryz.prog w = .ok (goInt zs.length) w' ∧ w'.heap[g]? = some (.cells (splice cur off (EV zs)).toArray 89 (0, 0)) ∧ w.grownBy w' (some g) := by
  obtain ⟨i0, hi, hz0, hz1, hz2⟩ := info_parts Tryz.info89
  obtain ⟨a, cap, rfl, h1, h2, h0, h3⟩ := hr
  have hmin : Nat.min zs.length dLen = zs.length := Nat.min_eq_left hn
  by_cases hz : zs.length = 0
  · obtain rfl : zs = [] := List.eq_nil_of_length_eq_zero hz
    refine ⟨w, ?_, by simpa [splice, EV] using hg, ⟨rfl, rfl, rfl, Nat.le_refl _, fun _ _ _ => rfl⟩⟩
    cases dp <;> cases a <;> simp [Builtin.copy_, run_underlying Tryz.underlying30, Builtin.lenOf, Builtin.firstCells, sizeOf, typeInfo, hi, storeCells, loadCells, loadCellsFrom]
  · rcases h3 with rfl | ⟨b, o, rfl, hc⟩
    · simp at hz
    obtain rfl := hd (by omega)
    have hcells := entsAt_cells hc
    have hl := run_loadCells_list (P := Tryz.prog) w ⟨b, o, none⟩ (EV zs) hcells
    have hst := run_storeCells_at Tryz.prog g off 89 (EV zs) 0 cur.toArray w hg (by rw [EV_length]; simpa using hfit) (EV_oneCell zs)
    refine ⟨_, ?_, setRow_heap w g cur.toArray _ _ _ hg, ⟨rfl, rfl, rfl, by simp [World.setRow], fun k _ hk => setRow_other w g k _ (fun e => hk (by simp [e]))⟩⟩
    rw [EV_length] at hl
    simp [Builtin.copy_, run_underlying Tryz.underlying30, Builtin.lenOf, Builtin.firstCells, sizeOf, typeInfo, hi, hz1, hmin, hl, hst, splice]
theorem wpList_copy_ents {w : World} {ops : Array Oper} {rest : List Oper} {o : Oper} {a : Act} {Q : Exit → Act → World → Prop} (hgd : o.guard = none) (d s : Operand)
    (ho : o.op = .call { callee := .builtin .copy, args := #[d, s], argTypes := #[30, 30] }) (dp : Option Addr) (dLen dCap : Nat) (u : Value) (hd : a.eval d = .slice dp dLen dCap) (hs : a.eval s = u)
    (g off : Nat) (cur : List Value) (zs : List Ent) (hg : w.heap[g]? = some (.cells cur.toArray 89 (0, 0))) (hr : RdE w u zs) (hdp : 0 < zs.length → dp = some ⟨g, off, none⟩) (hn : zs.length ≤ dLen) (hfit : off + zs.length * 4 ≤ cur.length)
    (h : ∀ w', Hid (w'.heap[g]? = some (.cells (splice cur off (EV zs)).toArray 89 (0, 0))) → w.grownBy w' (some g) → wpList Tryz.prog ops Q rest (a.put o.dst (goInt zs.length)) w') : wpList Tryz.prog ops Q (o :: rest) a w := by
  refine wpList_plain hgd fun K hK => ?_
  obtain ⟨w', hrun, r1, r2⟩ := run_copy_ents o.type (dCap := dCap) hg hr hdp hn hfit
  unfold Oper.wp
  simp [execOp, ho, resolve, invoke, builtin, hd, hs, hrun, Result.andThen]
  exact hK _ _ (h w' r1 r2)
theorem splice_ents (ds zs rs : List Ent) (h : zs.length ≤ rs.length) : splice (EV (ds ++ rs)) (ds.length * 4) (EV zs) = EV (ds ++ zs ++ rs.drop zs.length) := by
  have hl : (EV ds).length = ds.length * 4 := EV_length ds
  have hd : EV rs = EV (rs.take zs.length) ++ EV (rs.drop zs.length) := by rw [← EV_append, List.take_append_drop]
  have ht : (EV (rs.take zs.length)).length = zs.length * 4 := by rw [EV_length, List.length_take]; omega
  unfold splice
  rw [EV_append, List.take_append_of_le_length (by omega), List.take_of_length_le (by omega), EV_length, List.drop_append, List.drop_eq_nil_of_le (by omega), List.nil_append, hl,
    show ds.length * 4 + zs.length * 4 - ds.length * 4 = zs.length * 4 by omega, hd, List.drop_append, List.drop_eq_nil_of_le (by omega), List.nil_append, ht, Nat.sub_self, List.drop_zero, EV_append, EV_append, List.append_assoc]
def joinE (ps : List (Value × List Ent)) : List Ent := ps.flatMap (·.2)
theorem joinE_succ (ps : List (Value × List Ent)) (k : Nat) (h : k < ps.length) : joinE (ps.take (k + 1)) = joinE (ps.take k) ++ ps[k].2 := by
  unfold joinE; rw [List.take_succ_eq_append_getElem h, List.flatMap_append]; simp
theorem joinE_le (ps : List (Value × List Ent)) (k : Nat) : (joinE (ps.take k)).length ≤ (joinE ps).length := by
  have : joinE ps = joinE (ps.take k) ++ joinE (ps.drop k) := by unfold joinE; rw [← List.flatMap_append, List.take_append_drop]
  rw [this, List.length_append]; omega
theorem row_of_heap {w : World} {B g n : Nat} {es : List Ent} (hn : n = es.length) (hB : B ≤ g) (hm : n ≤ maxLen) (hg : w.heap[g]? = some (.cells (EV es).toArray 89 (0, 0))) : OwnE w B (.slice (some ⟨g, 0, none⟩) n n) es := by
  subst hn
  refine ⟨by rw [EV_length], .inr ⟨g, es.length, _, rfl, hB, hg, Nat.le_refl _, hm, by simp [EV_length], ?_⟩⟩
  rw [List.take_of_length_le (by simp [EV_length])]
theorem heap_of_row {w : World} {B g n : Nat} {es : List Ent} (hn : n = es.length) (h : w.ownsRow B 89 4 (.slice (some ⟨g, 0, none⟩) n n) n (EV es)) : w.heap[g]? = some (.cells (EV es).toArray 89 (0, 0)) := by
  subst hn
  rcases h.2 with ⟨h0, _⟩ | ⟨g', cap, cur, hv, hb, hg, hc, hm, hs, ht⟩
  · cases h0
  · simp only [Value.slice.injEq, Option.some.injEq, Addr.mk.injEq, and_true] at hv
    obtain ⟨rfl, _, rfl⟩ := hv
    rw [hg, ← ht, List.take_of_length_le (by rw [Array.length_toList]; omega)]
theorem Pieces.below {w w' : World} {v : Value} {ps : List (Value × List Ent)} (h : Pieces w v ps) (hb : Below w.heap.size w w') : Pieces w' v ps := by
  rcases h with h | ⟨b, off, cap, hv, h1, h2, hc⟩
  · exact .inl h
  · exact .inr ⟨b, off, cap, hv, h1, h2, fun i hi => ⟨by rw [hb.cell (World.block_lt_of_cell? w _ (hc i hi).1)]; exact (hc i hi).1, (hc i hi).2.below hb⟩⟩
theorem rdE_mid {w : World} {b off n cap i j : Nat} {es : List Ent} (h : RdE w (.slice (some ⟨b, off, none⟩) n cap) es) (hij : i ≤ j) (hj : j ≤ es.length) : RdE w (.slice (some ⟨b, off + i * 4, none⟩) (j - i) (j - i)) ((es.take j).drop i) := by
  obtain ⟨a', cap', hv, h1, h2, h0, h3⟩ := h
  simp only [Value.slice.injEq] at hv
  obtain ⟨rfl, _, rfl⟩ := hv
  have hl : ((es.take j).drop i).length = j - i := by rw [List.length_drop, List.length_take]; omega
  refine ⟨_, _, by rw [hl], by omega, by omega, (fun h => by cases h), ?_⟩
  rcases h3 with rfl | ⟨b', off', ha, hc⟩
  · exact .inl (by simp)
  · cases ha
    refine .inr ⟨b, off + i * 4, rfl, fun k hk => ?_⟩
    rw [hl] at hk
    rw [nth_drop (by rw [List.length_take]; omega), nth_take (by omega) (by omega), show off + i * 4 + k * 4 = off + (i + k) * 4 by omega]
    exact hc (i + k) (by omega)
theorem cut_any (v : Value) (es : List Ent) (i j : Nat) (w : World) (hr : RdE w v es) (hij : i ≤ j) (hj : j ≤ es.length) :
    Calls Tryz.prog 93 #[v, .int .i64 i, .int .i64 j] w fun e w' => ∃ u, e = .returned u ∧ (∀ W, RdE W v es → RdE W u ((es.take j).drop i)) ∧ w' = w := by
  obtain ⟨a, cap, hv, hl, hm, h0, h3⟩ := id hr
  unfold maxLen at hm
  subst hv
  have hjc : j ≤ cap := by omega
  rcases h3 with he | ⟨b, off, ha, hc⟩
  · subst he
    have hj0 : j = 0 := by simpa using hj
    subst hj0
    have hi0 : i = 0 := by omega
    subst hi0
    cases a with
    | none =>
      have hc0 := h0 rfl
      subst hc0
      go_enter Tryz.func93, Tryz.ntmps93
      go_wp2
      go_ret
      exact ⟨_, rfl, fun W _ => rdE_nil W, rfl⟩
    | some ad =>
      go_enter Tryz.func93, Tryz.ntmps93
      go_wp2
      go_ret
      exact ⟨_, rfl, fun W _ => rdE_none (fun h => by cases h) (Nat.zero_le _) rfl, rfl⟩
  · subst ha
    go_enter Tryz.func93, Tryz.ntmps93
    go_wp2
    all_goals go_ret
    · exact ⟨_, rfl, fun W _ => rdE_none (fun h => by cases h) (Nat.zero_le _) rfl, rfl⟩
    · exact ⟨_, rfl, fun W hW => rdE_mid hW hij hj, rfl⟩
theorem joined_any (v : Value) (ps : List (Value × List Ent)) (w : World) (hp : Pieces w v ps) (hl : (joinE ps).length ≤ 1000000) (hpl : ps.length ≤ 1000000) :
    Calls Tryz.prog 66 #[v] w fun e w' => ∃ u, e = .returned u ∧ OwnE w' w.heap.size u (joinE ps) ∧ Below w.heap.size w w' := by
  obtain ⟨i0, hi, hz0, hz1, hz2⟩ := info_parts Tryz.info89
  obtain ⟨a, cap, hv, hla, hma⟩ : ∃ a cap, v = .slice a ps.length cap ∧ ps.length ≤ cap ∧ cap ≤ maxLen := by
    rcases hp with ⟨rfl, rfl⟩ | ⟨b, off, cap, rfl, h1, h2, _⟩
    · exact ⟨none, 0, rfl, Nat.le_refl _, Nat.zero_le _⟩
    · exact ⟨_, cap, rfl, h1, h2⟩
  unfold maxLen at hma
  subst hv
  obtain ⟨N, hN⟩ : ∃ N, N = (joinE ps).length := ⟨_, rfl⟩
  have HN : Hid (N = (joinE ps).length) := hN
  have hNl : N ≤ 1000000 := by omega
  clear hN
  have at' : ∀ k, k < ps.length → ∀ w', Below w.heap.size w w' → ∃ b off u zs, a = some ⟨b, off, none⟩ ∧ w'.cell? ⟨b, off + k, none⟩ = some u ∧ RdE w' u zs ∧ joinE (ps.take (k + 1)) = joinE (ps.take k) ++ zs ∧ ∃ aa cc, u = .slice aa zs.length cc := by
    intro k hk w' hb
    rcases hp.below hb with ⟨h, he⟩ | ⟨b, off, cap', hv, _, _, hc⟩
    · subst he; simp at hk
    · simp only [Value.slice.injEq] at hv
      obtain ⟨rfl, _, _⟩ := hv
      obtain ⟨aa, cc, hu, _⟩ := id (hc k hk).2
      exact ⟨b, off, _, _, rfl, (hc k hk).1, (hc k hk).2, joinE_succ ps k hk, aa, cc, hu⟩
  have AT : Hid (∀ k, k < ps.length → ∀ w', Below w.heap.size w w' → ∃ b off u zs, a = some ⟨b, off, none⟩ ∧ w'.cell? ⟨b, off + k, none⟩ = some u ∧ RdE w' u zs ∧ joinE (ps.take (k + 1)) = joinE (ps.take k) ++ zs ∧ ∃ aa cc, u = .slice aa zs.length cc) := at'
  clear at' hp
  go_enter Tryz.func66, Tryz.ntmps66
  go_wp2
  go_loop [3, 12] (fun s i => ∃ k m : Nat, k ≤ ps.length ∧ i = .int .i64 k ∧ s = .int .i64 m ∧ m ≤ 1000000 ∧ Hid (m = (joinE (ps.take k)).length)) (fun _ i => ps.length - (intOf i).toNat)
  case atStart => exact ⟨0, 0, Nat.zero_le _, rfl, rfl, by omega, by simp [Hid, joinE]⟩
  case round =>
    obtain ⟨k, m, hk, rfl, rfl, hml, HM⟩ := hrel
    by_cases hlt : k < ps.length
    · skip
      obtain ⟨b, off, u, zs, rfl, hc, hru, hj, aa, cc, rfl⟩ := AT.out k hlt w (Below.refl _ _)
      have hle := joinE_le ps (k + 1)
      have HM2 : Hid (m + zs.length = (joinE (ps.take (k + 1))).length) := by unfold Hid; rw [hj, List.length_append, ← HM.out]
      have hzl : m + zs.length ≤ 1000000 := by have := HM2.out; omega
      clear hj hle
      go_wp2
      go_round
      case rel => exact ⟨k + 1, m + zs.length, by omega, by go_num, by go_num, hzl, HM2⟩
      case measure => simp [intOf]; omega
    · skip
      have hke : k = ps.length := by omega
      have hmN : m = N := by rw [HM.out, HN.out, hke, List.take_length]
      subst hmN
      clear hke
      go_wp2_with (at_make; (refine wpList_make_full _ rfl _ _ 30 rfl w.heap.size 89 i0 _ 4 Tryz.underlying30 hi hz0 hz1 .i64 .i64 (m : Int) (m : Int) m rfl rfl rfl rfl ?c1 ?c2 ?c3 ?_))
      case c1 => first | omega | (rw [hz2]; omega)
      case c2 => unfold maxLen; omega
      intro w1 ho1 hg1
      rw [made_EV] at ho1
      have hb1 : Below w.heap.size w w1 := (Below.refl _ _).grown hg1 (Nat.le_refl _) (fun k hk => by cases hk)
      have hh1 := heap_of_row (by rw [List.length_replicate]) ho1
      clear hg1 ho1
      go_wp2
      go_loopw [7, 25] (fun s i wr => ∃ k t : Nat, k ≤ ps.length ∧ i = .int .i64 k ∧ s = .int .i64 t ∧ t ≤ m ∧ Hid (t = (joinE (ps.take k)).length) ∧ Hid (wr.heap[w.heap.size]? = some (.cells (EV (joinE (ps.take k) ++ List.replicate (m - t) zeroE)).toArray 89 (0, 0))) ∧ Below w.heap.size w wr) (fun _ i _ => ps.length - (intOf i).toNat)
      case atStart => exact ⟨0, 0, Nat.zero_le _, rfl, rfl, Nat.zero_le _, by simp [Hid, joinE], by simpa [Hid, joinE] using hh1, hb1⟩
      case round =>
        obtain ⟨k, t, hk, rfl, rfl, htm, HT, HH, hb⟩ := hrel
        clear hh1 hb1
        by_cases hlt : k < ps.length
        · obtain ⟨b, off, u, zs, rfl, hc, hru, hj, aa, cc, rfl⟩ := AT.out k hlt wr hb
          have hle := joinE_le ps (k + 1)
          have HT2 : Hid (t + zs.length = (joinE (ps.take (k + 1))).length) := by unfold Hid; rw [hj, List.length_append, ← HT.out]
          have htz : t + zs.length ≤ m := by have := HT2.out; have := HN.out; omega
          have HJ : Hid (joinE (ps.take (k + 1)) = joinE (ps.take k) ++ zs) := hj
          clear hj hle
          by_cases hmt : m = t
          · subst hmt
            have REST : Hid (splice (EV (joinE (ps.take k) ++ List.replicate (m - m) zeroE)) (m * 4) (EV zs) = EV (joinE (ps.take (k + 1)) ++ List.replicate (m - (m + zs.length)) zeroE)) := by
              unfold Hid
              have hh := splice_ents (joinE (ps.take k)) zs (List.replicate (m - m) zeroE) (by rw [List.length_replicate]; omega)
              rw [← HT.out] at hh
              rw [hh, HJ.out, List.drop_replicate, Nat.sub_sub]
            obtain ⟨C, hC⟩ : ∃ C, C = EV (joinE (ps.take k) ++ List.replicate (m - m) zeroE) := ⟨_, rfl⟩
            rw [← hC] at REST
            have HH' := HH.out
            rw [← hC] at HH'
            have hcl : C.length = m * 4 := by
              rw [hC]; rw [EV_length, List.length_append, List.length_replicate, ← HT.out]; omega
            have HCL : Hid (C.length = m * 4) := hcl
            have HHH : Hid (wr.heap[w.heap.size]? = _) := HH'
            clear hC hcl HH' HH
            go_wp2_with ((refine wpList_copy_ents rfl (.tmp 32) (.tmp 33) rfl _ _ _ _ rfl rfl w.heap.size (m * 4) C zs ?d1 ?d2 ?d3 ?d4 ?d5 ?_))
            case d1 => exact HHH.out
            case d2 => exact hru
            case d3 => intro h; omega
            case d4 => omega
            case d5 => rw [HCL.out]; omega
            intro w2 hh2 hg2
            rw [REST.out] at hh2
            have bz := hb.grown hg2 hb.size (fun k hk => by cases hk; exact Nat.le_refl _)
            clear REST HCL HHH hb hg2 hru hc
            go_wp2
            go_roundw
            case rel => exact ⟨k + 1, m + zs.length, by omega, by go_num, by first | go_num | simp [goInt], htz, HT2, hh2, bz⟩
            case measure => simp [intOf]; omega
          · skip
            have REST : Hid (splice (EV (joinE (ps.take k) ++ List.replicate (m - t) zeroE)) (t * 4) (EV zs) = EV (joinE (ps.take (k + 1)) ++ List.replicate (m - (t + zs.length)) zeroE)) := by
              unfold Hid
              have hh := splice_ents (joinE (ps.take k)) zs (List.replicate (m - t) zeroE) (by rw [List.length_replicate]; omega)
              rw [← HT.out] at hh
              rw [hh, HJ.out, List.drop_replicate, Nat.sub_sub]
            obtain ⟨C, hC⟩ : ∃ C, C = EV (joinE (ps.take k) ++ List.replicate (m - t) zeroE) := ⟨_, rfl⟩
            rw [← hC] at REST
            have HH' := HH.out
            rw [← hC] at HH'
            have hcl : C.length = m * 4 := by
              rw [hC]; rw [EV_length, List.length_append, List.length_replicate, ← HT.out]; omega
            have HCL : Hid (C.length = m * 4) := hcl
            have HHH : Hid (wr.heap[w.heap.size]? = _) := HH'
            clear hC hcl HH' HH
            go_wp2_with ((refine wpList_copy_ents rfl (.tmp 32) (.tmp 33) rfl _ _ _ _ rfl rfl w.heap.size (t * 4) C zs ?d1 ?d2 ?d3 ?d4 ?d5 ?_))
            case d1 => exact HHH.out
            case d2 => exact hru
            case d4 => omega
            case d5 => rw [HCL.out]; omega
            intro w2 hh2 hg2
            rw [REST.out] at hh2
            have bz := hb.grown hg2 hb.size (fun k hk => by cases hk; exact Nat.le_refl _)
            clear REST HCL HHH hb hg2 hru hc
            go_wp2
            go_roundw
            case rel => exact ⟨k + 1, t + zs.length, by omega, by go_num, by first | go_num | simp [goInt], htz, HT2, hh2, bz⟩
            case measure => simp [intOf]; omega
        · have hke : k = ps.length := by omega
          have htN : t = m := by rw [HT.out, HN.out, hke, List.take_length]
          subst htN
          have R1 : OwnE wr w.heap.size (.slice (some ⟨w.heap.size, 0, none⟩) t t) (joinE ps) := by
            refine row_of_heap HN.out (Nat.le_refl _) (by unfold maxLen; omega) ?_
            have h := HH.out
            rw [hke, List.take_length, Nat.sub_self, List.replicate_zero, List.append_nil] at h
            exact h
          clear hke HH
          go_wp2
          go_ret
          exact ⟨_, rfl, R1, hb⟩
open Go.RowKit
theorem entAt_boxS (W : World) (x : Ent) (t : TypeId) : EntAt (W.alloc (.cells #[.string x.key, .string x.val, .int .i64 x.seq, .bool x.gone] t)) W.heap.size 0 x :=
  ⟨by simp [World.cell?_alloc_at], by simp [World.cell?_alloc_at], by simp [World.cell?_alloc_at], by simp [World.cell?_alloc_at]⟩
def RowPost (w : World) (ys : List Ent) (e : Ending) (w' : World) : Prop :=
  ∃ u, e = .returned u ∧ OwnE w' w.heap.size u ys ∧ Below w.heap.size w w'
end Go.Proofs.YtbefmbjlogkmbaaGreat
