/- The contract of the program's inRow of a proof. -/
import Derived.Test.YtilhaokiohbeeaaGreatDoorG24
import Derived.Test.YtilhaokiohbeeaaGreatDoorPrfVot
-- UNF Gen
namespace Go.Proofs.YtilhaokiohbeeaaGreatDoor
open Go.RowKit
theorem Tryz.info22 : (Tryz.prog.info? 22).map (fun i => (i.zero, i.size, i.bytes)) = some (some (.slice none 0 0), 1, 24) := by kernel_rfl
/-- The cells of a row of slices. -/
def RdC (w : World) (v : Value) (us : List (Value × List UInt8)) : Prop :=
  ∃ a cap, v = .slice a us.length cap ∧ us.length ≤ cap ∧ cap ≤ maxLen ∧ (us = [] ∨ ∃ b off, a = some ⟨b, off, none⟩ ∧ ∀ i (h : i < us.length), w.cell? ⟨b, off + i, none⟩ = some us[i].1)
theorem OwnR.rdC {w : World} {base : Nat} {v : Value} {us : List (Value × List UInt8)} (h : OwnR w base v us) : RdC w v us := by
  have h' := h
  rcases h.2 with ⟨rfl, h0⟩ | ⟨g, cap, cur, rfl, hb, hg, hn, hc, hs, ht⟩
  · exact ⟨none, 0, by rw [h0], by omega, Nat.zero_le _, .inl (List.length_eq_zero_iff.1 h0)⟩
  · refine ⟨_, cap, rfl, hn, hc, .inr ⟨g, 0, rfl, fun i hi => ?_⟩⟩
    have := World.ownsRow.cellAt h' i (by omega)
    rw [Nat.zero_add, this]
    simp [RV, hi]
theorem run_append_rows (ty : TypeId) {w : World} {base : Nat} {v u : Value} {ys zs : List (Value × List UInt8)} (hown : OwnR w base v ys) (hr : RdC w u zs) (hn : NilOk u) (h1c : ∀ x ∈ RV zs, x.oneCell' = true) (hl : ys.length + zs.length ≤ 1000000000) (hbase : base ≤ w.heap.size) :
    ∃ v' w', (Builtin.append_ #[281, 281] ty #[v, u]).run Tryz.prog w = .ok v' w' ∧ OwnR w' base v' (ys ++ zs) ∧ w.grownBy w' v.ownBlock := by
  obtain ⟨i0, hi, hz0, hz1, hz2⟩ := info_parts Tryz.info22
  obtain ⟨a, cap, rfl, h1, h2, h3⟩ := hr
  have more : ∀ {w1 : World} {v' : Value}, w1.ownsRow base 22 1 v' (ys.length + zs.length) (RV ys ++ RV zs) → OwnR w1 base v' (ys ++ zs) := fun h => by unfold OwnR; rw [RV_append, List.length_append]; exact h
  have row : ∀ ad, (∀ j u, (RV zs)[j]? = some u → w.cell? (ad.add j) = some u) → ∃ v' w', (Builtin.append_ #[281, 281] ty #[v, .slice (some ad) zs.length cap]).run Tryz.prog w = .ok v' w' ∧ OwnR w' base v' (ys ++ zs) ∧ w.grownBy w' v.ownBlock := by
    intro ad hc
    obtain ⟨v', w', hrun, r1, r2, _⟩ := run_append_own (P := Tryz.prog) w base 281 ty 22 i0 _ 1 24 Tryz.underlying281 hi hz0 hz1 hz2 rfl (by decide) v ys.length (RV ys) hown ad zs.length cap (RV zs) (by rw [RV_length]; omega) hc h1c (by unfold maxLen; omega) (by omega) hbase
    exact ⟨v', w', hrun, more r1, r2⟩
  cases a with
  | some ad =>
    refine row ad ?_
    rcases h3 with rfl | ⟨b, off, ha, hc⟩
    · intro j u hj; simp [RV] at hj
    · cases ha
      intro j u hj
      have hjl : j < zs.length := by have := (List.getElem?_eq_some_iff.1 hj).1; rwa [RV_length] at this
      rw [show (RV zs)[j]? = some zs[j].1 by simp [RV, hjl]] at hj
      cases hj
      rw [Addr.add_lit]
      exact hc j hjl
  | none =>
    have hc0 := hn _ _ rfl
    subst hc0
    rcases h3 with rfl | ⟨b, off, ha, hc⟩
    · refine ⟨v, w, run_append_owned_none (P := Tryz.prog) w base 281 ty 22 i0 1 Tryz.underlying281 hi v ys.length (RV ys) hown, by simpa using hown, ⟨rfl, rfl, rfl, Nat.le_refl _, fun _ _ _ => rfl⟩⟩
    · cases ha
theorem wpList_append_rows {w : World} {ops : Array Oper} {rest : List Oper} {o : Oper} {a : Act} {Q : Exit → Act → World → Prop} (hgd : o.guard = none) (s x : Operand)
    (ho : o.op = .call { callee := .builtin .append, args := #[s, x], argTypes := #[281, 281] }) (base : Nat) (v u : Value) (ys zs : List (Value × List UInt8)) (hs : a.eval s = v) (hx : a.eval x = u) (hown : OwnR w base v ys) (hr : RdC w u zs) (hn : NilOk u) (h1c : ∀ x ∈ RV zs, x.oneCell' = true) (hl : ys.length + zs.length ≤ 1000000000) (hbase : base ≤ w.heap.size)
    (h : ∀ v' w', OwnR w' base v' (ys ++ zs) → w.grownBy w' v.ownBlock → wpList Tryz.prog ops Q rest (a.put o.dst v') w') : wpList Tryz.prog ops Q (o :: rest) a w := by
  refine wpList_plain hgd fun K hK => ?_
  obtain ⟨v', w', hrun, r1, r2⟩ := run_append_rows o.type hown hr hn h1c hl hbase
  unfold Oper.wp
  simp [execOp, ho, resolve, invoke, builtin, hs, hx, hrun, Result.andThen]
  exact hK _ _ (h v' w' r1 r2)
theorem step_append_rows {w : World} {ops : Array Oper} {o : Oper} {a : Act} {K : Act → World → Prop} {Q : Exit → Act → World → Prop} {E : Prop} (hgd : o.guard = none) (d : Nat) (hd : o.dst = some d) (s x : Operand)
    (ho : o.op = .call { callee := .builtin .append, args := #[s, x], argTypes := #[281, 281] }) (base : Nat) (v u : Value) (ys zs : List (Value × List UInt8)) (hs : a.eval s = v) (hx : a.eval x = u) (hown : OwnR w base v ys) (hr : RdC w u zs) (hn : NilOk u) (h1c : ∀ x ∈ RV zs, x.oneCell' = true) (hl : ys.length + zs.length ≤ 1000000000) (hbase : base ≤ w.heap.size)
    (h : ∀ v' w', OwnR w' base v' (ys ++ zs) → w.grownBy w' v.ownBlock → K (a.put (some d) v') w') :
    if Region.wanted o (yielded ops a.tmps) = true then Oper.wp Tryz.prog o a w K Q else E := by
  have hw : Region.wanted o (yielded ops a.tmps) = true := by simp [Region.wanted, hgd]
  rw [if_pos hw]
  obtain ⟨v', w', hrun, r1, r2⟩ := run_append_rows o.type hown hr hn h1c hl hbase
  unfold Oper.wp
  simp [execOp, ho, resolve, invoke, builtin, hs, hx, hrun, Result.andThen]
  have h' := h v' w' r1 r2
  rw [← hd] at h'
  exact h'
theorem OwnR.mono {w : World} {base base' : Nat} {v : Value} {us : List (Value × List UInt8)} (h : OwnR w base v us) (hb : base' ≤ base) : OwnR w base' v us := by
  refine ⟨h.1, ?_⟩
  rcases h.2 with h2 | ⟨g, cap, cur, hv, hg, r⟩
  · exact .inl h2
  · exact .inr ⟨g, cap, cur, hv, Nat.le_trans hb hg, r⟩
/-- Slices of the call's own that hold these bytes. -/
def InO (w : World) (B : Nat) (us : List (Value × List UInt8)) : Prop := ∀ u ∈ us, Own w B u.1 u.2
theorem InO.rd {w : World} {B : Nat} {us : List (Value × List UInt8)} (h : InO w B us) : InR w us := fun u hu => ⟨(h u hu).rd, own_nil (h u hu)⟩
theorem InO.below {w w' : World} {B : Nat} {us : List (Value × List UInt8)} (h : InO w B us) (hb : Below w.heap.size w w') : InO w' B us := fun u hu => (h u hu).below hb
theorem InO.append {w : World} {B : Nat} {us zs : List (Value × List UInt8)} (h : InO w B us) (k : InO w B zs) : InO w B (us ++ zs) := fun u hu => by
  rcases List.mem_append.1 hu with hu | hu
  · exact h u hu
  · exact k u hu
/-- Bytes stay where a row of slices grows. -/
theorem InO.grown {w w' : World} {B B' : Nat} {r : Value} {us ts : List (Value × List UInt8)} (h : InO w B us) (hr : OwnR w B' r ts) (hg : w.grownBy w' r.ownBlock) : InO w' B us := fun u hu =>
  row_kept (h u hu) hg (fun k hk e => rows_apart (h u hu) hr (by decide) k hk e)
theorem inO_two {w : World} {B : Nat} {a b : Value} {x y : List UInt8} (h1 : Own w B a x) (h2 : Own w B b y) : InO w B [(a, x), (b, y)] := by
  intro u hu
  simp only [List.mem_cons, List.not_mem_nil, or_false] at hu
  rcases hu with rfl | rfl
  · exact h1
  · exact h2
theorem inO_three {w : World} {B : Nat} {a b c : Value} {x y z : List UInt8} (h1 : Own w B a x) (h2 : Own w B b y) (h3 : Own w B c z) : InO w B [(a, x), (b, y), (c, z)] := by
  intro u hu
  rcases List.mem_cons.1 hu with rfl | hu
  · exact h1
  · exact inO_two h2 h3 u hu
theorem inO_five {w : World} {B : Nat} {a b c d e : Value} {x y z s t : List UInt8} (h1 : Own w B a x) (h2 : Own w B b y) (h3 : Own w B c z) (h4 : Own w B d s) (h5 : Own w B e t) : InO w B [(a, x), (b, y), (c, z), (d, s), (e, t)] := by
  intro u hu
  rcases List.mem_cons.1 hu with rfl | hu
  · exact h1
  · rcases List.mem_cons.1 hu with rfl | hu
    · exact h2
    · exact inO_three h3 h4 h5 u hu
theorem oneCell_in {w : World} {B : Nat} {us : List (Value × List UInt8)} (h : InO w B us) : ∀ v ∈ RV us, v.oneCell' = true := by
  intro v hv
  obtain ⟨u, hu, rfl⟩ := List.mem_map.1 hv
  obtain ⟨_, _, e⟩ := (h u hu).rd.shape
  rw [e]; rfl
/-- A vote's box stays where a row of slices grows. -/
theorem vbox_grown {w w' : World} {gv B : Nat} {r : Value} {y t v n : Int} {us : List (Value × List UInt8)} (h : Bx w gv 36 #[.int .i64 v, .int .i64 n, .int .i64 y, .int .i64 t]) (hr : OwnR w B r us) (hg : w.grownBy w' r.ownBlock) :
    w'.cell? ⟨gv, 2, none⟩ = some (.int .i64 y) ∧ w'.cell? ⟨gv, 3, none⟩ = some (.int .i64 t) := by
  have h' : Bx w' gv 36 #[.int .i64 v, .int .i64 n, .int .i64 y, .int .i64 t] := h.of_block (hg.block gv h.lt (fun e => Bx.row h hr (by decide) gv e.symm rfl))
  exact ⟨h'.c4.2.2.1, h'.c4.2.2.2⟩
set_option maxHeartbeats 8000000 in
set_option maxRecDepth 100000 in
theorem prRow_any (p : Prf) (vs vt : Value) (w : World) (hrs : RdI w vs p.sv) (hrt : RdI w vt p.tg) :
    Calls Tryz.prog 242 #[.agg #[.int .i64 p.vw, .int .i64 p.nm, vs, vt]] w fun e w' => ∃ u, e = .returned u ∧ Own w' w.heap.size u (prW p) ∧ Below w.heap.size w w' := by
  obtain ⟨a1, c1, hv1, hl1, hm1, -, -⟩ := id hrs
  obtain ⟨a2, c2, hv2, hl2, hm2, -, -⟩ := id hrt
  obtain ⟨n1, hn1⟩ : ∃ n1, n1 = p.sv.length := ⟨_, rfl⟩
  obtain ⟨n2, hn2⟩ : ∃ n2, n2 = p.tg.length := ⟨_, rfl⟩
  rw [← hn1] at hv1
  rw [← hn2] at hv2
  subst hv1 hv2
  have HN1 : Hid (n1 = p.sv.length) := hn1
  have HN2 : Hid (n2 = p.tg.length) := hn2
  have HVT : Hid (∀ W, Below w.heap.size w W → Calls Tryz.prog 224 #[.agg #[.int .i64 p.vw, .int .i64 p.nm, .slice a1 n1 c1, .slice a2 n2 c2]] W fun e w' => VotesP W p e w') := fun W hb => votes_at p a1 a2 n1 c1 n2 c2 W (hrs.below hb) (hrt.below hb) hn1 hn2
  have X0 := bx_new w 26 #[.int .i64 p.vw, .int .i64 p.nm, .slice a1 n1 c1, .slice a2 n2 c2]
  have HB0 : Hid (Below w.heap.size w (w.alloc (.cells #[.int .i64 p.vw, .int .i64 p.nm, .slice a1 n1 c1, .slice a2 n2 c2] 26))) := below1 w _
  obtain ⟨p0, p1, p2, p3⟩ := X0.c4
  clear hrs hrt hl1 hl2 hm1 hm2 hn1 hn2
  cases hok : votB p with
  | false =>
    have HF : Hid (votB p = false) := hok
    have RES : Hid (prW p = []) := by unfold Hid prW prB7; unfold votB at hok; rw [hok]; rfl
    clear hok
    go_enter Tryz.func242, Tryz.ntmps242
    go_wp2_with fail
    refine (HVT.out _ HB0.out).mono ?_
    rintro e w3 ⟨u, rfl, ou, hb3⟩
    rw [HF.out]
    have HB3 : Hid (Below w.heap.size w w3) := HB0.out.trans (hb3.mono HB0.out.size)
    have BZ := HB3.out.alloc HB3.out.size (.cells #[] 5)
    have OZ := (own_none w3).mono HB3.out.size
    obtain ⟨ua, uc, hu⟩ := ownSlX ou
    generalize (votesR p).length = un at hu
    subst hu
    clear ou hb3
    go_wp2
    go_ret
    exact ⟨_, rfl, by rw [RES.out]; exact OZ, BZ⟩
  | true =>
    have HF : Hid (votB p = true) := hok
    have HOK := of_decide_eq_true hok
    have h12 : n1 = n2 := by rw [HN1.out, HN2.out]; exact HOK.1
    have h7 : n1 ≤ 7 := by rw [HN1.out]; exact HOK.2
    have RES : Hid (prW p = inR ((prN p).map num)) := by unfold Hid prW prB7; unfold votB at hok; rw [hok]; rfl
    have HVR : Hid (votesR p = votesL p) := by unfold Hid votesR; rw [if_pos HOK]
    subst h12
    obtain ⟨w2, hw2⟩ : ∃ w2, w2 = w.alloc (.cells #[.int .i64 p.vw, .int .i64 p.nm, .slice a1 n1 c1, .slice a2 n1 c2] 26) := ⟨_, rfl⟩
    rw [← hw2] at X0 HB0
    have HX : Hid (Bx w2 w.heap.size 26 #[.int .i64 p.vw, .int .i64 p.nm, .slice a1 n1 c1, .slice a2 n1 c2]) := X0
    have HP : Hid (∀ V, Below w2.heap.size w2 V → V.cell? ⟨w.heap.size, 0, none⟩ = some (.int .i64 p.vw) ∧ V.cell? ⟨w.heap.size, 1, none⟩ = some (.int .i64 p.nm)) := fun V hb => ⟨(HX.out.below hb).c4.1, (HX.out.below hb).c4.2.1⟩
    clear hok HOK X0
    go_enter Tryz.func242, Tryz.ntmps242
    go_wp2_with fail
    rw [← hw2]
    refine (HVT.out _ HB0.out).mono ?_
    rintro e w3 ⟨u, rfl, ou, hb3⟩
    rw [HF.out]
    have HB3 : Hid (Below w2.heap.size w2 w3) := hb3
    obtain ⟨ua, uc, hu⟩ := ownSlX ou
    have HVL : Hid (OwnVo w3 w2.heap.size u (votesL p)) := by unfold Hid; rw [← HVR.out]; exact ou
    have hvl : (votesR p).length = n1 := by rw [HVR.out, votesL_len, HN1.out]
    rw [hvl] at hu
    subst hu
    clear ou hb3 hvl p0 p1 p2 p3 hw2
    go_wp2_with fail
    refine wp_region_noPanic ?_
    refine wp_region_held_drew (S := fun w' => w'.cell? ⟨w.heap.size, 0, none⟩ = some (.int .i64 p.vw) ∧ w'.cell? ⟨w.heap.size, 1, none⟩ = some (.int .i64 p.nm)) (by kernel_rfl) (HP.out _ HB3.out.drew) (fun h0 => ?_)
    refine tkG 0 16 h0 ?_
    try simp only [Act.put, List.setIfInBounds_toArray, List.set_cons_zero, List.set_cons_succ]
    refine tkG 1 17 h0 ?_
    try simp only [Act.put, List.setIfInBounds_toArray, List.set_cons_zero, List.set_cons_succ]
    refine tkG 3 19 h0 ?_
    try simp only [Act.put, List.setIfInBounds_toArray, List.set_cons_zero, List.set_cons_succ]
    refine tkG 4 20 h0 ?_
    try simp only [Act.put, List.setIfInBounds_toArray, List.set_cons_zero, List.set_cons_succ]
    refine tkG 6 22 h0 ?_
    try simp only [Act.put, List.setIfInBounds_toArray, List.set_cons_zero, List.set_cons_succ]
    refine tkG 7 23 h0 ?_
    try simp only [Act.put, List.setIfInBounds_toArray, List.set_cons_zero, List.set_cons_succ]
    refine wpAnyH_ready (rs := [2]) (by kernel_rfl) (by simp) ?_
    refine AllReadyH.cons rfl (fun K hK => ?_) AllReadyH.nil
    go_simp
    refine (implNumber_any p.vw _).mono ?_
    rintro e w4 ⟨v4, rfl, ho4, hb4⟩
    have HB4 : Hid (Below w2.heap.size w2 w4) := HB3.out.drew.trans (hb4.mono HB3.out.drew.size)
    have HV4 : Hid (Own w4 w2.heap.size v4 (num p.vw)) := ho4.mono HB3.out.drew.size
    have BQ4 : Hid (Below w3.heap.size w3 w4) := (Below.refl _ _).drew.trans hb4
    obtain ⟨a4', c4', hv4⟩ := ownSlX ho4
    clear ho4 hb4
    generalize (num p.vw).length = l4 at hv4
    subst hv4
    refine hK.out _ _ (HP.out _ HB4.out) (fun h1 => ?_)
    clear hK K
    try simp only [Act.put, List.setIfInBounds_toArray, List.set_cons_zero, List.set_cons_succ]
    clear h0
    refine wpAnyH_ready (rs := [5]) (by kernel_rfl) (by simp) ?_
    refine AllReadyH.cons rfl (fun K hK => ?_) AllReadyH.nil
    go_simp
    refine (implNumber_any p.nm _).mono ?_
    rintro e w5 ⟨v5, rfl, ho5, hb5⟩
    have HB5 : Hid (Below w2.heap.size w2 w5) := HB4.out.trans (hb5.mono HB4.out.size)
    have HV5 : Hid (Own w5 w2.heap.size v5 (num p.nm)) := ho5.mono HB4.out.size
    replace HV4 : Hid (Own w5 w2.heap.size (.slice a4' l4 c4') (num p.vw)) := Own.below HV4.out hb5
    have BQ5 : Hid (Below w3.heap.size w3 w5) := BQ4.out.trans (hb5.mono BQ4.out.size)
    obtain ⟨a5', c5', hv5⟩ := ownSlX ho5
    clear ho5 hb5
    generalize (num p.nm).length = l5 at hv5
    subst hv5
    refine hK.out _ _ (HP.out _ HB5.out) (fun h2 => ?_)
    clear hK K
    try simp only [Act.put, List.setIfInBounds_toArray, List.set_cons_zero, List.set_cons_succ]
    clear h1
    refine wpAnyH_ready (rs := [8]) (by kernel_rfl) (by simp) ?_
    refine AllReadyH.cons rfl (fun K hK => ?_) AllReadyH.nil
    go_simp
    refine (implNumber_any (n1 : Int) _).mono ?_
    rintro e w6 ⟨v6, rfl, ho6, hb6⟩
    have HB6 : Hid (Below w2.heap.size w2 w6) := HB5.out.trans (hb6.mono HB5.out.size)
    have HV6 : Hid (Own w6 w2.heap.size v6 (num (n1 : Int))) := ho6.mono HB5.out.size
    replace HV4 : Hid (Own w6 w2.heap.size (.slice a4' l4 c4') (num p.vw)) := Own.below HV4.out hb6
    replace HV5 : Hid (Own w6 w2.heap.size (.slice a5' l5 c5') (num p.nm)) := Own.below HV5.out hb6
    have BQ6 : Hid (Below w3.heap.size w3 w6) := BQ5.out.trans (hb6.mono BQ5.out.size)
    obtain ⟨a6', c6', hv6⟩ := ownSlX ho6
    clear ho6 hb6
    generalize (num (n1 : Int)).length = l6 at hv6
    subst hv6
    refine hK.out _ _ (HP.out _ HB6.out) (fun h3 => ?_)
    clear hK K
    try simp only [Act.put, List.setIfInBounds_toArray, List.set_cons_zero, List.set_cons_succ]
    clear h2
    refine wpAnyH_ready (rs := [9]) (by kernel_rfl) (by simp) ?_
    refine AllReadyH.cons rfl (fun K hK => ?_) AllReadyH.nil
    refine step_objX rfl 25 rfl (.cells #[.slice a4' l4 c4', .slice a5' l5 c5', .slice a6' l6 c6'] 22) (.slice (some ⟨w6.heap.size, 0, none⟩) 3 3) (by go_simp; (try rfl)) ?_
    have HB7 : Hid (Below w2.heap.size w2 (w6.alloc (.cells #[.slice a4' l4 c4', .slice a5' l5 c5', .slice a6' l6 c6'] 22))) := HB6.out.alloc HB6.out.size _
    have HI7 : Hid (InO (w6.alloc (.cells #[.slice a4' l4 c4', .slice a5' l5 c5', .slice a6' l6 c6'] 22)) w2.heap.size [(Value.slice a4' l4 c4', num p.vw), (Value.slice a5' l5 c5', num p.nm), (Value.slice a6' l6 c6', num (n1 : Int))]) := InO.below (inO_three HV4.out HV5.out HV6.out) (below1 w6 _)
    have HO7 : Hid (OwnR (w6.alloc (.cells #[.slice a4' l4 c4', .slice a5' l5 c5', .slice a6' l6 c6'] 22)) w6.heap.size (.slice (some ⟨w6.heap.size, 0, none⟩) 3 3) [(Value.slice a4' l4 c4', num p.vw), (Value.slice a5' l5 c5', num p.nm), (Value.slice a6' l6 c6', num (n1 : Int))]) := ownR_lit w6 [(Value.slice a4' l4 c4', num p.vw), (Value.slice a5' l5 c5', num p.nm), (Value.slice a6' l6 c6', num (n1 : Int))] (by unfold maxLen; simp)
    refine hK.out _ _ (HP.out _ HB7.out) (fun h4 => ?_)
    clear hK K
    try simp only [Act.put, List.setIfInBounds_toArray, List.set_cons_zero, List.set_cons_succ]
    clear h3
    refine tkG 10 5 h4 ?_
    try simp only [Act.put, List.setIfInBounds_toArray, List.set_cons_zero, List.set_cons_succ]
    refine wpAnyH_done (by kernel_rfl) ?_ _
    refine NoPanic.normal ?_
    have HO3 : Hid (OwnR (w6.alloc (.cells #[.slice a4' l4 c4', .slice a5' l5 c5', .slice a6' l6 c6'] 22)) w2.heap.size (.slice (some ⟨w6.heap.size, 0, none⟩) 3 3) [(Value.slice a4' l4 c4', num p.vw), (Value.slice a5' l5 c5', num p.nm), (Value.slice a6' l6 c6', num (n1 : Int))]) := OwnR.mono HO7.out HB6.out.size
    have HU3 : Hid (([(Value.slice a4' l4 c4', num p.vw), (Value.slice a5' l5 c5', num p.nm), (Value.slice a6' l6 c6', num (n1 : Int))]).map (·.2) = (([p.vw, p.nm, (n1 : Int)] ++ altI (p.sv.take 0) (p.tg.take 0)).map num)) := rfl
    have HE3 : Hid (([(Value.slice a4' l4 c4', num p.vw), (Value.slice a5' l5 c5', num p.nm), (Value.slice a6' l6 c6', num (n1 : Int))]).length = 3 + 2 * 0) := rfl
    generalize [(Value.slice a4' l4 c4', num p.vw), (Value.slice a5' l5 c5', num p.nm), (Value.slice a6' l6 c6', num (n1 : Int))] = us0 at HI7 HO3 HU3 HE3 HO7
    have HW3 : Hid (Below w3.heap.size w3 (w6.alloc (.cells #[.slice a4' l4 c4', .slice a5' l5 c5', .slice a6' l6 c6'] 22))) := BQ6.out.alloc BQ6.out.size _
    clear HO7
    generalize w6.alloc (.cells #[.slice a4' l4 c4', .slice a5' l5 c5', .slice a6' l6 c6'] 22) = w7 at HO3 HI7 HB7 HW3 ⊢
    generalize w6.heap.size = r6 at HO3 ⊢
    clear HV4 HV5 HV6 HB4 HB5 HB6
    go_wp2
    go_loopw [5, 28] (fun ff ii wr => ∃ (k : Nat) (fa : Option Addr) (fn fc : Nat) (us : List (Value × List UInt8)), k ≤ n1 ∧ ii = .int .i64 k ∧ ff = .slice fa fn fc ∧ Hid (OwnR wr w2.heap.size (.slice fa fn fc) us) ∧ Hid (InO wr w2.heap.size us) ∧ Hid (us.map (·.2) = (([p.vw, p.nm, (n1 : Int)] ++ altI (p.sv.take k) (p.tg.take k)).map num)) ∧ Hid (us.length = 3 + 2 * k) ∧ Hid (Below w2.heap.size w2 wr) ∧ Hid (OwnVo wr w2.heap.size (.slice ua n1 uc) (votesL p))) (fun _ ii _ => n1 - (intOf ii).toNat)
    case atStart => exact ⟨0, some ⟨r6, 0, none⟩, 3, 3, us0, Nat.zero_le _, rfl, rfl, HO3, HI7, HU3, HE3, HB7, HVL.out.below HW3.out⟩
    case round =>
      obtain ⟨k, fa, fn, fc, us, hk, rfl, rfl, HO, HI, HU, HUL, HB, HVR2⟩ := hrel
      by_cases hlt : k < n1
      · have hks : k < p.sv.length := by rw [← HN1.out]; exact hlt
        have hkt : k < p.tg.length := by rw [← HN2.out]; exact hlt
        have hkv : k < (votesL p).length := by rw [votesL_len]; exact hks
        obtain ⟨bv, ov, rfl, hva⟩ := HVR2.out.rd.at (by rw [votesL_len, HN1.out]) k hkv
        have hvn : nthVo (votesL p) k = ⟨p.vw, p.nm, p.sv[k], p.tg[k]⟩ := by
          rw [nthVo_eq hkv]
          simp [votesL, vAt, nI_eq hks, nI_eq hkt]
        rw [hvn] at hva
        obtain ⟨y, hy⟩ : ∃ y, y = p.sv[k] := ⟨_, rfl⟩
        obtain ⟨t, ht⟩ : ∃ t, t = p.tg[k] := ⟨_, rfl⟩
        rw [← hy, ← ht] at hva
        obtain ⟨q0, q1, q2, q3⟩ := hva
        obtain ⟨FN, hFN⟩ : ∃ FN, FN = (([p.vw, p.nm, (n1 : Int)] ++ altI (p.sv.take (k + 1)) (p.tg.take (k + 1))).map num) := ⟨_, rfl⟩
        have HFN : Hid (FN = (([p.vw, p.nm, (n1 : Int)] ++ altI (p.sv.take (k + 1)) (p.tg.take (k + 1))).map num)) := hFN
        have HUN : Hid (∀ (a b : Value), (us ++ [(a, num y), (b, num t)]).map (·.2) = FN) := fun a b => by
          rw [hFN, List.map_append, HU.out, altI_snoc p.sv p.tg k hks hkt, ← hy, ← ht]
          simp
        have hk1 : (k : Int) < (n1 : Int) := by omega
        obtain ⟨wv, hwv⟩ : ∃ wv, wv = wr.alloc (.cells #[.int .i64 p.vw, .int .i64 p.nm, .int .i64 y, .int .i64 t] 36) := ⟨_, rfl⟩
        obtain ⟨gv, hgv⟩ : ∃ gv, gv = wr.heap.size := ⟨_, rfl⟩
        have HQB : Hid (Bx wv gv 36 #[.int .i64 p.vw, .int .i64 p.nm, .int .i64 y, .int .i64 t]) := by rw [hwv, hgv]; exact bx_new wr _ _
        have HBV : Hid (Below w2.heap.size w2 wv) := by rw [hwv]; exact HB.out.alloc HB.out.size _
        have hbv1 : Below wr.heap.size wr wv := by rw [hwv]; exact below1 wr _
        have HOV : Hid (OwnR wv w2.heap.size (.slice fa fn fc) us) := OwnR.below HO.out hbv1
        have HIV : Hid (InO wv w2.heap.size us) := InO.below HI.out hbv1
        have HVV : Hid (OwnVo wv w2.heap.size (.slice (some ⟨bv, ov, none⟩) n1 uc) (votesL p)) := HVR2.out.below hbv1
        have HQ : Hid (∀ V, Below wv.heap.size wv V → V.cell? ⟨gv, 2, none⟩ = some (.int .i64 y) ∧ V.cell? ⟨gv, 3, none⟩ = some (.int .i64 t)) := fun V hb => ⟨(HQB.out.below hb).c4.2.2.1, (HQB.out.below hb).c4.2.2.2⟩
        have HGV : Hid (gv = wr.heap.size) := hgv
        have HWV : Hid (wr.alloc (.cells #[.int .i64 p.vw, .int .i64 p.nm, .int .i64 y, .int .i64 t] 36) = wv) := hwv.symm
        clear hy ht hFN hvn hwv hgv hbv1 hkv hks hkt HO HI HB HVR2 HU
        go_wp2_with fail
        rw [HWV.out, ← HGV.out]
        clear q0 q1 q2 q3
        refine wp_region_noPanic ?_
        refine wp_region_held_drew (S := fun w' => w'.cell? ⟨gv, 2, none⟩ = some (.int .i64 y) ∧ w'.cell? ⟨gv, 3, none⟩ = some (.int .i64 t)) (by kernel_rfl) (HQ.out _ (Below.refl _ _).drew) (fun h0 => ?_)
        refine tkG 0 32 h0 ?_
        try simp only [Act.put, List.setIfInBounds_toArray, List.set_cons_zero, List.set_cons_succ]
        refine tkG 1 33 h0 ?_
        try simp only [Act.put, List.setIfInBounds_toArray, List.set_cons_zero, List.set_cons_succ]
        refine tkG 2 34 h0 ?_
        try simp only [Act.put, List.setIfInBounds_toArray, List.set_cons_zero, List.set_cons_succ]
        refine tkG 4 36 h0 ?_
        try simp only [Act.put, List.setIfInBounds_toArray, List.set_cons_zero, List.set_cons_succ]
        refine tkG 5 37 h0 ?_
        try simp only [Act.put, List.setIfInBounds_toArray, List.set_cons_zero, List.set_cons_succ]
        refine wpAnyH_ready (rs := [3]) (by kernel_rfl) (by simp) ?_
        refine AllReadyH.cons rfl (fun K hK => ?_) AllReadyH.nil
        go_simp
        refine (implNumber_any y _).mono ?_
        rintro e w4 ⟨v4, rfl, ho4, hb4⟩
        have HB4 : Hid (Below w2.heap.size w2 w4) := HBV.out.drew.trans (hb4.mono HBV.out.drew.size)
        have HV4 : Hid (Own w4 w2.heap.size v4 (num y)) := ho4.mono HBV.out.drew.size
        have BQ4 : Hid (Below wv.heap.size wv w4) := (Below.refl _ _).drew.trans hb4
        obtain ⟨a4', c4', hv4⟩ := ownSlX ho4
        clear ho4 hb4
        generalize (num y).length = l4 at hv4
        subst hv4
        refine hK.out _ _ (HQ.out _ BQ4.out) (fun h1 => ?_)
        clear hK K
        try simp only [Act.put, List.setIfInBounds_toArray, List.set_cons_zero, List.set_cons_succ]
        clear h0
        refine wpAnyH_ready (rs := [6]) (by kernel_rfl) (by simp) ?_
        refine AllReadyH.cons rfl (fun K hK => ?_) AllReadyH.nil
        go_simp
        refine (implNumber_any t _).mono ?_
        rintro e w5 ⟨v5, rfl, ho5, hb5⟩
        have HB5 : Hid (Below w2.heap.size w2 w5) := HB4.out.trans (hb5.mono HB4.out.size)
        have HV5 : Hid (Own w5 w2.heap.size v5 (num t)) := ho5.mono HB4.out.size
        replace HV4 : Hid (Own w5 w2.heap.size (.slice a4' l4 c4') (num y)) := Own.below HV4.out hb5
        have BQ5 : Hid (Below wv.heap.size wv w5) := BQ4.out.trans (hb5.mono BQ4.out.size)
        obtain ⟨a5', c5', hv5⟩ := ownSlX ho5
        clear ho5 hb5
        generalize (num t).length = l5 at hv5
        subst hv5
        refine hK.out _ _ (HQ.out _ BQ5.out) (fun h2 => ?_)
        clear hK K
        try simp only [Act.put, List.setIfInBounds_toArray, List.set_cons_zero, List.set_cons_succ]
        clear h1
        refine wpAnyH_ready (rs := [7]) (by kernel_rfl) (by simp) ?_
        refine AllReadyH.cons rfl (fun K hK => ?_) AllReadyH.nil
        refine step_objX rfl 39 rfl (.cells #[.slice a4' l4 c4', .slice a5' l5 c5'] 22) (.slice (some ⟨w5.heap.size, 0, none⟩) 2 2) (by go_simp; (try rfl)) ?_
        have HB7 : Hid (Below w2.heap.size w2 (w5.alloc (.cells #[.slice a4' l4 c4', .slice a5' l5 c5'] 22))) := HB5.out.alloc HB5.out.size _
        have HI7 : Hid (InO (w5.alloc (.cells #[.slice a4' l4 c4', .slice a5' l5 c5'] 22)) w2.heap.size [(Value.slice a4' l4 c4', num y), (Value.slice a5' l5 c5', num t)]) := InO.below (inO_two HV4.out HV5.out) (below1 w5 _)
        have HO7 : Hid (OwnR (w5.alloc (.cells #[.slice a4' l4 c4', .slice a5' l5 c5'] 22)) w5.heap.size (.slice (some ⟨w5.heap.size, 0, none⟩) 2 2) [(Value.slice a4' l4 c4', num y), (Value.slice a5' l5 c5', num t)]) := ownR_lit w5 [(Value.slice a4' l4 c4', num y), (Value.slice a5' l5 c5', num t)] (by unfold maxLen; simp)
        have BQ7 : Hid (Below wv.heap.size wv (w5.alloc (.cells #[.slice a4' l4 c4', .slice a5' l5 c5'] 22))) := BQ5.out.alloc BQ5.out.size _
        refine hK.out _ _ (HQ.out _ BQ7.out) (fun h3 => ?_)
        clear hK K
        try simp only [Act.put, List.setIfInBounds_toArray, List.set_cons_zero, List.set_cons_succ]
        clear h2
        refine wpAnyH_ready (rs := [8]) (by kernel_rfl) (by simp) ?_
        refine AllReadyH.cons rfl (fun K hK => ?_) AllReadyH.nil
        have HOU := OwnR.below HOV.out BQ7.out
        refine step_append_rows rfl 40 rfl _ _ rfl w2.heap.size (.slice fa fn fc) (.slice (some ⟨w5.heap.size, 0, none⟩) 2 2) us [(Value.slice a4' l4 c4', num y), (Value.slice a5' l5 c5', num t)] rfl rfl HOU HO7.out.rdC (own_nil HO7.out) (oneCell_in HI7.out) (by have := HUL.out; simp; omega) HB7.out.size ?_
        intro u8 w8 ho8 hg8
        have HQ8 : Hid (w8.cell? ⟨gv, 2, none⟩ = some (.int .i64 y) ∧ w8.cell? ⟨gv, 3, none⟩ = some (.int .i64 t)) := vbox_grown (HQB.out.below BQ7.out) HOU hg8
        have HVN : Hid (OwnVo w8 w2.heap.size (.slice (some ⟨bv, ov, none⟩) n1 uc) (votesL p)) := row_kept (OwnVo.below HVV.out BQ7.out) hg8 (fun q hq e => rows_apart (OwnVo.below HVV.out BQ7.out) HOU (by decide) q hq e)
        have HB8 : Hid (Below w2.heap.size w2 w8) := HB7.out.grown hg8 HB7.out.size (fun q hq => (World.ownsRow.lt HOU q hq).1)
        have HI8 : Hid (InO w8 w2.heap.size (us ++ [(Value.slice a4' l4 c4', num y), (Value.slice a5' l5 c5', num t)])) := (InO.append (InO.below HIV.out BQ7.out) HI7.out).grown HOU hg8
        have HO8 : Hid (OwnR w8 w2.heap.size u8 (us ++ [(Value.slice a4' l4 c4', num y), (Value.slice a5' l5 c5', num t)])) := ho8
        have HU8 : Hid ((us ++ [(Value.slice a4' l4 c4', num y), (Value.slice a5' l5 c5', num t)]).map (·.2) = FN) := HUN.out _ _
        have HE8 : Hid ((us ++ [(Value.slice a4' l4 c4', num y), (Value.slice a5' l5 c5', num t)]).length = 3 + 2 * (k + 1)) := by unfold Hid; rw [List.length_append, HUL.out]; simp; omega
        obtain ⟨fa, fc, hu8⟩ := ownSlX ho8
        generalize us ++ [(Value.slice a4' l4 c4', num y), (Value.slice a5' l5 c5', num t)] = us2 at HO8 HI8 HU8 HE8 ho8 hu8
        clear ho8 hg8 HOU
        generalize us2.length = fn at hu8
        subst hu8
        refine hK.out _ _ (HQ8.out) (fun h4 => ?_)
        clear hK K
        try simp only [Act.put, List.setIfInBounds_toArray, List.set_cons_zero, List.set_cons_succ]
        clear h3
        refine tkG 9 5 h4 ?_
        try simp only [Act.put, List.setIfInBounds_toArray, List.set_cons_zero, List.set_cons_succ]
        refine wpAnyH_done (by kernel_rfl) ?_ _
        refine NoPanic.normal ?_
        rw [HFN.out] at HU8
        clear HQ HQB HOV HIV HVV HFN HUN HWV HGV HBV HB4 HB5 HB7 HI7 HO7 HV4 HV5 BQ4 BQ5 BQ7
        go_wp2
        go_roundw
        case rel => exact ⟨k + 1, fa, fn, fc, us2, by omega, by go_num, rfl, HO8, HI8, HU8, HE8, HB8, HVN⟩
        case measure => simp [intOf]; omega
      · have hke : n1 = k := by omega
        subst hke
        have HUF : Hid (us.map (·.2) = (prN p).map num) := by
          unfold Hid
          rw [HU.out]
          congr 1
          simp only [prN, List.cons_append, List.nil_append]
          rw [HN1.out, List.take_length, show p.sv.length = p.tg.length by rw [← HN1.out, ← HN2.out], List.take_length]
        have HRR : Hid (RdR wr (.slice fa fn fc) us) := HO.out.rd HI.out.rd
        have HZZ : Hid (∀ u ∈ us, u.2.length ≤ 700000) := fun u hu => by
          have h1 : u.2 ∈ us.map (·.2) := List.mem_map.2 ⟨u, hu, rfl⟩
          rw [HUF.out] at h1
          obtain ⟨n, _, hn⟩ := List.mem_map.1 h1
          rw [← hn]
          have := num_len n
          omega
        have HLL : Hid (us.length ≤ 40) := by unfold Hid; rw [HUL.out]; omega
        go_wp2_with fail
        refine (inRow_any _ us _ HRR.out HZZ.out HLL.out).mono ?_
        rintro e w9 ⟨u9, rfl, ho9, hb9⟩
        have R1 : Hid (Own w9 w.heap.size u9 (prW p)) := by unfold Hid; rw [RES.out, ← HUF.out]; exact ho9.mono (Nat.le_trans HB0.out.size HB.out.size)
        have R2 : Hid (Below w.heap.size w w9) := HB0.out.trans ((HB.out.trans (hb9.mono HB.out.size)).mono HB0.out.size)
        clear ho9 hb9
        go_wp2
        go_ret
        exact ⟨_, rfl, R1.out, R2.out⟩
end Go.Proofs.YtilhaokiohbeeaaGreatDoor
