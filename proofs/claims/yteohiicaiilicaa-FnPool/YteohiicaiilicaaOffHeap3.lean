/- The Push and the Pop of the heap of Offers; what container/heap makes of them; the program's take and offersOf. -/
-- UNF Gen
import Derived.Test.YteohiicaiilicaaOffHeap2
import Derived.Maps.AppendAt
namespace Go.Proofs.Yteohiicaiilicaa
open Go.RowKit
theorem step_append_off {w : World} {ops : Array Oper} {o : Oper} {a : Act} {K : Act → World → Prop} {Q : Exit → Act → World → Prop} {E : Prop} (hgd : o.guard = none) (d : Nat) (hd : o.dst = some d) (s x : Operand)
    (ho : o.op = .call { callee := .builtin .append, args := #[s, x], argTypes := #[64, 64] }) (base : Nat) (v : Value) (b : Nat) (es : List Off) (c : Off) (hv : a.eval s = v) (hx : a.eval x = .slice (some ⟨b, 0, none⟩) 1 1) (hown : OwnO w base v es) (hc : OffAt w b 0 c)
    (hl : es.length ≤ 1000000) (hbase : base ≤ w.heap.size)
    (h : ∀ v' w', OwnO w' base v' (es ++ [c]) → w.grownBy w' v.ownBlock → (v'.ownBlock = v.ownBlock ∨ v'.ownBlock = some w.heap.size) → K (a.put (some d) v') w') :
    if Region.wanted o (yielded ops a.tmps) = true then Oper.wp Try.prog o a w K Q else E := by
  have hw : Region.wanted o (yielded ops a.tmps) = true := by simp [Region.wanted, hgd]
  rw [if_pos hw]
  obtain ⟨i0, hi, hz0, hz1, hz2⟩ := info_parts Try.infoO26
  obtain ⟨v', w', hrun, r1, r2, _, r3⟩ := run_append_own_at (P := Try.prog) w base 64 o.type 26 i0 _ 2 24 Try.underlying64 hi hz0 hz1 hz2 rfl (by decide) v es.length (OV es) hown ⟨b, 0, none⟩ 1 1 (OC c) rfl
    (by
      intro j u hj
      match j, hj with
      | 0, hj => simp [OC] at hj; subst hj; simpa [Addr.add] using hc.1
      | 1, hj => simp [OC] at hj; subst hj; simpa [Addr.add] using hc.2)
    (by
      intro u hu
      simp only [OC, List.mem_cons, List.not_mem_nil, or_false] at hu
      rcases hu with rfl | rfl <;> rfl) (by unfold maxLen; omega) (by omega) hbase
  have r1' : OwnO w' base v' (es ++ [c]) := by
    unfold OwnO
    rw [OV_append, OV_one, List.length_append]
    exact r1
  unfold Oper.wp
  simp [execOp, ho, resolve, invoke, builtin, hv, hx, hrun, Result.andThen]
  have h' := h v' w' r1' r2 r3
  rw [← hd] at h'
  exact h'
theorem obox_set {w : World} {b : Nat} {v u : Value} {t : TypeId} (h : w.heap[b]? = some (.cells #[v] t (0, 0))) : (w.setCell ⟨b, 0, none⟩ u).heap[b]? = some (.cells #[u] t (0, 0)) := by
  have := heap_setCell_same w b 0 #[v] t u h
  simpa using this
theorem obox_frozen {w : World} {b : Nat} {v : Value} {t : TypeId} (h : w.heap[b]? = some (.cells #[v] t (0, 0))) : w.frozen? ⟨b, 0, none⟩ = false := by simp [World.frozen?, h]
theorem run_assert_off (w : World) (x : Value) : (Instr.typeAssert (.iface 26 x) 20 26 false).run Try.prog w = .ok x w := by kernel_rfl
theorem ownO_kept {w w' : World} {B : Nat} {v : Value} {es : List Off} (h : OwnO w B v es) (hb : ∀ k, v.ownBlock = some k → w'.heap[k]? = w.heap[k]?) : OwnO w' B v es := by
  refine ⟨h.1, ?_⟩
  rcases h.2 with h2 | ⟨g, cap, cur, hv, hg, hh, r⟩
  · exact .inl h2
  · exact .inr ⟨g, cap, cur, hv, hg, by rw [hb g (by rw [hv]; rfl)]; exact hh, r⟩
/-- The heap with its row just as wide as it says. -/
def OPush (w0 w' : World) (sb : Nat) (es : List Off) : Prop := ∃ a n cap, OHp w0 w' sb a n cap cap es
theorem OHp.pushed {w0 w w1 w2 : World} {sb n cap n' c' : Nat} {a a' : Option Addr} {es : List Off} {o : Off} (h : OHp w0 w sb a n cap cap es) (b1 : Below w.heap.size w w1) (ho : OwnO w2 w0.heap.size (.slice a' n' c') (es ++ [o])) (hg : w1.grownBy w2 (Value.slice a n cap).ownBlock) (hv : (Value.slice a' n' c').ownBlock = (Value.slice a n cap).ownBlock ∨ (Value.slice a' n' c').ownBlock = some w1.heap.size) (hf : es.length < 51) :
    OHp w0 (w2.setCell ⟨sb, 0, none⟩ (.slice a' n' c')) sb a' n' c' c' (es ++ [o]) := by
  have h1 := h.below b1
  have hvs : ∀ k, (Value.slice a' n' c').ownBlock = some k → k ≠ sb := fun k hk => by
    rcases hv with e | e
    · exact h.ne k (by rw [← e]; exact hk)
    · rw [e] at hk; have := Option.some.inj hk; have := h1.lt; omega
  have hbox : w2.heap[sb]? = some (.cells #[.slice a n cap] 64 (0, 0)) := (hg.block sb h1.lt (fun e => h.ne sb e.symm rfl)).trans h1.box
  have bel2 : Below w0.heap.size w0 w2 := h1.bel.grown hg h1.bel.size (fun k hk => (World.ownsRow.lt h1.own k hk).1)
  exact ⟨bel2.setCell h.ge _, h.ge, obox_set hbox, ownO_kept ho (fun k hk => heap_setCell_other w2 ⟨sb, 0, none⟩ k _ (fun e => hvs k hk (by simpa using e))), (ownO_shape ho).2.1, Nat.le_refl _, hvs, by rw [List.length_append]; simp; omega⟩
set_option maxHeartbeats 4000000 in
set_option maxRecDepth 100000 in
theorem opush_any (w0 w : World) (sb n cap : Nat) (a : Option Addr) (es : List Off) (o : Off) (h : OHp w0 w sb a n cap cap es) (hf : es.length < 51) :
    Calls Try.prog 77 #[.pointer (some ⟨sb, 0, none⟩), .iface 26 (.agg #[.int .i64 o.fee, .string o.text])] w fun e w' => e = .returned (.tuple #[]) ∧ OPush w0 w' sb (es ++ [o]) := by
  have HH : Hid (OHp w0 w sb a n cap cap es) := h
  have hce := h.cell
  have hfz := obox_frozen h.box
  have HPU : Hid (∀ w1 w2 a' n' c', Below w.heap.size w w1 → OwnO w2 w0.heap.size (.slice a' n' c') (es ++ [o]) → w1.grownBy w2 (Value.slice a n cap).ownBlock → ((Value.slice a' n' c').ownBlock = (Value.slice a n cap).ownBlock ∨ (Value.slice a' n' c').ownBlock = some w1.heap.size) →
      (∃ cc, w2.cell? ⟨sb, 0, none⟩ = some cc) ∧ w2.frozen? ⟨sb, 0, none⟩ = false ∧ OHp w0 (w2.setCell ⟨sb, 0, none⟩ (.slice a' n' c')) sb a' n' c' c' (es ++ [o])) := fun w1 w2 a' n' c' b1 b2 b3 b4 => by
    have h1 := h.below b1
    have hbox : w2.heap[sb]? = some (.cells #[.slice a n cap] 64 (0, 0)) := (b3.block sb h1.lt (fun e => h.ne sb e.symm rfl)).trans h1.box
    exact ⟨⟨.slice a n cap, by simp [World.cell?, hbox]⟩, obox_frozen hbox, h.pushed b1 b2 b3 b4 hf⟩
  have HB : Hid (w0.heap.size ≤ w.heap.size) := h.bel.size
  have hta := fun W => run_assert_off W (.agg #[.int .i64 o.fee, .string o.text])
  have HF : Hid (es.length ≤ 1000000) := by unfold Hid; omega
  clear hf h
  go_enter Try.func77, Try.ntmps77
  go_wp2_with fail
  refine wp_region_noPanic ?_
  refine wp_region_held_drew (S := fun _ => True) (by kernel_rfl) trivial (fun hH => ?_)
  refine tkG 0 4 hH ?_
  try simp only [Act.put, List.setIfInBounds_toArray, List.set_cons_zero, List.set_cons_succ]
  refine tkG 1 5 hH ?_
  try simp only [Act.put, List.setIfInBounds_toArray, List.set_cons_zero, List.set_cons_succ]
  refine tkG 2 6 hH ?_
  try simp only [Act.put, List.setIfInBounds_toArray, List.set_cons_zero, List.set_cons_succ]
  refine tkG 4 8 hH ?_
  try simp only [Act.put, List.setIfInBounds_toArray, List.set_cons_zero, List.set_cons_succ]
  refine tkG 5 9 hH ?_
  try simp only [Act.put, List.setIfInBounds_toArray, List.set_cons_zero, List.set_cons_succ]
  refine wpAnyH_ready (rs := [3, 6]) (by kernel_rfl) (by simp) ?_
  refine AllReadyH.cons rfl (fun K hK => ?_) ?_
  · go_simp
    refine hK.out _ _ trivial (fun hH => ?_)
    clear hK K
    try simp only [Act.put, List.setIfInBounds_toArray, List.set_cons_zero, List.set_cons_succ]
    refine wpAnyH_ready (rs := [6]) (by kernel_rfl) (by simp) ?_
    refine AllReadyH.cons rfl (fun K hK => ?_) AllReadyH.nil
    go_simp
    refine hK.out _ _ trivial (fun hH => ?_)
    clear hK K
    try simp only [Act.put, List.setIfInBounds_toArray, List.set_cons_zero, List.set_cons_succ]
    have b1 : Below w.heap.size w (w.drew.alloc (.cells #[.int .i64 o.fee, .string o.text] 26)) := ((Below.refl w.heap.size w).drew).alloc (Nat.le_refl _) _
    have hoV : OwnO (w.drew.alloc (.cells #[.int .i64 o.fee, .string o.text] 26)) w0.heap.size (.slice a n cap) es := HH.out.own.below b1
    have hsV : OffAt (w.drew.alloc (.cells #[.int .i64 o.fee, .string o.text] 26)) w.heap.size 0 o := offAt_new w.drew o _
    have hbV : w0.heap.size ≤ (w.drew.alloc (.cells #[.int .i64 o.fee, .string o.text] 26)).heap.size := Nat.le_trans HB.out b1.size
    clear hce hfz
    try simp only [World.drew_alloc] at b1 hoV hsV hbV
    refine wpAnyH_ready (rs := [7]) (by kernel_rfl) (by simp) ?_
    refine AllReadyH.cons rfl (fun K hK => ?_) AllReadyH.nil
    refine step_append_off rfl 11 rfl (.tmp 7) (.tmp 10) rfl w0.heap.size _ _ es o rfl rfl hoV hsV HF.out hbV ?_
    intro v2 w2 ho2 hg2 hv2
    obtain ⟨a2, n2, c2, hva⟩ : ∃ a2 n2 c2, v2 = .slice a2 n2 c2 := by
      obtain ⟨a2, c2, hva, -⟩ := ho2.rd
      exact ⟨a2, _, c2, hva⟩
    subst hva
    obtain ⟨⟨cc, hcc⟩, hfz2, hp2⟩ := HPU.out _ w2 a2 n2 c2 b1 ho2 hg2 hv2
    clear hoV hsV hbV ho2 hg2 hv2 b1
    refine hK.out _ _ trivial (fun hH => ?_)
    clear hK K
    try simp only [Act.put, List.setIfInBounds_toArray, List.set_cons_zero, List.set_cons_succ]
    refine tkG 8 12 hH ?_
    try simp only [Act.put, List.setIfInBounds_toArray, List.set_cons_zero, List.set_cons_succ]
    refine wpAnyH_ready (rs := [9]) (by kernel_rfl) (by simp) ?_
    refine AllReadyH.cons rfl (fun K hK => ?_) AllReadyH.nil
    go_simp
    refine hK.out _ _ trivial (fun hH => ?_)
    clear hK K
    try simp only [Act.put, List.setIfInBounds_toArray, List.set_cons_zero, List.set_cons_succ]
    refine wpAnyH_done (by kernel_rfl) ?_ _
    refine NoPanic.normal ?_
    go_end0
    exact ⟨rfl, _, _, _, hp2⟩
  · refine AllReadyH.cons rfl (fun K hK => ?_) AllReadyH.nil
    go_simp
    refine hK.out _ _ trivial (fun hH => ?_)
    clear hK K
    try simp only [Act.put, List.setIfInBounds_toArray, List.set_cons_zero, List.set_cons_succ]
    have hce2 := ((below1 w (.cells #[.int .i64 o.fee, .string o.text] 26)).cell (World.block_lt_of_cell? w _ hce)).trans hce
    refine wpAnyH_ready (rs := [3]) (by kernel_rfl) (by simp) ?_
    refine AllReadyH.cons rfl (fun K hK => ?_) AllReadyH.nil
    go_simp
    refine hK.out _ _ trivial (fun hH => ?_)
    clear hK K
    try simp only [Act.put, List.setIfInBounds_toArray, List.set_cons_zero, List.set_cons_succ]
    clear hce2
    have b1 : Below w.heap.size w (w.drew.alloc (.cells #[.int .i64 o.fee, .string o.text] 26)) := ((Below.refl w.heap.size w).drew).alloc (Nat.le_refl _) _
    have hoV : OwnO (w.drew.alloc (.cells #[.int .i64 o.fee, .string o.text] 26)) w0.heap.size (.slice a n cap) es := HH.out.own.below b1
    have hsV : OffAt (w.drew.alloc (.cells #[.int .i64 o.fee, .string o.text] 26)) w.heap.size 0 o := offAt_new w.drew o _
    have hbV : w0.heap.size ≤ (w.drew.alloc (.cells #[.int .i64 o.fee, .string o.text] 26)).heap.size := Nat.le_trans HB.out b1.size
    clear hce hfz
    try simp only [World.drew_alloc] at b1 hoV hsV hbV
    refine wpAnyH_ready (rs := [7]) (by kernel_rfl) (by simp) ?_
    refine AllReadyH.cons rfl (fun K hK => ?_) AllReadyH.nil
    refine step_append_off rfl 11 rfl (.tmp 7) (.tmp 10) rfl w0.heap.size _ _ es o rfl rfl hoV hsV HF.out hbV ?_
    intro v2 w2 ho2 hg2 hv2
    obtain ⟨a2, n2, c2, hva⟩ : ∃ a2 n2 c2, v2 = .slice a2 n2 c2 := by
      obtain ⟨a2, c2, hva, -⟩ := ho2.rd
      exact ⟨a2, _, c2, hva⟩
    subst hva
    obtain ⟨⟨cc, hcc⟩, hfz2, hp2⟩ := HPU.out _ w2 a2 n2 c2 b1 ho2 hg2 hv2
    clear hoV hsV hbV ho2 hg2 hv2 b1
    refine hK.out _ _ trivial (fun hH => ?_)
    clear hK K
    try simp only [Act.put, List.setIfInBounds_toArray, List.set_cons_zero, List.set_cons_succ]
    refine tkG 8 12 hH ?_
    try simp only [Act.put, List.setIfInBounds_toArray, List.set_cons_zero, List.set_cons_succ]
    refine wpAnyH_ready (rs := [9]) (by kernel_rfl) (by simp) ?_
    refine AllReadyH.cons rfl (fun K hK => ?_) AllReadyH.nil
    go_simp
    refine hK.out _ _ trivial (fun hH => ?_)
    clear hK K
    try simp only [Act.put, List.setIfInBounds_toArray, List.set_cons_zero, List.set_cons_succ]
    refine wpAnyH_done (by kernel_rfl) ?_ _
    refine NoPanic.normal ?_
    go_end0
    exact ⟨rfl, _, _, _, hp2⟩
theorem ownO_take {w : World} {B g n cap : Nat} {es : List Off} (h : OwnO w B (.slice (some ⟨g, 0, none⟩) n cap) es) (m : Nat) (hm : m ≤ es.length) : OwnO w B (.slice (some ⟨g, 0, none⟩) m cap) (es.take m) := by
  have hl : (es.take m).length = m := by rw [List.length_take]; omega
  refine ⟨by rw [OV_length], ?_⟩
  rcases h.2 with ⟨h2, _⟩ | ⟨g', cap', cur, hv, hg, hh, h1, h3, h4, h5⟩
  · cases h2
  · simp only [Value.slice.injEq, Option.some.injEq, Addr.mk.injEq, and_true] at hv
    obtain ⟨rfl, _, rfl⟩ := hv
    refine .inr ⟨g, cap, cur, by rw [hl], hg, hh, by rw [hl]; omega, h3, h4, ?_⟩
    rw [hl]
    have e : OV es = OV (es.take m) ++ OV (es.drop m) := by rw [← OV_append, List.take_append_drop]
    have e2 : (cur.toList.take (es.length * 2)).take (m * 2) = (OV es).take (m * 2) := by rw [h5]
    rw [List.take_take, Nat.min_eq_left (by omega)] at e2
    rw [e2, e, List.take_append_of_le_length (by rw [OV_length, hl]; exact Nat.le_refl _), List.take_of_length_le (by rw [OV_length, hl]; exact Nat.le_refl _)]
set_option maxHeartbeats 4000000 in
set_option maxRecDepth 100000 in
theorem opop_any (w0 w : World) (sb n cap c0 : Nat) (a : Option Addr) (es : List Off) (h : OHp w0 w sb a (n + 1) cap c0 es) :
    Calls Try.prog 76 #[.pointer (some ⟨sb, 0, none⟩)] w fun e w' => e = .returned (.iface 26 (.agg #[.int .i64 (nthO es n).fee, .string (nthO es n).text])) ∧ OHp w0 w' sb a n n c0 (es.take n) ∧ OHop w a sb w' := by
  obtain ⟨hn, hlc, hcm, hg⟩ := ownO_shape h.own
  obtain ⟨g, rfl⟩ := hg (by omega)
  have hso := h.own
  unfold OwnO at hso
  rw [← hn] at hso
  obtain ⟨k1, k2⟩ := ownO_cell hso hn n (by omega)
  have hce := h.cell
  have HPO : Hid (∀ w1, Below w.heap.size w w1 → w1.cell? ⟨sb, 0, none⟩ = some (.slice (some ⟨g, 0, none⟩) (n + 1) cap) ∧ w1.frozen? ⟨sb, 0, none⟩ = false ∧ OHp w0 (w1.setCell ⟨sb, 0, none⟩ (.slice (some ⟨g, 0, none⟩) n n)) sb (some ⟨g, 0, none⟩) n n c0 (es.take n) ∧ OHop w (some ⟨g, 0, none⟩) sb (w1.setCell ⟨sb, 0, none⟩ (.slice (some ⟨g, 0, none⟩) n n))) := fun w1 b1 => by
    have h1 := h.below b1
    have hgs := h.ne g rfl
    refine ⟨h1.cell, obox_frozen h1.box, ⟨h1.bel.setCell h.ge _, h.ge, obox_set h1.box, ownO_kept (ownO_take h1.own n (by omega)) (fun k hk => heap_setCell_other w1 ⟨sb, 0, none⟩ k _ (fun e => hgs (by have := Option.some.inj hk; simp at this e; omega))), Nat.le_refl _, by have := h.nc; have := h.cc; omega, fun k hk => h.ne k hk, by rw [List.length_take]; have := h.few; omega⟩, ⟨by have := b1.size; simp; omega, fun k hk hks _ => ?_⟩⟩
    rw [heap_setCell_other w1 ⟨sb, 0, none⟩ k _ (fun e => hks (by simpa using e))]
    exact b1.block k hk
  obtain ⟨s, hs0⟩ : ∃ s, s = nthO es n := ⟨_, rfl⟩
  rw [← hs0] at k1 k2 ⊢
  have hnc : n + 1 ≤ cap := h.nc
  have hcm2 : cap ≤ maxLen := Nat.le_trans h.cc hcm
  unfold maxLen at hcm2
  have hn20 : n ≤ 51 := by have := h.few; omega
  have hsl := h.lt
  have hne1 : ¬ w.heap.size = sb := by omega
  have hne2 : ¬ sb = w.heap.size := by omega
  obtain ⟨hce1, hfz1, hp1, hop1⟩ := HPO.out _ (below1 w (.cells #[.int .i64 s.fee, .string s.text] 26))
  obtain ⟨_, _, hp0, hop0⟩ := HPO.out w (Below.refl _ _)
  have HP1 : Hid (_ ∧ _) := ⟨hp0.below (below1 _ (.cells #[.int .i64 s.fee, .string s.text] 26)), hop0.trans (OHop.below (below1 _ (.cells #[.int .i64 s.fee, .string s.text] 26)))⟩
  generalize es.take n = es2 at HP1 HPO hp1 hp0 ⊢
  clear hs0 h hn HPO hp1 hop1 hp0 hop0 hso hlc hcm hg
  go_enter Try.func76, Try.ntmps76
  go_wp2
  go_ret
  exact ⟨rfl, HP1.out.1, HP1.out.2⟩
theorem olen_any (a : Option Addr) (n c : Nat) (w : World) : Calls Try.prog 54 #[.slice a n c] w fun e w' => e = .returned (.int .i64 n) ∧ w' = w := by
  go_enter Try.func54, Try.ntmps54
  go_wp2
  go_ret
  exact ⟨rfl, rfl⟩
set_option maxHeartbeats 1000000 in
set_option maxRecDepth 100000 in
theorem oheapPush_any (w0 w : World) (sb n cap : Nat) (a : Option Addr) (es : List Off) (o : Off) (h : OHp w0 w sb a n cap cap es) (hf : es.length < 51) :
    Calls Try.prog 40 #[.iface 61 (.pointer (some ⟨sb, 0, none⟩)), .iface 26 (.agg #[.int .i64 o.fee, .string o.text])] w fun e w' => e = .returned (.tuple #[]) ∧ OPush w0 w' sb (offL es o) := by
  have hq := o_Push w sb
  have HC : Hid (Calls _ _ _ _ _) := opush_any w0 w sb n cap a es o h hf
  obtain ⟨m, hm⟩ : ∃ m, es.length = m := ⟨_, rfl⟩
  have HR : Hid (offL es o = upL (es ++ [o]) m) := by unfold Hid offL; rw [hm]
  have HL2 : Hid ((es ++ [o]).length = m + 1) := by unfold Hid; rw [List.length_append, hm]; rfl
  rw [HR.out]
  have hm51 : m ≤ 51 := by omega
  clear h hf HR hm
  generalize es ++ [o] = es2 at HC HL2 ⊢
  go_enter Try.func40, Try.ntmps40
  go_wp2_with fail
  refine HC.out.mono ?_
  rintro e w1 ⟨rfl, a1, n1, c1, h1⟩
  have hl1 : n1 = m + 1 := h1.len.trans HL2.out
  subst hl1
  have hq1 := o_Len w1 sb _ h1.cell
  clear HC hq
  go_wp2_with fail
  refine (olen_any _ _ _ _).mono ?_
  rintro e w2 ⟨rfl, hw2⟩
  obtain rfl := hw2.symm
  clear hq1
  go_wp2_with fail
  refine (oup_any w0 _ sb (m + 1) c1 c1 a1 es2 m _ ?e1 h1 (by rw [HL2.out]; omega)).mono ?_
  case e1 => omega
  rintro e w3 ⟨rfl, h3, -⟩
  have HE : Hid (OPush w0 w3 sb (upL es2 m)) := ⟨_, _, _, h3⟩
  clear h1 h3
  go_wp2
  go_end0
  exact ⟨rfl, HE.out⟩
set_option maxHeartbeats 1000000 in
set_option maxRecDepth 100000 in
theorem oheapPop_any (w0 w : World) (sb n cap c0 : Nat) (a : Option Addr) (es : List Off) (h : OHp w0 w sb a (n + 1) cap c0 es) :
    Calls Try.prog 55 #[.iface 61 (.pointer (some ⟨sb, 0, none⟩))] w fun e w' => e = .returned (.iface 26 (.agg #[.int .i64 (nthO es 0).fee, .string (nthO es 0).text])) ∧ OHp w0 w' sb a n n c0 (nxtL es) ∧ OHop w a sb w' := by
  have hn : es.length = n + 1 := h.len.symm
  have hq := o_Len w sb _ h.cell
  have HP : Hid (dnL (swO es 0 n) n 0 = nxtL es ++ [nthO es 0]) := pop_eq hn
  have HL : Hid ((nxtL es).length = n) := by unfold Hid; rw [nxtL_len, hn]; rfl
  have HSL : Hid ((swO es 0 n).length = n + 1) := (swO_len es 0 n).trans hn
  have hn20 : n ≤ 51 := by have := h.few; omega
  have HN : Hid (es.length = n + 1) := hn
  generalize nxtL es = fs at HP HL ⊢
  clear hn
  go_enter Try.func55, Try.ntmps55
  go_wp2_with fail
  refine (olen_any _ _ _ _).mono ?_
  rintro e w1 ⟨rfl, hw1⟩
  obtain rfl := hw1.symm
  clear hq
  have hq1 := o_Swap w sb _ h.cell
  go_wp2_with fail
  refine (oswapH_at w0 _ sb (n + 1) cap c0 a es 0 n _ _ ?e1 ?e2 h (by rw [HN.out]; omega) (by rw [HN.out]; omega)).mono ?_
  case e1 => rfl
  case e2 => omega
  rintro e w2 ⟨rfl, h2, hop2⟩
  clear hq1 h
  go_wp2_with fail
  refine (odown_any w0 _ sb (n + 1) cap c0 a _ n _ ?e3 h2 (by rw [HSL.out]; omega)).mono ?_
  case e3 => omega
  rintro e w3 ⟨⟨b3, rfl⟩, h3, hop3⟩
  have hop4 := hop2.trans hop3
  rw [HP.out] at h3
  have hq3 := o_Pop w3 sb
  have HC : Hid (Calls _ _ _ _ _) := opop_any w0 w3 sb n cap c0 a _ h3
  have e1 : nthO (fs ++ [nthO es 0]) n = nthO es 0 := by
    have := nthO_append_last fs (nthO es 0)
    rw [HL.out] at this; exact this
  have e2 : (fs ++ [nthO es 0]).take n = fs := by
    rw [List.take_append_of_le_length (by rw [HL.out]; exact Nat.le_refl _), List.take_of_length_le (by rw [HL.out]; exact Nat.le_refl _)]
  rw [e1, e2] at HC
  clear h2 h3 hop2 hop3 e1 e2 HP HSL HL HN
  go_wp2_with fail
  refine HC.out.mono ?_
  rintro e w5 ⟨rfl, h5, hop5⟩
  have HE : Hid (OHp w0 w5 sb a n n c0 fs ∧ OHop w a sb w5) := ⟨h5, hop4.trans hop5⟩
  clear h5 hop5 hop4 HC hq3
  go_wp2
  go_ret
  exact ⟨rfl, HE.out⟩
end Go.Proofs.Yteohiicaiilicaa
