/- The contracts of the laws' own helpers over slices of slices of entries: copied, alike, marked. -/
import Derived.Test.YtihacdfchmobpaaMrgLL
namespace Go.Proofs.Ytihacdfchmobpaa
open Go.RowKit
theorem made_PV (n : Nat) : (madeCells #[Value.slice none 0 0] n).toList = List.replicate n (.slice none 0 0) := by rw [toList_madeCells_one]
theorem pv_step (us : List (Value × List Ent)) (n k : Nat) (u : Value) (zs : List Ent) (hk : us.length = k) (h : k < n) : (us.map (·.1) ++ List.replicate (n - k) (Value.slice none 0 0)).set k u = (us ++ [(u, zs)]).map (·.1) ++ List.replicate (n - (k + 1)) (.slice none 0 0) := by
  subst hk
  obtain ⟨m, hm⟩ : ∃ m, n - us.length = m + 1 := ⟨n - us.length - 1, by omega⟩
  have hm2 : n - (us.length + 1) = m := by omega
  rw [hm, hm2, List.set_append_right _ _ (by simp), List.length_map, Nat.sub_self, List.replicate_succ, List.set_cons_zero, List.map_append, List.append_assoc]
  rfl
/-- The lists of a copy under way. -/
structure Copied (w : World) (mid : Nat) (us : List (Value × List Ent)) (ls : List (List Ent)) (k : Nat) : Prop where
  len : us.length = k
  same : us.map (·.2) = ls.take k
  ins : ∀ p ∈ us, OwnE w mid p.1 p.2
  apart : us.Pairwise (fun p q => ∀ k, p.1.ownBlock = some k → q.1.ownBlock ≠ some k)
theorem Copied.step {w w2 : World} {mid b o k : Nat} {us : List (Value × List Ent)} {ls : List (List Ent)} {u : Value} {zs : List Ent} (h : Copied w mid us ls k) (hl : ls[k]? = some zs) (hb : Below w.heap.size w w2) (hu : OwnE w2 w.heap.size u zs) (hm : mid ≤ w.heap.size) (hbm : b < mid) :
    Copied (w2.setCell ⟨b, o, none⟩ u) mid (us ++ [(u, zs)]) ls (k + 1) := by
  have hk : k < ls.length := (List.getElem?_eq_some_iff.1 hl).1
  have hne : ∀ (g : Nat), mid ≤ g → (w2.setCell ⟨b, o, none⟩ u).heap[g]? = w2.heap[g]? := fun g hg => heap_setCell_other w2 ⟨b, o, none⟩ g u (fun e => by simp at e; omega)
  refine ⟨by rw [List.length_append, h.len]; rfl, ?_, fun p hp => ?_, ?_⟩
  · rw [List.map_append, h.same, List.take_succ_eq_append_getElem hk, (List.getElem?_eq_some_iff.1 hl).2]
    rfl
  · rcases List.mem_append.1 hp with hp | hp
    · have h1 := (h.ins p hp).below hb
      exact ownE_block h1 (fun g hg => hne g (World.ownsRow.lt h1 g hg).1)
    · rw [List.mem_singleton.1 hp]
      exact (ownE_block hu (fun g hg => hne g (Nat.le_trans hm (World.ownsRow.lt hu g hg).1))).mono hm
  · rw [List.pairwise_append]
    refine ⟨h.apart, by simp, fun p hp q hq g hg e => ?_⟩
    rw [List.mem_singleton.1 hq] at e
    have h1 := (World.ownsRow.lt (h.ins p hp) g hg).2
    have h2 := (World.ownsRow.lt hu g e).1
    omega
set_option maxHeartbeats 2000000 in
set_option maxRecDepth 100000 in
theorem toLL_any (v : Value) (ps : List (Value × List Ent)) (w : World) (hp : Lists w v ps) (hn : ps.length ≤ 1048576) (hl : ∀ p ∈ ps, p.2.length ≤ 1048576) :
    Calls Try.prog 24 #[v] w fun e w' => ∃ u us, e = .returned u ∧ us.map (·.2) = ps.map (·.2) ∧ OwnLL w' w.heap.size (w.heap.size + 1) w'.heap.size u us ∧ Below w.heap.size w w' := by
  obtain ⟨i0, hi, hz0, hz1, hz2⟩ := info_parts Try.info26
  obtain ⟨a, cap, hv, hla, hma, hat⟩ := hp.at
  obtain ⟨ls, hls⟩ : ∃ ls, ls = ps.map (·.2) := ⟨_, rfl⟩
  have HLL : Hid (∀ l ∈ ls, l.length ≤ 1048576) := fun l hl' => by
    rw [hls] at hl'
    obtain ⟨p, hp', rfl⟩ := List.mem_map.1 hl'
    exact hl p hp'
  have hln : ls.length = ps.length := by rw [hls, List.length_map]
  rw [← hls] at hat ⊢
  obtain ⟨nn, hnn⟩ : ∃ nn, nn = ps.length := ⟨_, rfl⟩
  rw [← hnn] at hv hla hat hln hn
  have AT : Hid (∀ k, k < nn → _) := hat
  have HLN : Hid (ls.length = nn) := hln
  unfold maxLen at hma
  subst hv
  clear hat hln hnn hls hp hl
  go_enter Try.func24, Try.ntmps24
  go_wp2_with (at_make; (refine wpList_make_full _ rfl _ _ 24 rfl w.heap.size 26 i0 (.slice none 0 0) 1 Try.underlying24 hi hz0 hz1 .i64 .i64 (nn : Int) (nn : Int) nn rfl rfl rfl rfl ?c1 ?c2 ?c3 ?_))
  case c1 => rw [hz2]; omega
  case c2 => unfold maxLen; omega
  case c3 => omega
  intro w1 ho1 hg1
  rw [made_PV] at ho1
  have hb1 : Below w.heap.size w w1 := (Below.refl _ _).grown hg1 (Nat.le_refl _) (fun k hk => by cases hk)
  have hs1 : w.heap.size + 1 ≤ w1.heap.size := (World.ownsRow.lt ho1 w.heap.size rfl).2
  clear hg1
  go_wp2
  go_loopw [4] (fun i wr => ∃ (k : Nat) (us : List (Value × List Ent)), k ≤ nn ∧ i = .int .i64 k ∧ wr.ownsRow w.heap.size 26 1 (.slice (some ⟨w.heap.size, 0, none⟩) nn nn) nn (us.map (·.1) ++ List.replicate (nn - k) (.slice none 0 0)) ∧ Hid (Copied wr (w.heap.size + 1) us ls k) ∧ w.heap.size + 1 ≤ wr.heap.size ∧ Below w.heap.size w wr) (fun i _ => nn - (intOf i).toNat)
  case atStart => exact ⟨0, [], Nat.zero_le _, rfl, by simpa using ho1, ⟨rfl, by simp, (fun p hp => by cases hp), List.Pairwise.nil⟩, hs1, hb1⟩
  case round =>
    obtain ⟨k, us, hk, rfl, ho, HC, hs, hb⟩ := hrel
    clear ho1 hb1 hs1
    by_cases hlt : k < nn
    · obtain ⟨b, off, aa, zn, cc, zs, rfl, hc, hrz, hlz⟩ := AT.out k hlt wr hb
      have HLZ : Hid (ls[k]? = some zs) := hlz
      have hzl : zs.length ≤ 1048576 := HLL.out zs (List.mem_of_getElem? hlz)
      have HUL : Hid (us.length = k) := HC.out.len
      have hkc : k < cap := by omega
      clear hlz
      go_wp2_with fail
      refine (toEnts_any _ zs _ hrz (by omega)).mono ?_
      rintro e w2 ⟨u, rfl, hu2, hb2⟩
      have ho2 := own_below ho hb2
      have hc2 := (ho2.cellAt k (by omega)).trans (show (us.map (·.1) ++ List.replicate (nn - k) (Value.slice none 0 0))[k]? = some (.slice none 0 0) by
        have := HUL.out
        rw [List.getElem?_append_right (by simp; omega), List.getElem?_replicate, if_pos (by simp; omega)])
      have hf := ho2.frozenAt k
      have R1 := (ho2.stored k u).1
      rw [pv_step us nn k u zs HUL.out hlt] at R1
      have HC2 : Hid (Copied (w2.setCell ⟨w.heap.size, k, none⟩ u) (w.heap.size + 1) (us ++ [(u, zs)]) ls (k + 1)) := HC.out.step HLZ.out hb2 hu2 hs (by omega)
      have b3 := hb.trans (hb2.mono hb.size)
      have b4 : Below w.heap.size w (w2.setCell ⟨w.heap.size, k, none⟩ u) := b3.setCell (Nat.le_refl _) _
      have hs4 : w.heap.size + 1 ≤ (w2.setCell ⟨w.heap.size, k, none⟩ u).heap.size := by have := hb2.size; simp; omega
      obtain ⟨ua, uc, hva, -⟩ := id hu2.rd
      generalize zs.length = zl at hva
      subst hva
      have H1 : Hid (World.ownsRow _ _ _ _ _ _ _) := R1
      clear ho ho2 hu2 hb hb2 b3 R1 hrz hc HC
      go_wp2
      go_roundw
      case rel => exact ⟨k + 1, _, by omega, by go_num, H1.out, HC2, hs4, b4⟩
      case measure => simp [intOf]; omega
    · have hke : k = nn := by omega
      have HEND : Hid (us.map (·.2) = ls ∧ OwnLL wr w.heap.size (w.heap.size + 1) wr.heap.size (.slice (some ⟨w.heap.size, 0, none⟩) nn nn) us) := by
        have hul := HC.out.len
        refine ⟨by rw [HC.out.same, hke, ← HLN.out, List.take_length], ⟨?_, fun k hk => ?_, fun p hp => ⟨HC.out.ins p hp, fun k hk => (World.ownsRow.lt (HC.out.ins p hp) k hk).2⟩, HC.out.apart, by omega⟩⟩
        · unfold OwnP
          rw [hul, hke]
          rw [hke, Nat.sub_self, List.replicate_zero, List.append_nil] at ho
          exact ho
        · have : w.heap.size = k := Option.some.inj hk
          omega
      clear ho HC hke
      go_wp2
      go_ret
      exact ⟨_, us, rfl, HEND.out.1, HEND.out.2, hb⟩
set_option maxHeartbeats 2000000 in
set_option maxRecDepth 100000 in
theorem eqLL_same (va vb : Value) (us qs : List (Value × List Ent)) (w : World) (ha : Pieces w va us) (hb : Pieces w vb qs) (hs : us.map (·.2) = qs.map (·.2)) :
    Calls Try.prog 26 #[va, vb] w fun e w' => e = .returned (.bool true) ∧ Below w.heap.size w w' := by
  obtain ⟨a, ca, hva, hla, hma, hat⟩ := ha.at
  obtain ⟨b, cb, hvb, hlb, hmb, hbt⟩ := hb.at
  have hl : qs.length = us.length := by have := congrArg List.length hs; simpa using this.symm
  rw [← hs] at hbt
  rw [hl] at hvb hlb hbt
  obtain ⟨ls, hls⟩ : ∃ ls, ls = us.map (·.2) := ⟨_, rfl⟩
  rw [← hls] at hat hbt
  obtain ⟨nn, hnn⟩ : ∃ nn, nn = us.length := ⟨_, rfl⟩
  rw [← hnn] at hva hla hvb hlb hat hbt
  have AT : Hid (∀ k, k < nn → _) := hat
  have BT : Hid (∀ k, k < nn → _) := hbt
  unfold maxLen at hma hmb
  subst hva
  subst hvb
  have hne : ((nn : Int) != (nn : Int)) = false := by simp
  clear hat hbt hls hnn hl hs ha hb
  go_enter Try.func26, Try.ntmps26
  go_wp2
  go_loopw [5] (fun i wr => ∃ k : Nat, k ≤ nn ∧ i = .int .i64 k ∧ Below w.heap.size w wr) (fun i _ => nn - (intOf i).toNat)
  case atStart => exact ⟨0, Nat.zero_le _, rfl, Below.refl _ _⟩
  case round =>
    obtain ⟨k, hk, rfl, hb⟩ := hrel
    by_cases hlt : k < nn
    · obtain ⟨b1, o1, a1, n1, c1, z1, rfl, hc1, hr1, hz1⟩ := AT.out k hlt wr hb
      obtain ⟨b2, o2, a2, n2, c2, z2, rfl, hc2, hr2, hz2⟩ := BT.out k hlt wr hb
      have hzz : z2 = z1 := Option.some.inj (hz2.symm.trans hz1)
      subst hzz
      have hkc1 : k < ca := by omega
      have hkc2 : k < cb := by omega
      clear hz1 hz2
      go_wp2_with fail
      refine wp_region_noPanic ?_
      refine wp_region_held_drew (S := fun W => W.cell? ⟨b1, o1 + k, none⟩ = some (.slice a1 n1 c1) ∧ W.cell? ⟨b2, o2 + k, none⟩ = some (.slice a2 n2 c2)) (by kernel_rfl) ⟨hc1, hc2⟩ (fun hH => ?_)
      refine takeH (i := 0) (d := 17) (v := ?_) rfl rfl (by kernel_rfl) (by kernel_rfl) (by kernel_rfl) (fun _ _ _ h => h) (Or.inl ⟨by kernel_rfl, ?_⟩) hH ?_
      rotate_left 1
      · intro w hS; (try dsimp only [EntAt, Nat.zero_add] at hS); go_simp; (try with_reducible rfl)
      try simp only [Act.put, List.setIfInBounds_toArray, List.set_cons_zero, List.set_cons_succ]
      refine takeH (i := 1) (d := 18) (v := ?_) rfl rfl (by kernel_rfl) (by kernel_rfl) (by kernel_rfl) (fun _ _ _ h => h) (Or.inl ⟨by kernel_rfl, ?_⟩) hH ?_
      rotate_left 1
      · intro w hS; (try dsimp only [EntAt, Nat.zero_add] at hS); go_simp; (try with_reducible rfl)
      try simp only [Act.put, List.setIfInBounds_toArray, List.set_cons_zero, List.set_cons_succ]
      refine takeH (i := 2) (d := 19) (v := ?_) rfl rfl (by kernel_rfl) (by kernel_rfl) (by kernel_rfl) (fun _ _ _ h => h) (Or.inl ⟨by kernel_rfl, ?_⟩) hH ?_
      rotate_left 1
      · intro w hS; (try dsimp only [EntAt, Nat.zero_add] at hS); go_simp; (try with_reducible rfl)
      try simp only [Act.put, List.setIfInBounds_toArray, List.set_cons_zero, List.set_cons_succ]
      refine takeH (i := 3) (d := 20) (v := ?_) rfl rfl (by kernel_rfl) (by kernel_rfl) (by kernel_rfl) (fun _ _ _ h => h) (Or.inl ⟨by kernel_rfl, ?_⟩) hH ?_
      rotate_left 1
      · intro w hS; (try dsimp only [EntAt, Nat.zero_add] at hS); go_simp; (try with_reducible rfl)
      try simp only [Act.put, List.setIfInBounds_toArray, List.set_cons_zero, List.set_cons_succ]
      refine takeH (i := 4) (d := 21) (v := ?_) rfl rfl (by kernel_rfl) (by kernel_rfl) (by kernel_rfl) (fun _ _ _ h => h) (Or.inl ⟨by kernel_rfl, ?_⟩) hH ?_
      rotate_left 1
      · intro w hS; (try dsimp only [EntAt, Nat.zero_add] at hS); go_simp; (try with_reducible rfl)
      try simp only [Act.put, List.setIfInBounds_toArray, List.set_cons_zero, List.set_cons_succ]
      refine takeH (i := 5) (d := 22) (v := ?_) rfl rfl (by kernel_rfl) (by kernel_rfl) (by kernel_rfl) (fun _ _ _ h => h) (Or.inl ⟨by kernel_rfl, ?_⟩) hH ?_
      rotate_left 1
      · intro w hS; (try dsimp only [EntAt, Nat.zero_add] at hS); go_simp; (try with_reducible rfl)
      try simp only [Act.put, List.setIfInBounds_toArray, List.set_cons_zero, List.set_cons_succ]
      refine takeH (i := 6) (d := 23) (v := ?_) rfl rfl (by kernel_rfl) (by kernel_rfl) (by kernel_rfl) (fun _ _ _ h => h) (Or.inl ⟨by kernel_rfl, ?_⟩) hH ?_
      rotate_left 1
      · intro w hS; (try dsimp only [EntAt, Nat.zero_add] at hS); go_simp; (try with_reducible rfl)
      try simp only [Act.put, List.setIfInBounds_toArray, List.set_cons_zero, List.set_cons_succ]
      refine takeH (i := 7) (d := 24) (v := ?_) rfl rfl (by kernel_rfl) (by kernel_rfl) (by kernel_rfl) (fun _ _ _ h => h) (Or.inl ⟨by kernel_rfl, ?_⟩) hH ?_
      rotate_left 1
      · intro w hS; (try dsimp only [EntAt, Nat.zero_add] at hS); go_simp; (try with_reducible rfl)
      try simp only [Act.put, List.setIfInBounds_toArray, List.set_cons_zero, List.set_cons_succ]
      refine wpAnyH_ready (rs := [8]) (by kernel_rfl) (by simp) ?_
      refine AllReadyH.cons rfl (fun K hK => ?_) AllReadyH.nil
      go_simp
      refine (eqEnts_same _ _ z2 _ (hr1.drewN 1) (hr2.drewN 1)).mono ?_
      rintro e w2 ⟨rfl, hb2⟩
      refine hK.out _ _ ⟨(hb2.cell (World.block_lt_of_cell? _ _ hH.1)).trans hH.1, (hb2.cell (World.block_lt_of_cell? _ _ hH.2)).trans hH.2⟩ (fun hB => ?_)
      clear hK K
      try simp only [Act.put, List.setIfInBounds_toArray, List.set_cons_zero, List.set_cons_succ]
      refine takeH (i := 9) (d := 26) (v := ?_) rfl rfl (by kernel_rfl) (by kernel_rfl) (by kernel_rfl) (fun _ _ _ h => h) (Or.inl ⟨by kernel_rfl, ?_⟩) hB ?_
      rotate_left 1
      · intro w hS; (try dsimp only [EntAt, Nat.zero_add] at hS); go_simp; (try with_reducible rfl)
      try simp only [Act.put, List.setIfInBounds_toArray, List.set_cons_zero, List.set_cons_succ]
      refine wpAnyH_done (by kernel_rfl) ?_ _
      refine NoPanic.normal ?_
      have bz : Below w.heap.size w w2 := hb.drew.trans (hb2.mono hb.size)
      clear hB hH hb2 hb hr1 hr2 hc1 hc2
      go_wp2
      go_roundw
      case rel => exact ⟨k + 1, by omega, by go_num, bz⟩
      case measure => simp [intOf]; omega
    · go_wp2
      go_ret
      exact ⟨rfl, hb⟩
/-- Nothing that was there is other but from block lo to below hi. -/
structure Rng (w w' : World) (lo hi : Nat) : Prop where
  os : w'.os = w.os
  tape : w'.tape = w.tape
  output : w'.output = w.output
  size : w.heap.size ≤ w'.heap.size
  block : ∀ i, i < w.heap.size → (i < lo ∨ hi ≤ i) → w'.heap[i]? = w.heap[i]?
theorem Rng.refl (w : World) (lo hi : Nat) : Rng w w lo hi := ⟨rfl, rfl, rfl, Nat.le_refl _, fun _ _ _ => rfl⟩
theorem Rng.grown {w w1 w2 : World} {lo hi : Nat} {row : Option Nat} (h : Rng w w1 lo hi) (hg : w1.grownBy w2 row) (hr : ∀ k, row = some k → lo ≤ k ∧ k < hi) : Rng w w2 lo hi :=
  ⟨hg.os.trans h.os, hg.tape.trans h.tape, hg.output.trans h.output, Nat.le_trans h.size hg.size, fun i hi' hx => (hg.block i (Nat.lt_of_lt_of_le hi' h.size) (fun e => by have := hr i e.symm; omega)).trans (h.block i hi' hx)⟩
theorem Rng.below {w w' w0 : World} {lo hi B : Nat} (h : Rng w w' lo hi) (hb : Below B w0 w) (hl : B ≤ lo) (hw : B ≤ w.heap.size) : Below B w0 w' :=
  ⟨h.os.trans hb.os, h.tape.trans hb.tape, h.output.trans hb.output, Nat.le_trans hb.size h.size, fun i hi' => (h.block i (by omega) (.inl (by omega))).trans (hb.block i hi')⟩
theorem Rng.ownE {w w' : World} {lo hi B : Nat} {v : Value} {es : List Ent} (h : Rng w w' lo hi) (ho : OwnE w B v es) (ha : ∀ k, v.ownBlock = some k → k < lo ∨ hi ≤ k) : OwnE w' B v es :=
  ownE_block ho (fun k hk => h.block k (World.ownsRow.lt ho k hk).2 (ha k hk))
set_option maxHeartbeats 2000000 in
set_option maxRecDepth 100000 in
theorem markLL_any (v : Value) (us : List (Value × List Ent)) (w : World) (lo mid hi : Nat) (h : OwnLL w lo mid hi v us) (hs : lsum (us.map (·.2)) ≤ 1048576) :
    Calls Try.prog 27 #[v, .int .i64 1] w fun e w' => e = .returned (.int .i64 (1 + 4 * (lsum (us.map (·.2)) : Int))) ∧ Rng w w' mid hi := by
  obtain ⟨a, cap, hv, hla, hma⟩ : ∃ a cap, v = .slice a us.length cap ∧ us.length ≤ cap ∧ cap ≤ maxLen := by
    rcases h.row.2 with ⟨h1, h2⟩ | ⟨g, cap, cur, hv, _, _, h3, h4, _⟩
    · exact ⟨none, 0, by rw [h1, h2], by omega, Nat.zero_le _⟩
    · exact ⟨_, cap, hv, h3, h4⟩
  unfold maxLen at hma
  have HLL : Hid (OwnLL w lo mid hi v us) := h
  have HAP : Hid (us.Pairwise (fun p q => ∀ k, p.1.ownBlock = some k → q.1.ownBlock ≠ some k)) := h.apart
  have hrow := h.row
  obtain ⟨nn, hnn⟩ : ∃ nn, nn = us.length := ⟨_, rfl⟩
  have HNN : Hid (nn = us.length) := hnn
  have HS : Hid (lsum (us.map (·.2)) ≤ 1048576) := hs
  have LE : Hid (∀ k, lsum ((us.map (·.2)).take k) ≤ lsum (us.map (·.2))) := fun k => by
    have : lsum (us.map (·.2)) = lsum ((us.map (·.2)).take k) + lsum ((us.map (·.2)).drop k) := by
      unfold lsum
      rw [← List.sum_append, ← List.map_append, List.take_append_drop]
    omega
  rw [← hnn] at hv hla
  subst hv
  clear h hs hnn
  go_enter Try.func27, Try.ntmps27
  go_wp2
  go_loopw [1, 5] (fun kv i wr => ∃ (k kk : Nat), k ≤ nn ∧ i = .int .i64 k ∧ kv = .int .i64 kk ∧ Hid (kk = 1 + 4 * lsum ((us.map (·.2)).take k)) ∧ Hid (∀ p ∈ us.drop k, OwnE wr mid p.1 p.2) ∧ OwnP wr lo (.slice a nn cap) us ∧ Rng w wr mid hi) (fun _ i _ => nn - (intOf i).toNat)
  case atStart => exact ⟨0, 1, Nat.zero_le _, rfl, rfl, by unfold Hid; simp [lsum], (fun p hp => (HLL.out.ins p (by simpa using hp)).1), hrow, Rng.refl _ _ _⟩
  case round =>
    obtain ⟨k, kk, hk, rfl, rfl, HK, HI, ho, hrng⟩ := hrel
    clear hrow
    by_cases hlt : k < nn
    · have hku : k < us.length := by rw [← HNN.out]; exact hlt
      obtain ⟨p, hpk⟩ : ∃ p, p = us[k] := ⟨_, rfl⟩
      have hdr : us.drop k = p :: us.drop (k + 1) := by rw [hpk]; exact List.drop_eq_getElem_cons hku
      have hpo : OwnE wr mid p.1 p.2 := HI.out p (by rw [hdr]; exact List.mem_cons_self)
      have hpm : p ∈ us := by rw [hpk]; exact List.getElem_mem hku
      have hap : ∀ q ∈ us.drop (k + 1), ∀ j, p.1.ownBlock = some j → q.1.ownBlock ≠ some j := by
        have := HAP.out.sublist (List.drop_sublist k us)
        rw [hdr] at this
        exact (List.pairwise_cons.1 this).1
      have hcell : ∃ b off, a = some ⟨b, off, none⟩ ∧ wr.cell? ⟨b, off + k, none⟩ = some p.1 := by
        rcases ho.2 with ⟨h1, h2⟩ | ⟨g, cap', cur, hv, _⟩
        · exfalso; omega
        · simp only [Value.slice.injEq] at hv
          obtain ⟨rfl, h1, rfl⟩ := hv
          refine ⟨g, 0, rfl, ?_⟩
          have hoo := ho
          unfold OwnP at hoo
          rw [← h1] at hoo
          have := World.ownsRow.cellAt hoo k (by omega)
          rw [Nat.zero_add, this]
          simp [hku, hpk]
      obtain ⟨b, off, rfl, hc⟩ := hcell
      have hls : (us.map (·.2))[k]? = some p.2 := by simp [hku, hpk]
      have hsum := lsum_take hls
      have hle := LE.out (k + 1)
      have HK2 : Hid (kk + 4 * p.2.length = 1 + 4 * lsum ((us.map (·.2)).take (k + 1))) := by unfold Hid; rw [hsum, HK.out]; omega
      have hkb : kk + 4 * p.2.length ≤ 4194305 := by have := HK2.out; have := HS.out; omega
      have hk0 : 0 < kk := by have := HK.out; omega
      have HPI : Hid (∀ w2, wr.grownBy w2 p.1.ownBlock → (∀ q ∈ us.drop (k + 1), OwnE w2 mid q.1 q.2) ∧ OwnP w2 lo (.slice (some ⟨b, off, none⟩) nn cap) us ∧ Rng w w2 mid hi) := fun w2 hg => by
        refine ⟨fun q hq => ?_, ?_, hrng.grown hg (fun j hj => ⟨(World.ownsRow.lt hpo j hj).1, (HLL.out.ins p hpm).2 j hj⟩)⟩
        · have h1 := HI.out q (by rw [hdr]; exact List.mem_cons_of_mem _ hq)
          exact row_kept h1 hg (fun j hj e => hap q hq j e hj)
        · refine row_kept ho hg (fun j hj e => ?_)
          have := HLL.out.rowlt j hj
          have := (World.ownsRow.lt hpo j e).1
          omega
      have HCM : Hid (Calls _ _ _ _ _) := emark_any p.1 p.2 mid kk wr hk0 hkb hpo
      obtain ⟨pa, pc, hpv, -⟩ := id hpo.rd
      obtain ⟨pn, hpn⟩ : ∃ pn, pn = p.2.length := ⟨_, rfl⟩
      rw [← hpn] at hpv
      rw [hpv] at hc HCM HPI
      rw [← hpn] at HCM HK2 hkb
      have hkc : k < cap := by omega
      clear hpk hdr hpo hpm hap hls hsum hle hku hpn hpv HI ho hrng
      go_wp2_with fail
      refine HCM.out.mono ?_
      rintro e w2 ⟨rfl, _, hg2⟩
      obtain ⟨r1, r2, r3⟩ := HPI.out w2 hg2
      clear hc HPI hg2 HCM
      go_wp2
      go_roundw
      case rel => exact ⟨k + 1, kk + 4 * pn, by omega, by go_num, rfl, HK2, r1, r2, r3⟩
      case measure => simp [intOf]; omega
    · have hke : k = nn := by omega
      have HE : Hid ((kk : Int) = 1 + 4 * (lsum (us.map (·.2)) : Int)) := by
        have h1 := HK.out
        rw [hke, HNN.out, List.take_of_length_le (by simp)] at h1
        unfold Hid
        omega
      clear hke
      go_wp2
      go_ret
      exact ⟨congrArg (fun z => Ending.returned (.int .i64 z)) HE.out, hrng⟩
end Go.Proofs.Ytihacdfchmobpaa
