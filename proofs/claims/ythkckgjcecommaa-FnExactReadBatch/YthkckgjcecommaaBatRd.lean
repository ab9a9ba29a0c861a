/- The contracts of both ReadBatches over any text. -/
-- UNF Gen
import Derived.Test.YthkckgjcecommaaBat
import Derived.Test.YthkckgjcecommaaWrsOf
import Derived.Test.YthkckgjcecommaaRdTexts
namespace Go.Proofs.Ythkckgjcecommaa
open Go.RowKit
theorem fin_small3 (bs : List UInt8) (ss : List ByteArray) (ok : Bool) (h : fin bs (rdAll bs) = (ss, ok)) : ss.length ≤ 200 ∧ ∀ s ∈ ss, s.size ≤ 3000 := by
  cases ok with
  | false =>
    have := fin_no bs ss h
    subst this
    exact ⟨Nat.zero_le _, fun s hs => by cases hs⟩
  | true =>
    have e := fin_back bs ss h
    refine Decidable.byContradiction fun hn => ?_
    have e2 : textsOf ss = [] := by
      unfold textsOf
      rw [if_neg hn]
    rw [e2] at e
    subst e
    rw [show fin [] (rdAll []) = ([], false) by rfl] at h
    cases h
/-- What a ReadBatch leaves: the writes, in memory of its own, and whether there are any. -/
def BatPost (w : World) (F : List Wri × Bool) (e : Ending) (w' : World) : Prop := ∃ u, e = .returned (.tuple #[u, .bool F.2]) ∧ OwnW w' w.heap.size u F.1 ∧ Below w.heap.size w w'
theorem batPost_no {w wr : World} {B : Nat} {F : List Wri × Bool} {u : Value} (h : F = ([], false)) (ho : OwnW wr B u []) (hB : w.heap.size ≤ B) (hb : Below w.heap.size w wr) : BatPost w F (.returned (.tuple #[u, .bool false])) wr := by
  subst h
  exact ⟨u, rfl, ho.mono hB, hb⟩
theorem batPost_yes {w wr : World} {B : Nat} {F : List Wri × Bool} {u : Value} {xs : List Wri} (h : F = (xs, true)) (ho : OwnW wr B u xs) (hB : w.heap.size ≤ B) (hb : Below w.heap.size w wr) : BatPost w F (.returned (.tuple #[u, .bool true])) wr := by
  subst h
  exact ⟨u, rfl, ho.mono hB, hb⟩
theorem emp_yes {s : ByteArray} (h : s.size = 0) : s.toList.isEmpty = true := by
  rw [bToList, List.isEmpty_iff]
  exact List.length_eq_zero_iff.1 (by rw [size_length]; exact h)
theorem emp_no {s : ByteArray} (h : 0 < s.size) : s.toList.isEmpty = false := by
  rw [bToList, List.isEmpty_eq_false_iff]
  intro e
  have := size_length s
  rw [e] at this
  simp at this
  omega
theorem wrs_small : ∀ (n : Nat) (ss : List ByteArray) (xs : List Wri), ss.length ≤ n → (∀ s ∈ ss, s.size ≤ 3000) → wrs ss = some xs → xs.length ≤ ss.length ∧ ∀ x ∈ xs, x.key.size ≤ 3000 ∧ x.val.size ≤ 3000 := by
  intro n ss xs hl hs h
  have e := wrs_back n ss xs hl h
  subst e
  refine ⟨by rw [batTx_len]; omega, fun x hx => ⟨hs _ ?_, hs _ ?_⟩⟩
  · exact List.mem_flatMap.2 ⟨x, hx, by simp [trio]⟩
  · exact List.mem_flatMap.2 ⟨x, hx, by simp [trio]⟩
set_option maxHeartbeats 4000000 in
set_option maxRecDepth 100000 in
theorem implReadBatch_any (s : ByteArray) (F : List Wri × Bool) (w : World) (hs : s.size ≤ 1048576) (hF : RB s F) :
    Calls Try.prog 11 #[.string s] w fun e w' => BatPost w F e w' := by
  have hcv := conv_bytes w s
  have hrd := bytes_rd w s (by unfold maxLen; omega)
  have hbl := bytes_below w s
  generalize Lib.bytesWorld w 5 s = W at hcv hrd hbl
  generalize grownCap w s.size 0 5 = c0 at hcv hrd
  obtain ⟨ss, ok, hf⟩ : ∃ ss ok, fin s.data.toList (rdAll s.data.toList) = (ss, ok) := ⟨_, _, rfl⟩
  have HR : Hid (∀ v W, Rd W v s.data.toList → Calls Try.prog 22 #[v] W fun e w' => TextsPost W (ss, ok) e w') := fun v W h => by
    have := implReadTexts_any v _ W h
    rw [hf] at this
    exact this
  have hsm := fin_small3 _ _ _ hf
  have HRB := rb_impl hF hf
  obtain ⟨xs, hxs⟩ : ∃ xs, xs = (wrs ss).getD [] := ⟨_, rfl⟩
  have hx2 : xs.length ≤ 200 ∧ ∀ x ∈ xs, x.key.size ≤ 3000 ∧ x.val.size ≤ 3000 := by
    rw [hxs]
    cases hw : wrs ss with
    | none => exact ⟨Nat.zero_le _, fun x hx => by cases hx⟩
    | some l =>
      have := wrs_small _ ss l (Nat.le_refl _) hsm.2 hw
      exact ⟨by show l.length ≤ 200; omega, this.2⟩
  rw [← hxs] at HRB
  have HWS : Hid (∀ v W, RdS W v ss → Calls Try.prog 23 #[v] W fun e w' => ∃ u, e = .returned u ∧ OwnW w' W.heap.size u xs ∧ Below W.heap.size W w') := fun v W h => by rw [hxs]; exact writesOf_any v ss W h hsm.1
  have HBA : Hid (∀ v W, RdW W v xs → Calls Try.prog 8 #[v] W fun e w' => e = .returned (.string (batS xs)) ∧ Below W.heap.size W w') := fun v W h => implBatch_any v xs W h (fun x hx => ⟨by have := (hx2.2 x hx).1; omega, by have := (hx2.2 x hx).2; omega⟩)
  clear hf hsm hx2 hxs hF
  go_enter Try.func11, Try.ntmps11
  go_wp2_with fail
  refine (HR.out _ _ hrd).mono ?_
  rintro e w1 ⟨v1, rfl, ho1, hb1⟩
  have b1 := hbl.trans (hb1.mono hbl.size)
  clear hcv hrd hbl hb1 HR
  go_wp2_with fail
  refine (HWS.out _ _ ho1.rd).mono ?_
  rintro e w2 ⟨v2, rfl, ho2, hb2⟩
  have b2 := b1.trans (hb2.mono b1.size)
  have s1 := b1.size
  clear hb2 b1 HWS ho1
  go_wp2_with fail
  refine (HBA.out _ _ ho2.rd).mono ?_
  generalize batS xs = t at HRB
  rintro e w3 ⟨rfl, hb3⟩
  have b3 := b2.trans (hb3.mono b2.size)
  have ho3 := ho2.below hb3
  clear hb3 b2 ho2 HBA
  rcases HRB with ⟨hF, hz⟩ | ⟨hF, hz⟩
  · have hem := emp_no hz
    have HF : Hid (F = (xs, true)) := hF
    clear hF hz
    go_wp2
    go_ret2
    exact batPost_yes HF.out ho3 s1 b3
  · have hem := emp_yes hz
    have HF : Hid (F = ([], false)) := hF
    have hn := ownW_none w3
    have b4 := b3.alloc b3.size (.cells #[] 37)
    have s3 := b3.size
    clear hF hz
    go_wp2
    go_ret2
    exact batPost_no HF.out hn s3 b4
theorem bne_no (t : ByteArray) : (!t.toList == t.toList) = false := by simp
theorem bne_yes {t s : ByteArray} (h : t ≠ s) : (!t.toList == s.toList) = true := by
  simp only [Bool.not_eq_true', beq_eq_false_iff_ne]
  rw [bToList, bToList]
  exact fun e => h (baB_ext e)
set_option maxHeartbeats 4000000 in
set_option maxRecDepth 100000 in
theorem specReadBatch_any (s : ByteArray) (F : List Wri × Bool) (w : World) (hs : s.size ≤ 1048576) (hF : RB s F) :
    Calls Try.prog 10 #[.string s] w fun e w' => BatPost w F e w' := by
  have hcv := conv_bytes w s
  have hrd := bytes_rd w s (by unfold maxLen; omega)
  have hbl := bytes_below w s
  generalize Lib.bytesWorld w 5 s = W at hcv hrd hbl
  generalize grownCap w s.size 0 5 = c0 at hcv hrd
  obtain ⟨ss, ok, hf⟩ : ∃ ss ok, fin s.data.toList (rdAll s.data.toList) = (ss, ok) := ⟨_, _, rfl⟩
  have HR : Hid (∀ v W, Rd W v s.data.toList → Calls Try.prog 21 #[v] W fun e w' => TextsPost W (ss, ok) e w') := fun v W h => by
    have := specReadTexts_any v _ W h
    rw [hf] at this
    exact this
  have hsm := fin_small3 _ _ _ hf
  have HRB := rb_spec hF hf
  have HSM : Hid (ss.length ≤ 200 ∧ ∀ s ∈ ss, s.size ≤ 3000) := hsm
  clear hf hsm hF
  go_enter Try.func10, Try.ntmps10
  go_wp2_with fail
  refine (HR.out _ _ hrd).mono ?_
  rintro e w1 ⟨v1, rfl, ho1, hb1⟩
  have b1 := hbl.trans (hb1.mono hbl.size)
  have s1 := b1.size
  have HBW : Hid (Below w.heap.size w w1) := b1
  have hn := ownW_none w1
  have b2 := b1.alloc s1 (.cells #[] 37)
  have HO1 : Hid (RdS w1 v1 ss) := ho1.rd
  obtain ⟨av, cap, hv1, hlc, hcm, -⟩ := ho1.rd
  unfold maxLen at hcm
  subst hv1
  have r2 := ho1.below (below1 w1 (.cells #[] 37))
  clear hcv hrd hbl hb1 HR b1 ho1
  by_cases hgo : ok = true ∧ ss.length % 3 = 0
  · obtain ⟨rfl, h3⟩ := hgo
    obtain ⟨n, hn0⟩ : ∃ n, n = ss.length := ⟨_, rfl⟩
    have HN : Hid (n = ss.length) := hn0
    have hlen : n ≤ 200 := by have := HSM.out.1; omega
    have HSZ : Hid (∀ s ∈ ss, s.size ≤ 3000) := HSM.out.2
    rw [← hn0] at hlc h3 ⊢
    have h3i : (n : Int).tmod 3 = 0 := by rw [Int.tmod_eq_emod_of_nonneg (by omega)]; omega
    have h3e : (n : Int) % 3 = 0 := by omega
    have hq3 : (((n : Int) % 3) != 0) = false := by rw [h3e]; rfl
    clear hn0 HSM
    go_wp2
    go_loopw [6, 7] (fun oo ii wr => ∃ (p : Nat) (done : List Wri), ii = .int .i64 p ∧ p ≤ n ∧ p % 3 = 0 ∧ done.length ≤ p ∧ Hid (grp ss = done ++ grp (ss.drop p)) ∧ Hid (∀ x ∈ done, x.key.size ≤ 3000 ∧ x.val.size ≤ 3000) ∧ OwnW wr w1.heap.size oo done ∧ Below w1.heap.size w1 wr) (fun _ ii _ => n - (intOf ii).toNat)
    case atStart => exact ⟨0, [], rfl, Nat.zero_le _, rfl, Nat.le_refl _, rfl, (fun x hx => by cases hx), hn, below1 w1 _⟩
    case round =>
      clear hn b2 r2
      obtain ⟨p, done, rfl, hp, hp3, hdl, HG, HDS, ho, hb⟩ := hrel
      by_cases hlt : p < n
      · have hle : p + 3 ≤ n := by omega
        have hpl : p + 3 ≤ ss.length := by rw [← HN.out]; exact hle
        obtain ⟨bt, off, hav, hcs⟩ : ∃ bt off, av = some ⟨bt, off, none⟩ ∧ ∀ W, Below w1.heap.size w1 W → W.cell? ⟨bt, off + p, none⟩ = some (.string ss[p]) ∧ W.cell? ⟨bt, off + (p + 1), none⟩ = some (.string ss[p + 1]) ∧ W.cell? ⟨bt, off + (p + 2), none⟩ = some (.string ss[p + 2]) := by
          obtain ⟨av', cap', e, -, -, hA⟩ := HO1.out
          cases e
          rcases hA with h | ⟨bt, off, ha, hc⟩
          · rw [h] at hpl; simp at hpl
          · refine ⟨bt, off, ha, fun W hW => ⟨?_, ?_, ?_⟩⟩
            · rw [hW.cell (World.block_lt_of_cell? w1 _ (hc p (by omega)))]; exact hc p (by omega)
            · rw [hW.cell (World.block_lt_of_cell? w1 _ (hc (p + 1) (by omega)))]; exact hc (p + 1) (by omega)
            · rw [hW.cell (World.block_lt_of_cell? w1 _ (hc (p + 2) (by omega)))]; exact hc (p + 2) (by omega)
        have HGN : Hid (grp ss = (done ++ [⟨ss[p], ss[p + 1], ss[p + 2].toList == [49]⟩]) ++ grp (ss.drop (p + 3))) := by
          unfold Hid
          rw [HG.out, grp_at hpl, List.append_assoc]
          rfl
        have hsa := HSZ.out ss[p] (List.getElem_mem _)
        have hsb := HSZ.out ss[p + 1] (List.getElem_mem _)
        generalize ss[p] = ta at hcs HGN hsa
        generalize ss[p + 1] = tb at hcs HGN hsb
        generalize ss[p + 2] = tg at hcs HGN
        obtain ⟨gg, hgg⟩ : ∃ gg, gg = (tg.toList == [49]) := ⟨_, rfl⟩
        rw [← hgg] at HGN
        have HDN : Hid (∀ x ∈ done ++ [⟨ta, tb, gg⟩], x.key.size ≤ 3000 ∧ x.val.size ≤ 3000) := fun x hx => by
          rcases List.mem_append.1 hx with h | h
          · exact HDS.out x h
          · rw [List.mem_singleton.1 h]; exact ⟨hsa, hsb⟩
        have HGG : Hid ((tg.toList == [49]) = gg) := hgg.symm
        obtain ⟨p1, hp1⟩ : ∃ p1, p1 = p + 1 := ⟨_, rfl⟩
        obtain ⟨p2, hp2⟩ : ∃ p2, p2 = p + 2 := ⟨_, rfl⟩
        rw [← hp1, ← hp2] at hcs
        have HCS : Hid (∀ W, Below w1.heap.size w1 W → W.cell? ⟨bt, off + p, none⟩ = some (.string ta) ∧ W.cell? ⟨bt, off + p1, none⟩ = some (.string tb) ∧ W.cell? ⟨bt, off + p2, none⟩ = some (.string tg)) := hcs
        obtain ⟨e0, e1, e2⟩ := hcs _ hb
        have i1 : (p : Int) + 1 = (p1 : Int) := by omega
        have i2 : (p : Int) + 2 = (p2 : Int) := by omega
        have w1' : IntKind.i64.wrap (p1 : Int) = (p1 : Int) := by rw [IntKind.wrap_i64]; omega
        have w2' : IntKind.i64.wrap (p2 : Int) = (p2 : Int) := by rw [IntKind.wrap_i64]; omega
        have l1 : p1 < n := by omega
        have l2 : p2 < n := by omega
        have j0 : (0 : Int) ≤ (p : Int) := by omega
        have j1 : (0 : Int) ≤ (p1 : Int) := by omega
        have j2 : (0 : Int) ≤ (p2 : Int) := by omega
        subst hav
        clear hpl HG hgg hp1 hp2 HDS hsa hsb hcs
        go_wp2_with fail
        refine wp_region_noPanic ?_
        refine wp_region_held_drew (S := fun W => W.cell? ⟨bt, off + p, none⟩ = some (.string ta) ∧ W.cell? ⟨bt, off + p1, none⟩ = some (.string tb) ∧ W.cell? ⟨bt, off + p2, none⟩ = some (.string tg)) (by kernel_rfl) ⟨e0, e1, e2⟩ (fun hH => ?_)
        have qo : OwnW wr.drew _ _ done := ho.drewN 1
        have qb := hb.drew
        clear ho hb e0 e1 e2
        revert hH qo qb
        generalize wr.drew = W0
        intro hH qo qb
        refine tkG 0 30 hH ?_
        try simp only [Act.put, List.setIfInBounds_toArray, List.set_cons_zero, List.set_cons_succ]
        refine tkG 1 31 hH ?_
        try simp only [Act.put, List.setIfInBounds_toArray, List.set_cons_zero, List.set_cons_succ]
        refine tkG 2 32 hH ?_
        try simp only [Act.put, List.setIfInBounds_toArray, List.set_cons_zero, List.set_cons_succ]
        refine tkG 3 33 hH ?_
        try simp only [Act.put, List.setIfInBounds_toArray, List.set_cons_zero, List.set_cons_succ]
        refine tkG 4 34 hH ?_
        try simp only [Act.put, List.setIfInBounds_toArray, List.set_cons_zero, List.set_cons_succ]
        refine tkG 5 35 hH ?_
        try simp only [Act.put, List.setIfInBounds_toArray, List.set_cons_zero, List.set_cons_succ]
        refine tkG 6 36 hH ?_
        try simp only [Act.put, List.setIfInBounds_toArray, List.set_cons_zero, List.set_cons_succ]
        refine tkG 7 37 hH ?_
        try simp only [Act.put, List.setIfInBounds_toArray, List.set_cons_zero, List.set_cons_succ]
        refine tkG 8 38 hH ?_
        try simp only [Act.put, List.setIfInBounds_toArray, List.set_cons_zero, List.set_cons_succ]
        refine tkG 9 39 hH ?_
        try simp only [Act.put, List.setIfInBounds_toArray, List.set_cons_zero, List.set_cons_succ]
        refine tkG 10 40 hH ?_
        try simp only [Act.put, List.setIfInBounds_toArray, List.set_cons_zero, List.set_cons_succ]
        refine tkG 11 41 hH ?_
        try simp only [Act.put, List.setIfInBounds_toArray, List.set_cons_zero, List.set_cons_succ]
        refine tkG 12 42 hH ?_
        try simp only [Act.put, List.setIfInBounds_toArray, List.set_cons_zero, List.set_cons_succ]
        refine tkG 13 43 hH ?_
        try simp only [Act.put, List.setIfInBounds_toArray, List.set_cons_zero, List.set_cons_succ]
        refine tkG 14 44 hH ?_
        try simp only [Act.put, List.setIfInBounds_toArray, List.set_cons_zero, List.set_cons_succ]
        refine tkG 15 45 hH ?_
        try simp only [Act.put, List.setIfInBounds_toArray, List.set_cons_zero, List.set_cons_succ]
        rw [HGG.out]
        refine tkG 16 46 hH ?_
        try simp only [Act.put, List.setIfInBounds_toArray, List.set_cons_zero, List.set_cons_succ]
        have bz := below1 W0 (.cells #[.string ta, .string tb, .bool gg] 37)
        have hx4 := wriAt_new W0 ⟨ta, tb, gg⟩ 37
        have o4 := qo.below bz
        have b4 := qb.trans (bz.mono qb.size)
        have s4 := b4.size
        have f0 : (W0.alloc (.cells #[.string ta, .string tb, .bool gg] 37)).cell? ⟨bt, off + p, none⟩ = some (.string ta) := by rw [bz.cell (World.block_lt_of_cell? W0 _ hH.1)]; exact hH.1
        have f1 : (W0.alloc (.cells #[.string ta, .string tb, .bool gg] 37)).cell? ⟨bt, off + p1, none⟩ = some (.string tb) := by rw [bz.cell (World.block_lt_of_cell? W0 _ hH.2.1)]; exact hH.2.1
        have f2 : (W0.alloc (.cells #[.string ta, .string tb, .bool gg] 37)).cell? ⟨bt, off + p2, none⟩ = some (.string tg) := by rw [bz.cell (World.block_lt_of_cell? W0 _ hH.2.2)]; exact hH.2.2
        clear bz qo qb
        refine wpAnyH_ready (rs := [17]) (by kernel_rfl) (by simp) ?_
        refine AllReadyH.cons rfl (fun K hK => ?_) AllReadyH.nil
        go_simp
        refine hK.out _ _ ⟨f0, f1, f2⟩ (fun hA => ?_)
        clear hK K
        try simp only [Act.put, List.setIfInBounds_toArray, List.set_cons_zero, List.set_cons_succ]
        clear hH f0 f1 f2
        generalize W0.alloc (.cells #[.string ta, .string tb, .bool gg] 37) = W3 at hx4 o4 b4 s4 hA ⊢
        refine wpAnyH_ready (rs := [18]) (by kernel_rfl) (by simp) ?_
        refine AllReadyH.cons rfl (fun K hK => ?_) AllReadyH.nil
        refine step_append_wris rfl 48 rfl _ _ rfl w1.heap.size _ _ done [⟨ta, tb, gg⟩] rfl rfl o4 (rdW_one hx4) (by simp; omega) s4 ?_
        intro v6 w6 ho6 hg6
        have b6 : Below w1.heap.size w1 w6 := b4.grown hg6 s4 (fun k hk => (World.ownsRow.lt o4 k hk).1)
        refine hK.out _ _ (HCS.out _ b6) (fun hB => ?_)
        clear hK K
        try simp only [Act.put, List.setIfInBounds_toArray, List.set_cons_zero, List.set_cons_succ]
        refine tkG 19 6 hB ?_
        try simp only [Act.put, List.setIfInBounds_toArray, List.set_cons_zero, List.set_cons_succ]
        refine wpAnyH_done (by kernel_rfl) ?_ _
        refine NoPanic.normal ?_
        clear hA hB hx4 o4 b4 s4 hg6 HCS
        have hd3 : (done ++ [(⟨ta, tb, gg⟩ : Wri)]).length ≤ p + 3 := by simp; omega
        have i3 : (p : Int) + 3 ≤ 203 := by omega
        clear i1 i2 w1' w2' j1 j2
        go_wp2
        go_roundw
        case rel => exact ⟨p + 3, _, by go_num, hle, by omega, hd3, HGN, HDN, ho6, b6⟩
        case measure => simp [intOf]; omega
      · have hpe : p = n := by omega
        have HE : Hid (grp ss = done) := by unfold Hid; rw [HG.out, grp_end (by rw [← HN.out]; omega), List.append_nil]
        have HBA : Hid (∀ v W, RdW W v done → Calls Try.prog 6 #[v] W fun e w' => e = .returned (.string (batS done)) ∧ Below W.heap.size W w') := fun v W h => specBatch_any v done W h (fun x hx => ⟨by have := (HDS.out x hx).1; omega, by have := (HDS.out x hx).2; omega⟩)
        have HRB2 : Hid ((F = (done, true) ∧ batS done = s ∧ 0 < s.size) ∨ (F = ([], false) ∧ (batS done ≠ s ∨ s.size = 0))) := by
          rcases HRB with ⟨h1, _, _, h4, h5, h6⟩ | h
          · rw [HE.out] at h4
            refine .inl ⟨?_, by rw [h4]; exact h5, h6⟩
            obtain ⟨f, fb⟩ := F
            obtain rfl : fb = true := h1
            obtain rfl : done = f := h4
            rfl
          · rw [HE.out] at h
            exact .inr h
        clear HG HDS hpe HRB HE HO1
        go_wp2_with fail
        refine (HBA.out _ _ ho.rd).mono ?_
        generalize batS done = t at HRB2
        rintro e w3 ⟨rfl, hb3⟩
        have b3 := hb.trans (hb3.mono hb.size)
        have ho3 := ho.below hb3
        have bw := (show Below w.heap.size w w1 from HBW.out).trans (b3.mono s1)
        clear hb3 hb ho HBA
        rcases HRB2.out with ⟨hF, rfl, hz⟩ | ⟨hF, hz⟩
        · have hem := emp_no hz
          have hbn := bne_no t
          have HF : Hid (F = (done, true)) := hF
          clear hF hz HRB2
          go_wp2
          go_ret2
          exact batPost_yes HF.out ho3 s1 bw
        · have HF : Hid (F = ([], false)) := hF
          have hn := ownW_none w3
          have b4 := bw.alloc bw.size (.cells #[] 37)
          have s3 := bw.size
          clear hF HRB2
          by_cases hts : t = s
          · subst hts
            have hbn := bne_no t
            have hem := emp_yes (by rcases hz with h | h; exact absurd rfl h; exact h)
            clear hz
            go_wp2
            go_ret2
            exact batPost_no HF.out hn s3 b4
          · have hbn := bne_yes hts
            clear hz
            go_wp2
            go_ret2
            exact batPost_no HF.out hn s3 b4
  · have HF : Hid (F = ([], false)) := by
      rcases HRB with ⟨_, h2, h3, _⟩ | ⟨h, _⟩
      · exact absurd ⟨h2, h3⟩ hgo
      · exact h
    have s2 := hn.mono s1
    clear HRB HSM
    cases ok with
    | false =>
      clear hgo
      go_wp2
      go_ret2
      exact batPost_no HF.out s2 (Nat.le_refl _) b2
    | true =>
      obtain ⟨n, hn0⟩ : ∃ n, n = ss.length := ⟨_, rfl⟩
      have h3 : n % 3 ≠ 0 := fun e => hgo ⟨rfl, by rw [← hn0]; exact e⟩
      rw [← hn0] at hlc ⊢
      have hq3 : (((n : Int) % 3) != 0) = true := by simp; omega
      clear hn0 hgo r2 HO1 h3
      go_wp2
      go_ret2
      exact batPost_no HF.out s2 (Nat.le_refl _) b2
end Go.Proofs.Ythkckgjcecommaa
