/- The contracts of both ReadBatches over any text. The walk of laws.FnRecords, of what the draw of a batch leaves. Plain facts on rows of numbers that a call owns or reads. -/
import Derived.Test.YtpbbahpndgigjaaGreatDoorG16
import Derived.Deep.DeepCutAuto
import Derived.BigQuiet
-- UNF Gen
namespace Go.Proofs.YtpbbahpndgigjaaGreatDoor
set_option maxHeartbeats 16000000
set_option maxRecDepth 100000
open Go.RowKit
theorem fin_small3 (bs : List UInt8) (ss : List ByteArray) (ok : Bool) (h : fin bs (rdAll bs) = (ss, ok)) : ss.length ≤ 200 ∧ ∀ s ∈ ss, s.size ≤ 3000 := by
  cases ok with
  | false =>
    have := fin_no bs ss h
    subst this
    exact ⟨Nat.zero_le _, fun s hs => by cases hs⟩
  | true =>
    have e := fin_back bs ss h
    refine Decidable.byContradiction fun hn => ?_
    have e2 : textsOf ss = [] := by
      unfold textsOf
      rw [if_neg hn]
    rw [e2] at e
    subst e
    rw [show fin [] (rdAll []) = ([], false) by rfl] at h
    cases h
def BatPost (w : World) (F : List Wri × Bool) (e : Ending) (w' : World) : Prop := ∃ u, e = .returned (.tuple #[u, .bool F.2]) ∧ OwnW w' w.heap.size u F.1 ∧ Below w.heap.size w w'
theorem batPost_no {w wr : World} {B : Nat} {F : List Wri × Bool} {u : Value} (h : F = ([], false)) (ho : OwnW wr B u []) (hB : w.heap.size ≤ B) (hb : Below w.heap.size w wr) : BatPost w F (.returned (.tuple #[u, .bool false])) wr := by
  subst h
  exact ⟨u, rfl, ho.mono hB, hb⟩
theorem batPost_yes {w wr : World} {B : Nat} {F : List Wri × Bool} {u : Value} {xs : List Wri} (h : F = (xs, true)) (ho : OwnW wr B u xs) (hB : w.heap.size ≤ B) (hb : Below w.heap.size w wr) : BatPost w F (.returned (.tuple #[u, .bool true])) wr := by
  subst h
  exact ⟨u, rfl, ho.mono hB, hb⟩
theorem emp_yes {s : ByteArray} (h : s.size = 0) : s.toList.isEmpty = true := by
  rw [bToList, List.isEmpty_iff]
  exact List.length_eq_zero_iff.1 (by rw [size_length]; exact h)
theorem emp_no {s : ByteArray} (h : 0 < s.size) : s.toList.isEmpty = false := by
  rw [bToList, List.isEmpty_eq_false_iff]
  intro e
  have := size_length s
  rw [e] at this
  simp at this
  omega
theorem wrs_small : ∀ (n : Nat) (ss : List ByteArray) (xs : List Wri), ss.length ≤ n → (∀ s ∈ ss, s.size ≤ 3000) → wrs ss = some xs → xs.length ≤ ss.length ∧ ∀ x ∈ xs, x.key.size ≤ 3000 ∧ x.val.size ≤ 3000 := by
  intro n ss xs hl hs h
  have e := wrs_back n ss xs hl h
  subst e
  refine ⟨by rw [batTx_len]; omega, fun x hx => ⟨hs _ ?_, hs _ ?_⟩⟩
  · exact List.mem_flatMap.2 ⟨x, hx, by simp [trio]⟩
  · exact List.mem_flatMap.2 ⟨x, hx, by simp [trio]⟩
theorem implReadBatch_any (s : ByteArray) (F : List Wri × Bool) (w : World) (hs : s.size ≤ 1048576) (hF : RB s F) :
    Calls Tryz.prog 11 #[.string s] w fun e w' => BatPost w F e w' := by
  have hcv := conv_bytes w s
  have hrd := bytes_rd w s (by unfold maxLen; omega)
  have hbl := bytes_below w s
  generalize Lib.bytesWorld w 5 s = W at hcv hrd hbl
  generalize grownCap w s.size 0 5 = c0 at hcv hrd
  obtain ⟨ss, ok, hf⟩ : ∃ ss ok, fin s.data.toList (rdAll s.data.toList) = (ss, ok) := ⟨_, _, rfl⟩
  have HR : Hid (∀ v W, Rd W v s.data.toList → Calls Tryz.prog 31 #[v] W fun e w' => TextsPost W (ss, ok) e w') := fun v W h => by
    have := implReadTexts_any v _ W h
    rw [hf] at this
    exact this
  have hsm := fin_small3 _ _ _ hf
  have HRB := rb_impl hF hf
  obtain ⟨xs, hxs⟩ : ∃ xs, xs = (wrs ss).getD [] := ⟨_, rfl⟩
  have hx2 : xs.length ≤ 200 ∧ ∀ x ∈ xs, x.key.size ≤ 3000 ∧ x.val.size ≤ 3000 := by
    rw [hxs]
    cases hw : wrs ss with
    | none => exact ⟨Nat.zero_le _, fun x hx => by cases hx⟩
    | some l =>
      have := wrs_small _ ss l (Nat.le_refl _) hsm.2 hw
      exact ⟨by show l.length ≤ 200; omega, this.2⟩
  rw [← hxs] at HRB
  have HWS : Hid (∀ v W, RdS W v ss → Calls Tryz.prog 32 #[v] W fun e w' => ∃ u, e = .returned u ∧ OwnW w' W.heap.size u xs ∧ Below W.heap.size W w') := fun v W h => by rw [hxs]; exact writesOf_any v ss W h hsm.1
  have HBA : Hid (∀ v W, RdW W v xs → Calls Tryz.prog 9 #[v] W fun e w' => e = .returned (.string (batS xs)) ∧ Below W.heap.size W w') := fun v W h => implBatch_any v xs W h (fun x hx => ⟨by have := (hx2.2 x hx).1; omega, by have := (hx2.2 x hx).2; omega⟩)
  clear hf hsm hx2 hxs hF
  go_enter Tryz.func11, Tryz.ntmps11
  go_wp2_with fail
  refine (HR.out _ _ hrd).mono ?_
  rintro e w1 ⟨v1, rfl, ho1, hb1⟩
  have b1 := hbl.trans (hb1.mono hbl.size)
  clear hcv hrd hbl hb1 HR
  go_wp2_with fail
  refine (HWS.out _ _ ho1.rd).mono ?_
  rintro e w2 ⟨v2, rfl, ho2, hb2⟩
  have b2 := b1.trans (hb2.mono b1.size)
  have s1 := b1.size
  clear hb2 b1 HWS ho1
  go_wp2_with fail
  refine (HBA.out _ _ ho2.rd).mono ?_
  generalize batS xs = t at HRB
  rintro e w3 ⟨rfl, hb3⟩
  have b3 := b2.trans (hb3.mono b2.size)
  have ho3 := ho2.below hb3
  clear hb3 b2 ho2 HBA
  rcases HRB with ⟨hF, hz⟩ | ⟨hF, hz⟩
  · have hem := emp_no hz
    have HF : Hid (F = (xs, true)) := hF
    clear hF hz
    go_wp2
    go_ret2
    exact batPost_yes HF.out ho3 s1 b3
  · have hem := emp_yes hz
    have HF : Hid (F = ([], false)) := hF
    have hn := ownW_none w3
    have b4 := b3.alloc b3.size (.cells #[] 54)
    have s3 := b3.size
    clear hF hz
    go_wp2
    go_ret2
    exact batPost_no HF.out hn s3 b4
theorem bne_no (t : ByteArray) : (!t.toList == t.toList) = false := by simp
theorem bne_yes {t s : ByteArray} (h : t ≠ s) : (!t.toList == s.toList) = true := by
  simp only [Bool.not_eq_true', beq_eq_false_iff_ne]
  rw [bToList, bToList]
  exact fun e => h (baB_ext e)
theorem specReadBatch_any (s : ByteArray) (F : List Wri × Bool) (w : World) (hs : s.size ≤ 1048576) (hF : RB s F) :
    Calls Tryz.prog 17 #[.string s] w fun e w' => BatPost w F e w' := by
  have hcv := conv_bytes w s
  have hrd := bytes_rd w s (by unfold maxLen; omega)
  have hbl := bytes_below w s
  generalize Lib.bytesWorld w 5 s = W at hcv hrd hbl
  generalize grownCap w s.size 0 5 = c0 at hcv hrd
  obtain ⟨ss, ok, hf⟩ : ∃ ss ok, fin s.data.toList (rdAll s.data.toList) = (ss, ok) := ⟨_, _, rfl⟩
  have HR : Hid (∀ v W, Rd W v s.data.toList → Calls Tryz.prog 41 #[v] W fun e w' => TextsPost W (ss, ok) e w') := fun v W h => by
    have := specReadTexts_any v _ W h
    rw [hf] at this
    exact this
  have hsm := fin_small3 _ _ _ hf
  have HRB := rb_spec hF hf
  have HSM : Hid (ss.length ≤ 200 ∧ ∀ s ∈ ss, s.size ≤ 3000) := hsm
  clear hf hsm hF
  go_enter Tryz.func17, Tryz.ntmps17
  go_wp2_with fail
  refine (HR.out _ _ hrd).mono ?_
  rintro e w1 ⟨v1, rfl, ho1, hb1⟩
  have b1 := hbl.trans (hb1.mono hbl.size)
  have s1 := b1.size
  have HBW : Hid (Below w.heap.size w w1) := b1
  have hn := ownW_none w1
  have b2 := b1.alloc s1 (.cells #[] 54)
  have HO1 : Hid (RdS w1 v1 ss) := ho1.rd
  obtain ⟨av, cap, hv1, hlc, hcm, -⟩ := ho1.rd
  unfold maxLen at hcm
  subst hv1
  have r2 := ho1.below (below1 w1 (.cells #[] 54))
  clear hcv hrd hbl hb1 HR b1 ho1
  by_cases hgo : ok = true ∧ ss.length % 3 = 0
  · obtain ⟨rfl, h3⟩ := hgo
    obtain ⟨n, hn0⟩ : ∃ n, n = ss.length := ⟨_, rfl⟩
    have HN : Hid (n = ss.length) := hn0
    have hlen : n ≤ 200 := by have := HSM.out.1; omega
    have HSZ : Hid (∀ s ∈ ss, s.size ≤ 3000) := HSM.out.2
    rw [← hn0] at hlc h3 ⊢
    have h3i : (n : Int).tmod 3 = 0 := by rw [Int.tmod_eq_emod_of_nonneg (by omega)]; omega
    have h3e : (n : Int) % 3 = 0 := by omega
    have hq3 : (((n : Int) % 3) != 0) = false := by rw [h3e]; rfl
    clear hn0 HSM
    go_wp2
    go_loopw [6, 7] (fun oo ii wr => ∃ (p : Nat) (done : List Wri), ii = .int .i64 p ∧ p ≤ n ∧ p % 3 = 0 ∧ done.length ≤ p ∧ Hid (grp ss = done ++ grp (ss.drop p)) ∧ Hid (∀ x ∈ done, x.key.size ≤ 3000 ∧ x.val.size ≤ 3000) ∧ OwnW wr w1.heap.size oo done ∧ Below w1.heap.size w1 wr) (fun _ ii _ => n - (intOf ii).toNat)
    case atStart => exact ⟨0, [], rfl, Nat.zero_le _, rfl, Nat.le_refl _, rfl, (fun x hx => by cases hx), hn, below1 w1 _⟩
    case round =>
      clear hn b2 r2
      obtain ⟨p, done, rfl, hp, hp3, hdl, HG, HDS, ho, hb⟩ := hrel
      by_cases hlt : p < n
      · have hle : p + 3 ≤ n := by omega
        have hpl : p + 3 ≤ ss.length := by rw [← HN.out]; exact hle
        obtain ⟨bt, off, hav, hcs⟩ : ∃ bt off, av = some ⟨bt, off, none⟩ ∧ ∀ W, Below w1.heap.size w1 W → W.cell? ⟨bt, off + p, none⟩ = some (.string ss[p]) ∧ W.cell? ⟨bt, off + (p + 1), none⟩ = some (.string ss[p + 1]) ∧ W.cell? ⟨bt, off + (p + 2), none⟩ = some (.string ss[p + 2]) := by
          obtain ⟨av', cap', e, -, -, hA⟩ := HO1.out
          cases e
          rcases hA with h | ⟨bt, off, ha, hc⟩
          · rw [h] at hpl; simp at hpl
          · refine ⟨bt, off, ha, fun W hW => ⟨?_, ?_, ?_⟩⟩
            · rw [hW.cell (World.block_lt_of_cell? w1 _ (hc p (by omega)))]; exact hc p (by omega)
            · rw [hW.cell (World.block_lt_of_cell? w1 _ (hc (p + 1) (by omega)))]; exact hc (p + 1) (by omega)
            · rw [hW.cell (World.block_lt_of_cell? w1 _ (hc (p + 2) (by omega)))]; exact hc (p + 2) (by omega)
        have HGN : Hid (grp ss = (done ++ [⟨ss[p], ss[p + 1], ss[p + 2].toList == [49]⟩]) ++ grp (ss.drop (p + 3))) := by
          unfold Hid
          rw [HG.out, grp_at hpl, List.append_assoc]
          rfl
        have hsa := HSZ.out ss[p] (List.getElem_mem _)
        have hsb := HSZ.out ss[p + 1] (List.getElem_mem _)
        generalize ss[p] = ta at hcs HGN hsa
        generalize ss[p + 1] = tb at hcs HGN hsb
        generalize ss[p + 2] = tg at hcs HGN
        obtain ⟨gg, hgg⟩ : ∃ gg, gg = (tg.toList == [49]) := ⟨_, rfl⟩
        rw [← hgg] at HGN
        have HDN : Hid (∀ x ∈ done ++ [⟨ta, tb, gg⟩], x.key.size ≤ 3000 ∧ x.val.size ≤ 3000) := fun x hx => by
          rcases List.mem_append.1 hx with h | h
          · exact HDS.out x h
          · rw [List.mem_singleton.1 h]; exact ⟨hsa, hsb⟩
        have HGG : Hid ((tg.toList == [49]) = gg) := hgg.symm
        obtain ⟨p1, hp1⟩ : ∃ p1, p1 = p + 1 := ⟨_, rfl⟩
        obtain ⟨p2, hp2⟩ : ∃ p2, p2 = p + 2 := ⟨_, rfl⟩
        rw [← hp1, ← hp2] at hcs
        have HCS : Hid (∀ W, Below w1.heap.size w1 W → W.cell? ⟨bt, off + p, none⟩ = some (.string ta) ∧ W.cell? ⟨bt, off + p1, none⟩ = some (.string tb) ∧ W.cell? ⟨bt, off + p2, none⟩ = some (.string tg)) := hcs
        obtain ⟨e0, e1, e2⟩ := hcs _ hb
        have i1 : (p : Int) + 1 = (p1 : Int) := by omega
        have i2 : (p : Int) + 2 = (p2 : Int) := by omega
        have w1' : IntKind.i64.wrap (p1 : Int) = (p1 : Int) := by rw [IntKind.wrap_i64]; omega
        have w2' : IntKind.i64.wrap (p2 : Int) = (p2 : Int) := by rw [IntKind.wrap_i64]; omega
        have l1 : p1 < n := by omega
        have l2 : p2 < n := by omega
        have j0 : (0 : Int) ≤ (p : Int) := by omega
        have j1 : (0 : Int) ≤ (p1 : Int) := by omega
        have j2 : (0 : Int) ≤ (p2 : Int) := by omega
        subst hav
        clear hpl HG hgg hp1 hp2 HDS hsa hsb hcs
        go_wp2_with fail
        refine wp_region_noPanic ?_
        refine wp_region_held_drew (S := fun W => W.cell? ⟨bt, off + p, none⟩ = some (.string ta) ∧ W.cell? ⟨bt, off + p1, none⟩ = some (.string tb) ∧ W.cell? ⟨bt, off + p2, none⟩ = some (.string tg)) (by kernel_rfl) ⟨e0, e1, e2⟩ (fun hH => ?_)
        have qo : OwnW wr.drew _ _ done := ho.drewN 1
        have qb := hb.drew
        clear ho hb e0 e1 e2
        revert hH qo qb
        generalize wr.drew = W0
        intro hH qo qb
        refine tkG 0 30 hH ?_; try simp only [Act.put, sA, sZ, sS]
        refine tkG 1 31 hH ?_; try simp only [Act.put, sA, sZ, sS]
        refine tkG 2 32 hH ?_; try simp only [Act.put, sA, sZ, sS]
        refine tkG 3 33 hH ?_; try simp only [Act.put, sA, sZ, sS]
        refine tkG 4 34 hH ?_; try simp only [Act.put, sA, sZ, sS]
        refine tkG 5 35 hH ?_; try simp only [Act.put, sA, sZ, sS]
        refine tkG 6 36 hH ?_; try simp only [Act.put, sA, sZ, sS]
        refine tkG 7 37 hH ?_; try simp only [Act.put, sA, sZ, sS]
        refine tkG 8 38 hH ?_; try simp only [Act.put, sA, sZ, sS]
        refine tkG 9 39 hH ?_; try simp only [Act.put, sA, sZ, sS]
        refine tkG 10 40 hH ?_; try simp only [Act.put, sA, sZ, sS]
        refine tkG 11 41 hH ?_; try simp only [Act.put, sA, sZ, sS]
        refine tkG 12 42 hH ?_; try simp only [Act.put, sA, sZ, sS]
        refine tkG 13 43 hH ?_; try simp only [Act.put, sA, sZ, sS]
        refine tkG 14 44 hH ?_; try simp only [Act.put, sA, sZ, sS]
        refine tkG 15 45 hH ?_; try simp only [Act.put, sA, sZ, sS]
        rw [HGG.out]
        refine tkG 16 46 hH ?_; try simp only [Act.put, sA, sZ, sS]
        have bz := below1 W0 (.cells #[.string ta, .string tb, .bool gg] 54)
        have hx4 := wriAt_new W0 ⟨ta, tb, gg⟩ 54
        have o4 := qo.below bz
        have b4 := qb.trans (bz.mono qb.size)
        have s4 := b4.size
        have f0 : (W0.alloc (.cells #[.string ta, .string tb, .bool gg] 54)).cell? ⟨bt, off + p, none⟩ = some (.string ta) := by rw [bz.cell (World.block_lt_of_cell? W0 _ hH.1)]; exact hH.1
        have f1 : (W0.alloc (.cells #[.string ta, .string tb, .bool gg] 54)).cell? ⟨bt, off + p1, none⟩ = some (.string tb) := by rw [bz.cell (World.block_lt_of_cell? W0 _ hH.2.1)]; exact hH.2.1
        have f2 : (W0.alloc (.cells #[.string ta, .string tb, .bool gg] 54)).cell? ⟨bt, off + p2, none⟩ = some (.string tg) := by rw [bz.cell (World.block_lt_of_cell? W0 _ hH.2.2)]; exact hH.2.2
        clear bz qo qb
        refine wpAnyH_ready (rs := [17]) (by kernel_rfl) (by simp) ?_
        refine AllReadyH.cons rfl (fun K hK => ?_) AllReadyH.nil
        go_simp
        refine hK.out _ _ ⟨f0, f1, f2⟩ (fun hA => ?_)
        clear hK K
        try simp only [Act.put, sA, sZ, sS]
        clear hH f0 f1 f2
        generalize W0.alloc (.cells #[.string ta, .string tb, .bool gg] 54) = W3 at hx4 o4 b4 s4 hA ⊢
        refine wpAnyH_ready (rs := [18]) (by kernel_rfl) (by simp) ?_
        refine AllReadyH.cons rfl (fun K hK => ?_) AllReadyH.nil
        refine step_append_wris rfl 48 rfl _ _ rfl w1.heap.size _ _ done [⟨ta, tb, gg⟩] rfl rfl o4 (rdW_one hx4) (by simp; omega) s4 ?_
        intro v6 w6 ho6 hg6
        have b6 : Below w1.heap.size w1 w6 := b4.grown hg6 s4 (fun k hk => (World.ownsRow.lt o4 k hk).1)
        refine hK.out _ _ (HCS.out _ b6) (fun hB => ?_)
        clear hK K
        try simp only [Act.put, sA, sZ, sS]
        refine tkG 19 6 hB ?_; try simp only [Act.put, sA, sZ, sS]
        refine wpAnyH_done (by kernel_rfl) ?_ _
        refine NoPanic.normal ?_
        clear hA hB hx4 o4 b4 s4 hg6 HCS
        have hd3 : (done ++ [(⟨ta, tb, gg⟩ : Wri)]).length ≤ p + 3 := by simp; omega
        have i3 : (p : Int) + 3 ≤ 203 := by omega
        clear i1 i2 w1' w2' j1 j2
        go_wp2
        go_roundw
        case rel => exact ⟨p + 3, _, by go_num, hle, by omega, hd3, HGN, HDN, ho6, b6⟩
        case measure => simp [intOf]; omega
      · have hpe : p = n := by omega
        have HE : Hid (grp ss = done) := by unfold Hid; rw [HG.out, grp_end (by rw [← HN.out]; omega), List.append_nil]
        have HBA : Hid (∀ v W, RdW W v done → Calls Tryz.prog 16 #[v] W fun e w' => e = .returned (.string (batS done)) ∧ Below W.heap.size W w') := fun v W h => specBatch_any v done W h (fun x hx => ⟨by have := (HDS.out x hx).1; omega, by have := (HDS.out x hx).2; omega⟩)
        have HRB2 : Hid ((F = (done, true) ∧ batS done = s ∧ 0 < s.size) ∨ (F = ([], false) ∧ (batS done ≠ s ∨ s.size = 0))) := by
          rcases HRB with ⟨h1, _, _, h4, h5, h6⟩ | h
          · rw [HE.out] at h4
            refine .inl ⟨?_, by rw [h4]; exact h5, h6⟩
            obtain ⟨f, fb⟩ := F
            obtain rfl : fb = true := h1
            obtain rfl : done = f := h4
            rfl
          · rw [HE.out] at h
            exact .inr h
        clear HG HDS hpe HRB HE HO1
        go_wp2_with fail
        refine (HBA.out _ _ ho.rd).mono ?_
        generalize batS done = t at HRB2
        rintro e w3 ⟨rfl, hb3⟩
        have b3 := hb.trans (hb3.mono hb.size)
        have ho3 := ho.below hb3
        have bw := (show Below w.heap.size w w1 from HBW.out).trans (b3.mono s1)
        clear hb3 hb ho HBA
        rcases HRB2.out with ⟨hF, rfl, hz⟩ | ⟨hF, hz⟩
        · have hem := emp_no hz
          have hbn := bne_no t
          have HF : Hid (F = (done, true)) := hF
          clear hF hz HRB2
          go_wp2
          go_ret2
          exact batPost_yes HF.out ho3 s1 bw
        · have HF : Hid (F = ([], false)) := hF
          have hn := ownW_none w3
          have b4 := bw.alloc bw.size (.cells #[] 54)
          have s3 := bw.size
          clear hF HRB2
          by_cases hts : t = s
          · subst hts
            have hbn := bne_no t
            have hem := emp_yes (by rcases hz with h | h; exact absurd rfl h; exact h)
            clear hz
            go_wp2
            go_ret2
            exact batPost_no HF.out hn s3 b4
          · have hbn := bne_yes hts
            clear hz
            go_wp2
            go_ret2
            exact batPost_no HF.out hn s3 b4
  · have HF : Hid (F = ([], false)) := by
      rcases HRB with ⟨_, h2, h3, _⟩ | ⟨h, _⟩
      · exact absurd ⟨h2, h3⟩ hgo
      · exact h
    have s2 := hn.mono s1
    clear HRB HSM
    cases ok with
    | false =>
      clear hgo
      go_wp2
      go_ret2
      exact batPost_no HF.out s2 (Nat.le_refl _) b2
    | true =>
      obtain ⟨n, hn0⟩ : ∃ n, n = ss.length := ⟨_, rfl⟩
      have h3 : n % 3 ≠ 0 := fun e => hgo ⟨rfl, by rw [← hn0]; exact e⟩
      rw [← hn0] at hlc ⊢
      have hq3 : (((n : Int) % 3) != 0) = true := by simp; omega
      clear hn0 hgo r2 HO1 h3
      go_wp2
      go_ret2
      exact batPost_no HF.out s2 (Nat.le_refl _) b2
open Go.RowKit
structure QR (w W : World) (u : Value) (ts : List ByteArray) (v : Value) (xs : List Wri) : Prop where
  tx : RdS W u ts
  bt : RdW W v xs
  tab : Tab W
  bw : Below w.heap.size w W
theorem QR.on {w W W' : World} {u v : Value} {ts : List ByteArray} {xs : List Wri} (h : QR w W u ts v xs) (hb : Below W.heap.size W W') : QR w W' u ts v xs := ⟨h.tx.below hb, h.bt.below hb, h.tab.on hb, h.bw.trans (hb.mono h.bw.size)⟩
theorem below_dr {w : World} (q : Nat) : Below w.heap.size w (w.drewN q) := ⟨rfl, rfl, rfl, Nat.le_refl _, fun _ _ => rfl⟩
theorem rdS_zero (w : World) : RdS w (.slice none 0 0) [] := ⟨none, 0, rfl, Nat.le_refl _, Nat.zero_le _, .inl rfl⟩
theorem rdS_at {w : World} {a : Option Addr} {n cap : Nat} {ss : List ByteArray} (h : RdS w (.slice a n cap) ss) (i : Nat) (hi : i < ss.length) : ∃ b off, a = some ⟨b, off, none⟩ ∧ w.cell? ⟨b, off + i, none⟩ = some (.string ss[i]) := by
  obtain ⟨a', cap', hv, _, _, h3⟩ := h
  simp only [Value.slice.injEq] at hv
  obtain ⟨rfl, _, _⟩ := hv
  rcases h3 with rfl | ⟨b, off, ha, hc⟩
  · simp at hi
  · exact ⟨b, off, ha, hc i hi⟩
theorem rdS_part {w : World} {a : Option Addr} {n cap : Nat} {ts cs : List ByteArray} (h : RdS w (.slice a n cap) ts) (hc : cs <+: ts) : RdS w (.slice a cs.length cap) cs := by
  obtain ⟨a', cap', hv, h1, h2, h3⟩ := h
  simp only [Value.slice.injEq] at hv
  obtain ⟨rfl, _, rfl⟩ := hv
  have hl := hc.length_le
  refine ⟨a, cap, rfl, by omega, h2, ?_⟩
  rcases h3 with rfl | ⟨b, off, ha, hg⟩
  · left; exact List.prefix_nil.1 hc
  · right
    refine ⟨b, off, ha, fun i hi => ?_⟩
    rw [hc.getElem hi]
    exact hg i (by omega)
def joinR (ts : List ByteArray) (k : Nat) : List UInt8 := ((ts.take k).map fun t => (recS t).data.toList).flatten
theorem joinR_more {ts : List ByteArray} {k : Nat} (h : k < ts.length) : joinR ts (k + 1) = joinR ts k ++ (recS ts[k]).data.toList := by
  unfold joinR
  rw [List.take_succ_eq_append_getElem h]
  simp only [List.map_append, List.map_cons, List.map_nil, List.flatten_append, List.flatten_cons, List.flatten_nil, List.append_nil]
theorem joinR_le (ts : List ByteArray) (k : Nat) : (joinR ts k).length ≤ (joinR ts ts.length).length := by
  unfold joinR
  rw [List.take_length]
  conv => rhs; rw [← List.take_append_drop k ts]
  rw [List.map_append, List.flatten_append, List.length_append]
  omega
theorem joinR_all {d : List UInt8} {ts : List ByteArray} {n : Nat} (h : RecsP d ts n) : joinR ts ts.length = d.take n := by
  unfold joinR
  rw [List.take_length]
  exact recs_again h
theorem ext_take (d : ByteArray) (x : Nat) : (d.extract 0 x).data.toList = d.data.toList.take x := by
  rw [ByteArray.data_extract, Array.toList_extract, List.extract_eq_take_drop]
  simp
theorem lawRecW (HDB : Hid (∀ (v : Value) (bs : List UInt8) (w : World), Rd w v bs → bs.length ≤ 4096 → Calls Tryz.prog 8 #[v] w fun e w' => ∃ (u : Value) (xs : List Wri), e = .returned u ∧ RdW w' u xs ∧ xs.length ≤ 30 ∧ (∀ x ∈ xs, SmallW x) ∧ Below w.heap.size w w'))
    (v : Value) (bs : List UInt8) (w : World) (hr : Rd w v bs) (hT : Tab w) :
    Calls Tryz.prog 3 #[v] w fun e w' => e = .returned (.bool true) ∧ Below w.heap.size w w' := by
  by_cases hbig : 4096 < bs.length
  · have hb2 : decide (4096 < (bs.length : Int)) = true := by simp; omega
    go_enter Tryz.func3, Tryz.ntmps3
    go_wp2_with fail
    refine (bigR_any v bs w hr).mono ?_
    rw [hb2]
    rintro e wb ⟨rfl, hwb⟩
    obtain rfl := hwb.symm
    go_wp2
    go_ret
    exact ⟨rfl, Below.refl _ _⟩
  have hb2 : decide (4096 < (bs.length : Int)) = false := by simp; omega
  have HL : Hid (bs.length ≤ 4096) := by unfold Hid; omega
  have Q : QR w w (.slice none 0 0) [] (.slice none 0 0) [] := ⟨rdS_zero _, rdW_nil _, hT, Below.refl _ _⟩
  go_enter Tryz.func3, Tryz.ntmps3
  go_wp2_with fail
  refine (bigR_any v bs w hr).mono ?_
  rw [hb2]
  rintro e wb ⟨rfl, hwb⟩
  obtain rfl := hwb.symm
  clear hb2 hbig hT
  go_wp2_with fail
  refine (drawRecords_any v bs _ hr HL.out).mono ?_
  rintro e w1 ⟨d, rfl, hd, b⟩
  replace Q := Q.on b
  clear b
  have HD : Hid (d.size ≤ 20003) := hd
  clear hd
  go_wp2_with fail
  obtain ⟨ts, n, hts⟩ := recs_ex d.data.toList.length d.data.toList (Nat.le_refl _)
  have HTS : Hid (RecsP d.data.toList ts n) := hts
  have HN : Hid (n ≤ 20003 ∧ n ≤ d.size ∧ ts.length ≤ n) := by
    have h1 := hts.2.1
    have h2 := size_length d
    have h3 := HD.out
    exact ⟨by omega, by omega, recs_len hts⟩
  clear hts
  refine (implRecords_any d ts n _ (Nat.le_trans HD.out (by decide)) Q.tab HTS.out).mono ?_
  rintro e w2 ⟨u4, rfl, o4, b⟩
  obtain ⟨a4, c4, rfl, -⟩ := o4.rd
  replace Q : QR w w2 (.slice a4 ts.length c4) ts (.slice none 0 0) [] := ⟨o4.rd, rdW_nil _, (Q.on b).tab, (Q.on b).bw⟩
  clear b o4
  go_wp2_with fail
  refine (drawRecord_any v bs _ (hr.below Q.bw) HL.out).mono ?_
  rintro e w3 ⟨t, rfl, ht, b⟩
  have HTT : Hid (t.size ≤ 3001) := ht
  replace Q := Q.on b
  clear b ht
  go_wp2_with fail
  refine (HDB.out v bs _ (hr.below Q.bw) HL.out).mono ?_
  rintro e w4 ⟨u7, xs, rfl, h7, l7, s7, b⟩
  have HXS : Hid (∀ x ∈ xs, FitsW x) := fun x hx => ⟨Nat.le_trans (s7 x hx).1 (by decide), Nat.le_trans (s7 x hx).2 (by decide)⟩
  obtain ⟨a7, c7, rfl, -⟩ := id h7
  replace Q : QR w w4 (.slice a4 ts.length c4) ts (.slice a7 xs.length c7) xs := ⟨(Q.on b).tx, h7, (Q.on b).tab, (Q.on b).bw⟩
  clear b h7 l7 s7 HDB
  go_wp2_with fail
  obtain ⟨C, hC⟩ : ∃ C, C = batS xs := ⟨_, rfl⟩
  have HC : Hid (C = batS xs) := hC
  clear hC
  refine (implBatch_any _ xs _ Q.bt HXS.out).mono ?_
  rw [← HC.out]
  rintro e w5 ⟨rfl, b⟩
  replace Q := Q.on b
  clear b
  go_wp2_with fail
  refine (drawReadBatch_any v bs _ (hr.below Q.bw) HL.out).mono ?_
  rintro e w6 ⟨s, rfl, hs, b⟩
  have HS : Hid (s.size ≤ 1048576) := Nat.le_trans hs (by decide)
  replace Q := Q.on b
  clear b hs
  go_wp2_with fail
  obtain ⟨⟨fx, fb⟩, hF⟩ := rb_ex s
  have HF : Hid (RB s (fx, fb)) := hF
  clear hF
  refine (implReadBatch_any s _ _ HS.out HF.out).mono ?_
  rintro e w7 ⟨u10, rfl, o10, b⟩
  have r10 : RdW w7 u10 fx := o10.rd
  obtain ⟨a10, c10, rfl, -⟩ := id r10
  replace Q := Q.on b
  clear b o10
  go_wp2_with fail
  refine (specRecords_any d ts n _ (Nat.le_trans HD.out (by decide)) HTS.out).mono ?_
  rintro e w8 ⟨u12, rfl, o12, b⟩
  have r12 : RdS w8 u12 ts := o12.rd
  obtain ⟨a12, c12, rfl, -⟩ := id r12
  replace r10 := r10.below b
  replace Q := Q.on b
  clear b o12
  go_wp2_with fail
  refine (likeTextsR_same _ _ ts _ Q.tx r12).mono ?_
  rintro e w9 ⟨rfl, q, rfl⟩
  replace r10 := r10.below (below_dr q)
  replace Q := Q.on (below_dr q)
  clear r12
  generalize w8.drewN q = w9 at Q r10 ⊢
  have hnn : ((n : Int) != (n : Int)) = false := by simp
  go_wp2_with fail
  obtain ⟨R, hR⟩ : ∃ R, R = recS t := ⟨_, rfl⟩
  have HR : Hid (R = recS t) := hR
  clear hR hnn
  refine (implRecord_any t _ (Nat.le_trans HTT.out (by decide)) Q.tab).mono ?_
  rw [← HR.out]
  rintro e w10 ⟨rfl, b⟩
  replace r10 := r10.below b
  replace Q := Q.on b
  clear b
  go_wp2_with fail
  refine (specRecord_any t _ (Nat.le_trans HTT.out (by decide))).mono ?_
  rw [← HR.out]
  rintro e w11 ⟨rfl, b⟩
  replace r10 := r10.below b
  replace Q := Q.on b
  clear b
  go_wp2_with fail
  refine (specBatch_any _ xs _ Q.bt HXS.out).mono ?_
  rw [← HC.out]
  rintro e w12 ⟨rfl, b⟩
  replace r10 := r10.below b
  replace Q := Q.on b
  clear b HR
  go_wp2_with fail
  refine (specReadBatch_any s _ _ HS.out HF.out).mono ?_
  rintro e w13 ⟨u14, rfl, o14, b⟩
  have r14 : RdW w13 u14 fx := o14.rd
  obtain ⟨a14, c14, rfl, -⟩ := id r14
  replace r10 := r10.below b
  replace Q := Q.on b
  clear b o14
  have hfb : (fb != fb) = false := by cases fb <;> rfl
  go_upto_region 14 with fail
  go_cut [93] (fun t93 W => t93 = .bool false ∧ QR w W (.slice a4 ts.length c4) ts (.slice a7 xs.length c7) xs)
  case first =>
    as_aux_lemma =>
      cases fb with
      | false =>
        go_wp2_with fail
        refine (likeWris_same _ _ fx _ r10 r14).mono ?_
        rintro e w14 ⟨rfl, q2, rfl⟩
        replace Q := Q.on (below_dr q2)
        clear r10 r14
        go_wp2
        go_meet
        case rel => exact ⟨rfl, Q⟩
      | true =>
        have HB : Hid ((∀ x ∈ fx, FitsW x) ∧ batS fx = s) := by
          rcases HF.out with ⟨_, h2, h3, h4⟩ | ⟨h1, _⟩
          · refine ⟨fun x hx => ?_, by rw [batS_yes h2 h3]; exact h4⟩
            have := (rb_small HF.out).2 x hx
            exact ⟨Nat.le_trans this.1 (by decide), Nat.le_trans this.2 (by decide)⟩
          · cases h1
        go_wp2_with fail
        refine (likeWris_same _ _ fx _ r10 r14).mono ?_
        rintro e w14 ⟨rfl, q2, rfl⟩
        replace r10 := r10.below (below_dr q2)
        replace Q := Q.on (below_dr q2)
        clear r14
        generalize w13.drewN q2 = w14 at Q r10 ⊢
        go_wp2_with fail
        refine (implBatch_any _ fx _ r10 HB.out.1).mono ?_
        rw [HB.out.2]
        rintro e w15 ⟨rfl, b⟩
        replace Q := Q.on b
        clear b r10 HB
        go_wp2
        go_meet
        case rel => exact ⟨rfl, Q⟩
  case rest =>
    clear Q hfb r10 r14
    obtain ⟨rfl, Q⟩ := hcut
    go_upto_if 95 with fail
    go_cut [2] (fun t2 W => t2 = .bool false ∧ QR w W (.slice a4 ts.length c4) ts (.slice a7 xs.length c7) xs)
    case first =>
      as_aux_lemma =>
        cases hCe : C.toList.isEmpty with
        | true =>
          go_wp2
          go_meet
          case rel => exact ⟨rfl, Q⟩
        | false =>
          have HB : Hid (RB C (xs, true) ∧ C.size ≤ 1048576) := by
            have e := HC.out
            refine ⟨?_, by rw [e]; exact Nat.le_trans batS_small (by decide)⟩
            by_cases hx : batchOk xs = true ∧ xs ≠ []
            · exact .inl ⟨rfl, hx.1, hx.2, by rw [e, batS_yes hx.1 hx.2]⟩
            · rw [e, batS_no hx, toList_nil rfl] at hCe
              cases hCe
          go_wp2_with fail
          refine (implReadBatch_any C (xs, true) _ HB.out.2 HB.out.1).mono ?_
          rintro e w14 ⟨u16, rfl, o16, b⟩
          have r16 : RdW w14 u16 xs := o16.rd
          obtain ⟨a16, c16, rfl, -⟩ := id r16
          replace Q := Q.on b
          clear b o16 HB
          go_wp2_with fail
          refine (likeWris_same _ _ xs _ r16 Q.bt).mono ?_
          rintro e w15 ⟨rfl, q3, rfl⟩
          replace Q := Q.on (below_dr q3)
          clear r16
          go_wp2
          go_meet
          case rel => exact ⟨rfl, Q⟩
    case rest =>
      clear Q
      obtain ⟨rfl, Q⟩ := hcut
      as_aux_lemma =>
        go_wp2_with fail
        go_loopw [18, 19] (fun ss ii wr => ∃ (k : Nat) (S : ByteArray), ii = .int .i64 k ∧ ss = .string S ∧ k ≤ ts.length ∧ Hid (S.data.toList = joinR ts k) ∧ Hid (QR w wr (.slice a4 ts.length c4) ts (.slice a7 xs.length c7) xs)) (fun _ ii _ => ts.length - (intOf ii).toNat)
        case atStart => exact ⟨0, ⟨#[]⟩, rfl, rfl, Nat.zero_le _, rfl, Q⟩
        case round =>
          obtain ⟨k, S, rfl, rfl, hk, HSJ, HQ⟩ := hrel
          clear Q
          have hn1 : n ≤ 20003 := HN.out.1
          have hn2 : n ≤ d.size := HN.out.2.1
          have hn3 : ts.length ≤ n := HN.out.2.2
          by_cases hlt : k < ts.length
          · obtain ⟨b4, o4, rfl, hc4⟩ := rdS_at HQ.out.tx k hlt
            have HJ : Hid (joinR ts (k + 1) = joinR ts k ++ (recS ts[k]).data.toList) := joinR_more hlt
            have HX : Hid (ts[k].size ≤ 1099511627776) := Nat.le_trans (HTS.out.1 _ (List.getElem_mem hlt)) (by decide)
            have HJL : Hid ((joinR ts (k + 1)).length ≤ 20003) := by
              have h1 := joinR_le ts (k + 1)
              rw [joinR_all HTS.out, List.length_take] at h1
              unfold Hid
              omega
            generalize ts[k] = x at hc4 HJ HX
            go_wp2_with fail
            refine (specRecord_any x _ HX.out).mono ?_
            have hJ := HJ.out
            clear HJ
            generalize recS x = R2 at hJ ⊢
            rintro e w20 ⟨rfl, b⟩
            have HQ2 := HQ.out.on b
            have hj2 : (S ++ R2).data.toList = joinR ts (k + 1) := by rw [hJ, ← HSJ.out, ByteArray.data_append, Array.toList_append]
            have hsz : S.size + R2.size ≤ 20003 := by
              have h1 := HJL.out
              rw [← hj2, size_length, app_size] at h1
              exact h1
            have HJ2 : Hid ((S ++ R2).data.toList = joinR ts (k + 1)) := hj2
            clear hj2 hJ b HQ HSJ HJL hc4 HX
            go_wp2
            go_roundw
            case rel => exact ⟨k + 1, S ++ R2, by go_num, rfl, by omega, HJ2, HQ2⟩
            case measure => simp [intOf]; omega
          · have hke : k = ts.length := by omega
            subst hke
            have hSe : S = d.extract 0 n := baB_ext (by rw [HSJ.out, joinR_all HTS.out, ext_take])
            clear HSJ
            go_wp2_with fail
            refine (pickR_any v bs ((n : Int) + 1) _ (hr.below HQ.out.bw) HL.out (by omega) (by omega)).mono ?_
            rintro e w21 ⟨hw, x, rfl, hx0, hx1⟩
            obtain rfl := hw.symm
            obtain ⟨y, rfl⟩ := Int.eq_ofNat_of_zero_le hx0
            have hyn : y ≤ n := by omega
            have hyd : y ≤ d.size := by omega
            clear hx0 hx1
            obtain ⟨cs, m, hcs⟩ := recs_ex (d.extract 0 y).data.toList.length (d.extract 0 y).data.toList (Nat.le_refl _)
            have HCS : Hid (RecsP (d.extract 0 y).data.toList cs m) := hcs
            obtain ⟨hp, hmn⟩ := recs_pre cs ts d.data.toList (d.data.toList.take y) n m (List.take_prefix _ _) HTS.out (by rw [← ext_take]; exact hcs)
            have HP : Hid (cs <+: ts) := hp
            have hcl : cs.length ≤ ts.length := hp.length_le
            have HZ : Hid ((d.extract 0 y).size ≤ 1048576) := by
              unfold Hid
              rw [ByteArray.size_extract]
              omega
            clear hcs hp
            go_wp2_with fail
            refine (implRecords_any (d.extract 0 y) cs m _ HZ.out HQ.out.tab HCS.out).mono ?_
            rintro e w22 ⟨u20, rfl, o20, b⟩
            have r20 : RdS w22 u20 cs := o20.rd
            obtain ⟨a20, c20, rfl, -⟩ := id r20
            have HQ2 : Hid (QR w w22 (.slice a4 ts.length c4) ts (.slice a7 xs.length c7) xs) := HQ.out.on b
            obtain ⟨hc4, hm4⟩ : ts.length ≤ c4 ∧ c4 ≤ 2 ^ 63 - 1 := by
              obtain ⟨a', cap', hv, h1, h2, _⟩ := HQ2.out.tx
              simp only [Value.slice.injEq] at hv
              obtain ⟨_, _, rfl⟩ := hv
              exact ⟨h1, h2⟩
            have hcc : cs.length ≤ c4 := by omega
            clear b o20 HQ HCS HZ
            subst hSe
            go_wp2_with fail
            refine (likeTextsR_same _ _ cs _ r20 (rdS_part HQ2.out.tx HP.out)).mono ?_
            rintro e w23 ⟨rfl, q4, rfl⟩
            have hbel := (HQ2.out.on (below_dr q4)).bw
            clear HQ2 r20
            go_wp2
            go_ret
            exact ⟨rfl, hbel⟩
open Go.RowKit
theorem Tryz.info2 : (Tryz.prog.info? 2).map (fun i => (i.zero, i.size, i.bytes)) = some (some (.int .i64 0), 1, 8) := by kernel_rfl
def IV (ns : List Int) : List Value := ns.map (Value.int .i64)
theorem IV_length (ns : List Int) : (IV ns).length = ns.length := by simp [IV]
theorem IV_append (a b : List Int) : IV (a ++ b) = IV a ++ IV b := by simp [IV]
theorem IV_get (ns : List Int) (i : Nat) (h : i < ns.length) : (IV ns)[i]? = some (.int .i64 ns[i]) := by simp [IV, h]
theorem IV_oneCell (ns : List Int) : ∀ u ∈ IV ns, u.oneCell' = true := by
  intro u hu
  obtain ⟨_, _, rfl⟩ := List.mem_map.1 hu
  rfl
def OwnI (w : World) (base : Nat) (v : Value) (ns : List Int) : Prop := w.ownsRow base 2 1 v ns.length (IV ns)
def RdI (w : World) (v : Value) (ns : List Int) : Prop :=
  ∃ a cap, v = .slice a ns.length cap ∧ ns.length ≤ cap ∧ cap ≤ maxLen ∧ (a = none → cap = 0) ∧
    (ns = [] ∨ ∃ b off, a = some ⟨b, off, none⟩ ∧ ∀ i (h : i < ns.length), w.cell? ⟨b, off + i, none⟩ = some (.int .i64 ns[i]))
theorem OwnI.rd {w : World} {base : Nat} {v : Value} {ns : List Int} (h : OwnI w base v ns) : RdI w v ns := by
  have h' := h
  rcases h.2 with ⟨rfl, h0⟩ | ⟨g, cap, cur, rfl, hb, hg, hn, hc, hs, ht⟩
  · have : ns = [] := List.length_eq_zero_iff.1 h0
    subst this
    exact ⟨none, 0, rfl, Nat.le_refl _, Nat.zero_le _, fun _ => rfl, .inl rfl⟩
  · refine ⟨some ⟨g, 0, none⟩, cap, rfl, hn, hc, (fun h => by cases h), .inr ⟨g, 0, rfl, fun i hi => ?_⟩⟩
    have := h'.cellAt i (by omega)
    rw [IV_get ns i hi] at this
    simpa using this
theorem OwnI.below {w w' : World} {base : Nat} {v : Value} {ns : List Int} (h : OwnI w base v ns) (hb : Below w.heap.size w w') : OwnI w' base v ns := own_below h hb
theorem OwnI.drewN {w : World} {base : Nat} {v : Value} {ns : List Int} (h : OwnI w base v ns) (q : Nat) : OwnI (w.drewN q) base v ns := h
theorem OwnI.mono {w : World} {base base' : Nat} {v : Value} {ns : List Int} (h : OwnI w base v ns) (hb : base' ≤ base) : OwnI w base' v ns := by
  refine ⟨h.1, ?_⟩
  rcases h.2 with h2 | ⟨g, cap, cur, hv, hg, r⟩
  · exact .inl h2
  · exact .inr ⟨g, cap, cur, hv, Nat.le_trans hb hg, r⟩
theorem RdI.below {w w' : World} {v : Value} {ns : List Int} (h : RdI w v ns) (hb : Below w.heap.size w w') : RdI w' v ns := by
  obtain ⟨a, cap, hv, h1, h2, h0, h3⟩ := h
  refine ⟨a, cap, hv, h1, h2, h0, ?_⟩
  rcases h3 with h3 | ⟨b, off, ha, hc⟩
  · exact .inl h3
  · exact .inr ⟨b, off, ha, fun i hi => by rw [hb.cell (World.block_lt_of_cell? w _ (hc i hi))]; exact hc i hi⟩
theorem RdI.drewN {w : World} {v : Value} {ns : List Int} (h : RdI w v ns) (q : Nat) : RdI (w.drewN q) v ns := h
theorem ownI_none (w : World) : OwnI (w.alloc (.cells #[] 2)) w.heap.size (.slice (some ⟨w.heap.size, 0, none⟩) 0 0) [] := World.ownsRow_lit w #[] 0 (Nat.le_refl _) (Nat.zero_le _) rfl
theorem ownI_one (w : World) (n : Int) : OwnI (w.alloc (.cells #[.int .i64 n] 2)) w.heap.size (.slice (some ⟨w.heap.size, 0, none⟩) 1 1) [n] := World.ownsRow_lit w #[.int .i64 n] 1 (Nat.le_refl _) (by unfold maxLen; omega) rfl
theorem ownI_lt {w : World} {B : Nat} {v : Value} {ns : List Int} (h : OwnI w B v ns) : ∀ k, v.ownBlock = some k → k < w.heap.size := fun k hk => (World.ownsRow.lt h k hk).2
theorem ownI_more {w1 : World} {B : Nat} {v' : Value} {ys zs : List Int} (h : w1.ownsRow B 2 1 v' (ys.length + zs.length) (IV ys ++ IV zs)) : OwnI w1 B v' (ys ++ zs) := by
  unfold OwnI
  rw [IV_append, List.length_append]
  exact h
theorem ownI_some {w : World} {B : Nat} {v : Value} {ns : List Int} (h : OwnI w B v ns) (hn : ns ≠ []) : ∃ g cap, v = .slice (some ⟨g, 0, none⟩) ns.length cap := by
  rcases h.2 with ⟨_, h0⟩ | ⟨g, cap, cur, hv, _⟩
  · exact absurd (List.length_eq_zero_iff.1 h0) hn
  · exact ⟨g, cap, hv⟩
theorem RdI.at {w : World} {a : Option Addr} {n cap : Nat} {ns : List Int} (h : RdI w (.slice a n cap) ns) (i : Nat) (hi : i < ns.length) : ∃ b off, a = some ⟨b, off, none⟩ ∧ w.cell? ⟨b, off + i, none⟩ = some (.int .i64 ns[i]) := by
  obtain ⟨a', cap', hv, _, _, _, h3⟩ := h
  simp only [Value.slice.injEq] at hv
  obtain ⟨rfl, _, _⟩ := hv
  rcases h3 with rfl | ⟨b, off, ha, hc⟩
  · simp at hi
  · exact ⟨b, off, ha, hc i hi⟩
theorem rdI_take {w : World} {a : Option Addr} {n cap k : Nat} {ns : List Int} (h : RdI w (.slice a n cap) ns) (hk : k ≤ ns.length) : RdI w (.slice a k cap) (ns.take k) := by
  obtain ⟨a', cap', hv, h1, h2, h0, h3⟩ := h
  simp only [Value.slice.injEq] at hv
  obtain ⟨rfl, _, rfl⟩ := hv
  have hl : (ns.take k).length = k := by rw [List.length_take]; omega
  refine ⟨a, cap, by rw [hl], by omega, h2, h0, ?_⟩
  rcases h3 with rfl | ⟨b, off, ha, hc⟩
  · exact .inl (by simp)
  · exact .inr ⟨b, off, ha, fun i hi => by rw [List.getElem_take]; exact hc i (by omega)⟩
theorem rdI_cut {w : World} {b off n cap k : Nat} {ns : List Int} (h : RdI w (.slice (some ⟨b, off, none⟩) n cap) ns) (hk : k ≤ ns.length) : RdI w (.slice (if cap = k then some ⟨b, off, none⟩ else some ⟨b, off + k, none⟩) (ns.length - k) (cap - k)) (ns.drop k) := by
  obtain ⟨a', cap', hv, h1, h2, h0, h3⟩ := h
  simp only [Value.slice.injEq] at hv
  obtain ⟨rfl, _, rfl⟩ := hv
  have hl : (ns.drop k).length = ns.length - k := List.length_drop
  split
  · rename_i hck
    have hl0 : ns.length - k = 0 := by omega
    rw [hl0]
    exact ⟨_, _, by rw [hl, hl0], by rw [hl]; omega, by omega, (fun h => by cases h), .inl (List.drop_eq_nil_of_le (by omega))⟩
  · refine ⟨_, _, by rw [hl], by omega, by omega, (fun h => by cases h), ?_⟩
    rcases h3 with rfl | ⟨b', off', ha, hc⟩
    · exact .inl (by simp)
    · cases ha
      refine .inr ⟨b, off + k, rfl, fun i hi => ?_⟩
      have := hc (k + i) (by omega)
      rw [← Nat.add_assoc] at this
      rw [this, List.getElem_drop]
theorem run_append_ints (ty : TypeId) {w : World} {base : Nat} {v u : Value} {ys zs : List Int} (hown : OwnI w base v ys) (hr : RdI w u zs) (hl : ys.length + zs.length ≤ 1000000000) (hbase : base ≤ w.heap.size) :
    ∃ v' w', (Builtin.append_ #[47, 47] ty #[v, u]).run Tryz.prog w = .ok v' w' ∧ OwnI w' base v' (ys ++ zs) ∧ w.grownBy w' v.ownBlock := by
  obtain ⟨i0, hi, hz0, hz1, hz2⟩ := info_parts Tryz.info2
  obtain ⟨a, cap, rfl, h1, h2, h0, h3⟩ := hr
  have row : ∀ ad, (∀ j u, (IV zs)[j]? = some u → w.cell? (ad.add j) = some u) → ∃ v' w', (Builtin.append_ #[47, 47] ty #[v, .slice (some ad) zs.length cap]).run Tryz.prog w = .ok v' w' ∧ OwnI w' base v' (ys ++ zs) ∧ w.grownBy w' v.ownBlock := by
    intro ad hc
    obtain ⟨v', w', hrun, r1, r2, _⟩ := run_append_own (P := Tryz.prog) w base 47 ty 2 i0 _ 1 8 Tryz.underlying47 hi hz0 hz1 hz2 rfl (by decide) v ys.length (IV ys) hown ad zs.length cap (IV zs) (by rw [IV_length]; omega) hc (IV_oneCell zs) (by unfold maxLen; omega) (by omega) hbase
    exact ⟨v', w', hrun, ownI_more r1, r2⟩
  cases a with
  | some ad =>
    refine row ad ?_
    rcases h3 with rfl | ⟨b, off, ha, hc⟩
    · intro j u hj; simp [IV] at hj
    · cases ha
      intro j u hj
      have hjl : j < zs.length := by have := (List.getElem?_eq_some_iff.1 hj).1; rwa [IV_length] at this
      rw [IV_get zs j hjl] at hj
      cases hj
      rw [Addr.add_lit]
      exact hc j hjl
  | none =>
    have hc0 := h0 rfl
    subst hc0
    rcases h3 with rfl | ⟨b, off, ha, hc⟩
    · refine ⟨v, w, run_append_owned_none (P := Tryz.prog) w base 47 ty 2 i0 1 Tryz.underlying47 hi v ys.length (IV ys) hown, by simpa using hown, ⟨rfl, rfl, rfl, Nat.le_refl _, fun _ _ _ => rfl⟩⟩
    · cases ha
theorem wpList_append_ints {w : World} {ops : Array Oper} {rest : List Oper} {o : Oper} {a : Act} {Q : Exit → Act → World → Prop} (hgd : o.guard = none) (s x : Operand)
    (ho : o.op = .call { callee := .builtin .append, args := #[s, x], argTypes := #[47, 47] }) (base : Nat) (v u : Value) (ys zs : List Int) (hs : a.eval s = v) (hx : a.eval x = u) (hown : OwnI w base v ys) (hr : RdI w u zs) (hl : ys.length + zs.length ≤ 1000000000) (hbase : base ≤ w.heap.size)
    (h : ∀ v' w', OwnI w' base v' (ys ++ zs) → w.grownBy w' v.ownBlock → wpList Tryz.prog ops Q rest (a.put o.dst v') w') : wpList Tryz.prog ops Q (o :: rest) a w := by
  refine wpList_plain hgd fun K hK => ?_
  obtain ⟨v', w', hrun, r1, r2⟩ := run_append_ints o.type hown hr hl hbase
  unfold Oper.wp
  simp [execOp, ho, resolve, invoke, builtin, hs, hx, hrun, Result.andThen]
  exact hK _ _ (h v' w' r1 r2)
theorem step_append_ints {w : World} {ops : Array Oper} {o : Oper} {a : Act} {K : Act → World → Prop} {Q : Exit → Act → World → Prop} {E : Prop} (hgd : o.guard = none) (d : Nat) (hd : o.dst = some d) (s x : Operand)
    (ho : o.op = .call { callee := .builtin .append, args := #[s, x], argTypes := #[47, 47] }) (base : Nat) (v u : Value) (ys zs : List Int) (hs : a.eval s = v) (hx : a.eval x = u) (hown : OwnI w base v ys) (hr : RdI w u zs) (hl : ys.length + zs.length ≤ 1000000000) (hbase : base ≤ w.heap.size)
    (h : ∀ v' w', OwnI w' base v' (ys ++ zs) → w.grownBy w' v.ownBlock → K (a.put (some d) v') w') :
    if Region.wanted o (yielded ops a.tmps) = true then Oper.wp Tryz.prog o a w K Q else E := by
  have hw : Region.wanted o (yielded ops a.tmps) = true := by simp [Region.wanted, hgd]
  rw [if_pos hw]
  obtain ⟨v', w', hrun, r1, r2⟩ := run_append_ints o.type hown hr hl hbase
  unfold Oper.wp
  simp [execOp, ho, resolve, invoke, builtin, hs, hx, hrun, Result.andThen]
  have h' := h v' w' r1 r2
  rw [← hd] at h'
  exact h'
end Go.Proofs.YtpbbahpndgigjaaGreatDoor
