/- The contracts of both Merged. -/
import Derived.Test.YtihacdfchmobpaaHpMerge
import Derived.Test.YtihacdfchmobpaaEntImplSeen
namespace Go.Proofs.Ytihacdfchmobpaa
open Go.RowKit
/-- What both Merged leave. -/
def MergedPost (w : World) (ls : List (List Ent)) (e : Ending) (w' : World) : Prop :=
  ∃ u, e = .returned (.tuple #[u, .bool (mergedR ls).2]) ∧ OwnE w' w.heap.size u (mergedR ls).1 ∧ Below w.heap.size w w'
def lsOk (ls : List (List Ent)) : Bool := decide (ls.length ≤ 20) && ls.all okL
theorem lsOk_no {ls : List (List Ent)} (h : lsOk ls = false) : mergedR ls = ([], false) := by
  unfold mergedR mergedOk
  unfold lsOk at h
  rw [h]; rfl
theorem lsOk_yes {ls : List (List Ent)} (h : lsOk ls = true) : mergedR ls = if (mergedL ls).length ≤ 300 then (mergedL ls, true) else ([], false) := by
  unfold mergedR mergedOk
  unfold lsOk at h
  rw [h, Bool.true_and]
  by_cases h2 : (mergedL ls).length ≤ 300 <;> simp [h2]
theorem all_false {ls : List (List Ent)} {k : Nat} {l : List Ent} (h : ls[k]? = some l) (ho : okL l = false) : lsOk ls = false := by
  unfold lsOk
  have : ls.all okL = false := by
    rw [List.all_eq_false]
    exact ⟨l, List.mem_of_getElem? h, by rw [ho]; simp⟩
  rw [this, Bool.and_false]
theorem all_to {ls : List (List Ent)} (h : ∀ (k : Nat) (l : List Ent), k < ls.length → ls[k]? = some l → okL l = true) : ls.all okL = true := by
  rw [List.all_eq_true]
  intro l hl
  obtain ⟨k, hk, rfl⟩ := List.getElem_of_mem hl
  exact h k _ hk (List.getElem?_eq_getElem hk)
/-- The lists one by one, where they lie. -/
theorem Pieces.at {w : World} {v : Value} {ps : List (Value × List Ent)} (hp : Pieces w v ps) : ∃ a cap, v = .slice a ps.length cap ∧ ps.length ≤ cap ∧ cap ≤ maxLen ∧
    ∀ k, k < ps.length → ∀ w', Below w.heap.size w w' → ∃ b off aa zn cc zs, a = some ⟨b, off, none⟩ ∧ w'.cell? ⟨b, off + k, none⟩ = some (.slice aa zn cc) ∧ RdE w' (.slice aa zn cc) zs ∧ (ps.map (·.2))[k]? = some zs := by
  have hp' := hp
  rcases hp with ⟨rfl, rfl⟩ | ⟨b, off, cap, rfl, h1, h2, hc⟩
  · exact ⟨none, 0, rfl, Nat.le_refl _, Nat.zero_le _, fun k hk => by simp at hk⟩
  · refine ⟨_, cap, rfl, h1, h2, fun k hk w' hb => ?_⟩
    obtain ⟨aa, cc, hu, _⟩ := id (hc k hk).2
    have e1 := (hc k hk).1
    have e2 := (hc k hk).2
    rw [hu] at e1 e2
    exact ⟨b, off, aa, _, cc, _, rfl, (hb.cell (World.block_lt_of_cell? w _ e1)).trans e1, e2.below hb, by simp [hk]⟩
set_option maxHeartbeats 2000000 in
set_option maxRecDepth 100000 in
theorem listsOk_any (v : Value) (ps : List (Value × List Ent)) (w : World) (hp : Pieces w v ps) (hf : ∀ p ∈ ps, ∀ e ∈ p.2, Fits e) :
    Calls Try.prog 40 #[v] w fun e w' => e = .returned (.bool (lsOk (ps.map (·.2)))) ∧ Below w.heap.size w w' := by
  obtain ⟨a, cap, hv, hla, hma, hat⟩ := hp.at
  obtain ⟨ls, hls⟩ : ∃ ls, ls = ps.map (·.2) := ⟨_, rfl⟩
  have HF : Hid (∀ l ∈ ls, ∀ e ∈ l, Fits e) := fun l hl => by
    rw [hls] at hl
    obtain ⟨p, hp', rfl⟩ := List.mem_map.1 hl
    exact hf p hp'
  have hln : ls.length = ps.length := by rw [hls, List.length_map]
  rw [← hls] at hat ⊢
  obtain ⟨nn, hnn⟩ : ∃ nn, nn = ps.length := ⟨_, rfl⟩
  rw [← hnn] at hv hla hat hln
  have AT : Hid (∀ k, k < nn → _) := hat
  have HLN : Hid (ls.length = nn) := hln
  unfold maxLen at hma
  subst hv
  clear hat hln hnn hls hp hf
  by_cases h20 : 20 < nn
  · have RES : Hid (lsOk ls = false) := by
      unfold Hid lsOk
      rw [decide_eq_false (by rw [HLN.out]; omega), Bool.false_and]
    go_enter Try.func40, Try.ntmps40
    go_wp2
    go_ret
    exact ⟨ret_bool RES.out.symm, Below.refl _ _⟩
  · go_enter Try.func40, Try.ntmps40
    go_wp2
    go_loopw [10] (fun i wr => ∃ k : Nat, i = .int .i64 k ∧ k ≤ nn ∧ Hid (∀ (j : Nat) (l : List Ent), j < k → ls[j]? = some l → okL l = true) ∧ Below w.heap.size w wr) (fun i _ => nn - (intOf i).toNat)
    case atStart => exact ⟨0, rfl, Nat.zero_le _, (fun j l h => by omega), Below.refl _ _⟩
    case round =>
      obtain ⟨k, rfl, hk, HA, hb⟩ := hrel
      by_cases hlt : k < nn
      · obtain ⟨b, off, aa, zn, cc, zs, rfl, hc, hrz, hlz⟩ := AT.out k hlt wr hb
        have HLZ : Hid (ls[k]? = some zs) := hlz
        have HFZ : Hid (∀ e ∈ zs, Fits e) := HF.out zs (List.mem_of_getElem? hlz)
        have hkc : k < cap := by omega
        clear hlz
        cases hok : okL zs with
        | false =>
          have RES : Hid (lsOk ls = false) := all_false HLZ.out hok
          go_wp2_with fail
          refine (implOk_no _ zs _ hrz HFZ.out hok).mono ?_
          rintro e w2 ⟨rfl, hb2⟩
          have bz := hb.trans (hb2.mono hb.size)
          clear hrz hc hb hb2
          go_wp2
          go_ret
          exact ⟨ret_bool RES.out.symm, bz⟩
        | true =>
          have HA2 : Hid (∀ (j : Nat) (l : List Ent), j < k + 1 → ls[j]? = some l → okL l = true) := fun j l hj hl => by
            by_cases hjk : j = k
            · rw [hjk, HLZ.out] at hl; rw [← Option.some.inj hl]; exact hok
            · exact HA.out j l (by omega) hl
          go_wp2_with fail
          refine (implOk_yes _ zs _ hrz HFZ.out hok).mono ?_
          rintro e w2 ⟨rfl, hb2⟩
          have bz := hb.trans (hb2.mono hb.size)
          clear hrz hc hb hb2
          go_wp2
          go_roundw
          case rel => exact ⟨k + 1, by go_num, by omega, HA2, bz⟩
          case measure => simp [intOf]; omega
      · have hke : k = nn := by omega
        have RES : Hid (lsOk ls = true) := by
          unfold Hid lsOk
          rw [decide_eq_true (by rw [HLN.out]; omega), Bool.true_and]
          exact all_to (fun j l hj hl => HA.out j l (by rw [hke, ← HLN.out]; exact hj) hl)
        clear hke
        go_wp2
        go_ret
        exact ⟨ret_bool RES.out.symm, hb⟩
theorem lsOk_parts {ps : List (Value × List Ent)} (h : lsOk (ps.map (·.2)) = true) : ps.length ≤ 20 ∧ ∀ p ∈ ps, okL p.2 = true := by
  unfold lsOk at h
  simp only [Bool.and_eq_true, decide_eq_true_eq, List.length_map, List.all_eq_true] at h
  exact ⟨h.1, fun p hp => h.2 _ (List.mem_map_of_mem hp)⟩
set_option maxHeartbeats 1000000 in
set_option maxRecDepth 100000 in
theorem implMerged_any (v : Value) (ps : List (Value × List Ent)) (w : World) (hp : Pieces w v ps) (hf : ∀ p ∈ ps, ∀ e ∈ p.2, Fits e) :
    Calls Try.prog 10 #[v] w fun e w' => MergedPost w (ps.map (·.2)) e w' := by
  have HC : Hid (Calls _ _ _ _ _) := listsOk_any v ps w hp hf
  cases hk : lsOk (ps.map (·.2)) with
  | false =>
    have HR : Hid (mergedR (ps.map (·.2)) = ([], false)) := lsOk_no hk
    rw [hk] at HC
    unfold MergedPost
    rw [HR.out]
    clear HR hk hp hf
    go_enter Try.func10, Try.ntmps10
    go_wp2_with fail
    refine HC.out.mono ?_
    rintro e w1 ⟨rfl, hb1⟩
    have bz := hb1.alloc hb1.size (.cells #[] 32)
    have ho := (ownE_none w1).mono hb1.size
    go_wp2
    go_ret2
    exact ⟨_, rfl, ho, bz⟩
  | true =>
    obtain ⟨h20, hok⟩ := lsOk_parts hk
    have HR : Hid (mergedR (ps.map (·.2)) = _) := lsOk_yes hk
    have HM : Hid (∀ W, Below w.heap.size w W → Calls Try.prog 41 #[v] W fun e w' => RowPost W (mergedL (ps.map (·.2))) e w') := fun W hb => mergedByHeap_any v ps W (hp.below hb) h20 hok
    rw [hk] at HC
    generalize mergedL (ps.map (·.2)) = M at HM HR
    clear hk hp hf h20 hok
    go_enter Try.func10, Try.ntmps10
    go_wp2_with fail
    refine HC.out.mono ?_
    rintro e w1 ⟨rfl, hb1⟩
    go_wp2_with fail
    refine (HM.out _ hb1).mono ?_
    rintro e w2 ⟨u, rfl, ho2, hb2⟩
    have b2 := hb1.trans (hb2.mono hb1.size)
    have ho3 := ho2.mono hb1.size
    obtain ⟨au, cu, hvu, hlu, hmu, -⟩ := id ho3.rd
    obtain ⟨mn, hmn⟩ : ∃ mn, mn = M.length := ⟨_, rfl⟩
    rw [← hmn] at hvu hlu
    subst hvu
    unfold maxLen at hmu
    have HMN : Hid (mn = M.length) := hmn
    clear hmn hb1 hb2 ho2 HM HC
    by_cases hm : 300 < mn
    · have HR2 : Hid (mergedR (ps.map (·.2)) = ([], false)) := by unfold Hid; rw [HR.out, if_neg (by rw [← HMN.out]; omega)]
      have bz := b2.alloc b2.size (.cells #[] 32)
      have ho := (ownE_none w2).mono b2.size
      clear HR
      go_wp2
      go_ret2
      unfold MergedPost
      rw [HR2.out]
      exact ⟨_, rfl, ho, bz⟩
    · have HR2 : Hid (mergedR (ps.map (·.2)) = (M, true)) := by unfold Hid; rw [HR.out, if_pos (by rw [← HMN.out]; omega)]
      clear HR
      go_wp2
      go_ret2
      unfold MergedPost
      rw [HR2.out]
      exact ⟨_, rfl, ho3, b2⟩
set_option maxHeartbeats 2000000 in
set_option maxRecDepth 100000 in
theorem specMerged_any (v : Value) (ps : List (Value × List Ent)) (w : World) (hp : Pieces w v ps) (hf : ∀ p ∈ ps, ∀ e ∈ p.2, Fits e) :
    Calls Try.prog 11 #[v] w fun e w' => MergedPost w (ps.map (·.2)) e w' := by
  obtain ⟨a, cap, hv, hla, hma, hat⟩ := hp.at
  obtain ⟨ls, hls⟩ : ∃ ls, ls = ps.map (·.2) := ⟨_, rfl⟩
  have HF : Hid (∀ l ∈ ls, ∀ e ∈ l, Fits e) := fun l hl => by
    rw [hls] at hl
    obtain ⟨p, hp', rfl⟩ := List.mem_map.1 hl
    exact hf p hp'
  have hln : ls.length = ps.length := by rw [hls, List.length_map]
  have HM : Hid (lsOk ls = true → ∀ W, Below w.heap.size w W → Calls Try.prog 42 #[v] W fun e w' => RowPost W (mergedL ls) e w') := fun hk W hb => by
    rw [hls] at hk ⊢
    obtain ⟨h20, hok⟩ := lsOk_parts hk
    exact l6Merged_any v ps W (hp.below hb) h20 (fun p hp' => okL_len (hok p hp'))
  rw [← hls] at hat ⊢
  obtain ⟨nn, hnn⟩ : ∃ nn, nn = ps.length := ⟨_, rfl⟩
  rw [← hnn] at hv hla hat hln
  have AT : Hid (∀ k, k < nn → _) := hat
  have HLN : Hid (ls.length = nn) := hln
  unfold maxLen at hma
  subst hv
  clear hat hln hnn hls hp hf
  by_cases h20 : 20 < nn
  · have HR : Hid (mergedR ls = ([], false)) := lsOk_no (by unfold lsOk; rw [decide_eq_false (by rw [HLN.out]; omega), Bool.false_and])
    have ho0 := ownE_none w
    have hb0 := below1 w (.cells #[] 32)
    unfold MergedPost
    rw [HR.out]
    clear HR
    go_enter Try.func11, Try.ntmps11
    go_wp2
    go_ret2
    exact ⟨_, rfl, ho0, hb0⟩
  · go_enter Try.func11, Try.ntmps11
    go_wp2
    go_loopw [4] (fun i wr => ∃ k : Nat, i = .int .i64 k ∧ k ≤ nn ∧ Hid (∀ (j : Nat) (l : List Ent), j < k → ls[j]? = some l → okL l = true) ∧ Below w.heap.size w wr) (fun i _ => nn - (intOf i).toNat)
    case atStart => exact ⟨0, rfl, Nat.zero_le _, (fun j l h => by omega), Below.refl _ _⟩
    case round =>
      obtain ⟨k, rfl, hk, HA, hb⟩ := hrel
      by_cases hlt : k < nn
      · obtain ⟨b, off, aa, zn, cc, zs, rfl, hc, hrz, hlz⟩ := AT.out k hlt wr hb
        have HLZ : Hid (ls[k]? = some zs) := hlz
        have HFZ : Hid (∀ e ∈ zs, Fits e) := HF.out zs (List.mem_of_getElem? hlz)
        have hkc : k < cap := by omega
        have HC : Hid (Calls _ _ _ _ _) := specEntriesOk_any _ zs _ hrz HFZ.out
        clear hlz
        cases hok : okL zs with
        | false =>
          have HR : Hid (mergedR ls = ([], false)) := lsOk_no (all_false HLZ.out hok)
          rw [hok] at HC
          go_wp2_with fail
          refine HC.out.mono ?_
          rintro e w2 ⟨rfl, hb2⟩
          have bz := (hb.trans (hb2.mono hb.size))
          have bz2 := bz.alloc bz.size (.cells #[] 32)
          have ho := (ownE_none w2).mono bz.size
          clear hrz hc hb hb2 bz HC
          go_wp2
          go_ret2
          unfold MergedPost
          rw [HR.out]
          exact ⟨_, rfl, ho, bz2⟩
        | true =>
          have HA2 : Hid (∀ (j : Nat) (l : List Ent), j < k + 1 → ls[j]? = some l → okL l = true) := fun j l hj hl => by
            by_cases hjk : j = k
            · rw [hjk, HLZ.out] at hl; rw [← Option.some.inj hl]; exact hok
            · exact HA.out j l (by omega) hl
          rw [hok] at HC
          go_wp2_with fail
          refine HC.out.mono ?_
          rintro e w2 ⟨rfl, hb2⟩
          have bz := hb.trans (hb2.mono hb.size)
          clear hrz hc hb hb2 HC
          go_wp2
          go_roundw
          case rel => exact ⟨k + 1, by go_num, by omega, HA2, bz⟩
          case measure => simp [intOf]; omega
      · have hke : k = nn := by omega
        have RES : Hid (lsOk ls = true) := by
          unfold Hid lsOk
          rw [decide_eq_true (by rw [HLN.out]; omega), Bool.true_and]
          exact all_to (fun j l hj hl => HA.out j l (by rw [hke, ← HLN.out]; exact hj) hl)
        have HR : Hid (mergedR ls = _) := lsOk_yes RES.out
        have HC : Hid (Calls _ _ _ _ _) := HM.out RES.out wr hb
        generalize mergedL ls = M at HR HC
        clear hke RES
        go_wp2_with fail
        refine HC.out.mono ?_
        rintro e w2 ⟨u, rfl, ho2, hb2⟩
        have b2 := hb.trans (hb2.mono hb.size)
        have ho3 := ho2.mono hb.size
        obtain ⟨au, cu, hvu, hlu, hmu, -⟩ := id ho3.rd
        obtain ⟨mn, hmn⟩ : ∃ mn, mn = M.length := ⟨_, rfl⟩
        rw [← hmn] at hvu hlu
        subst hvu
        unfold maxLen at hmu
        have HMN : Hid (mn = M.length) := hmn
        clear hmn hb hb2 ho2 HC
        by_cases hm : 300 < mn
        · have HR2 : Hid (mergedR ls = ([], false)) := by unfold Hid; rw [HR.out, if_neg (by rw [← HMN.out]; omega)]
          have bz := b2.alloc b2.size (.cells #[] 32)
          have ho := (ownE_none w2).mono b2.size
          clear HR
          go_wp2
          go_ret2
          unfold MergedPost
          rw [HR2.out]
          exact ⟨_, rfl, ho, bz⟩
        · have HR2 : Hid (mergedR ls = (M, true)) := by unfold Hid; rw [HR.out, if_pos (by rw [← HMN.out]; omega)]
          clear HR
          go_wp2
          go_ret2
          unfold MergedPost
          rw [HR2.out]
          exact ⟨_, rfl, ho3, b2⟩
end Go.Proofs.Ytihacdfchmobpaa
