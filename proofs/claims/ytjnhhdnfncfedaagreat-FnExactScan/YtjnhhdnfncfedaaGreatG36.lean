/- The contracts of both Merged. The contracts of the laws' own helpers over slices of slices of entries: measured, copied, alike, marked. -/
import Derived.Test.YtjnhhdnfncfedaaGreatHpMerge
import Derived.Test.YtjnhhdnfncfedaaGreatG10
import Derived.Test.YtjnhhdnfncfedaaGreatG29
import Derived.Test.YtjnhhdnfncfedaaGreatG30
namespace Go.Proofs.YtjnhhdnfncfedaaGreat
open Go.RowKit
/-- What both Merged leave. -/
def MergedPost (w : World) (ls : List (List Ent)) (e : Ending) (w' : World) : Prop :=
  ∃ u, e = .returned (.tuple #[u, .bool (mergedR ls).2]) ∧ OwnE w' w.heap.size u (mergedR ls).1 ∧ Below w.heap.size w w'
def lsOk (ls : List (List Ent)) : Bool := decide (ls.length ≤ 20) && ls.all okL
theorem lsOk_no {ls : List (List Ent)} (h : lsOk ls = false) : mergedR ls = ([], false) := by
  unfold mergedR mergedOk
  unfold lsOk at h
  rw [h]; rfl
theorem lsOk_yes {ls : List (List Ent)} (h : lsOk ls = true) : mergedR ls = if (mergedL ls).length ≤ 300 then (mergedL ls, true) else ([], false) := by
  unfold mergedR mergedOk
  unfold lsOk at h
  rw [h, Bool.true_and]
  by_cases h2 : (mergedL ls).length ≤ 300 <;> simp [h2]
theorem all_false {ls : List (List Ent)} {k : Nat} {l : List Ent} (h : ls[k]? = some l) (ho : okL l = false) : lsOk ls = false := by
  unfold lsOk
  have : ls.all okL = false := by
    rw [List.all_eq_false]
    exact ⟨l, List.mem_of_getElem? h, by rw [ho]; simp⟩
  rw [this, Bool.and_false]
theorem all_to {ls : List (List Ent)} (h : ∀ (k : Nat) (l : List Ent), k < ls.length → ls[k]? = some l → okL l = true) : ls.all okL = true := by
  rw [List.all_eq_true]
  intro l hl
  obtain ⟨k, hk, rfl⟩ := List.getElem_of_mem hl
  exact h k _ hk (List.getElem?_eq_getElem hk)
/-- The lists one by one, where they lie. -/
theorem Pieces.at {w : World} {v : Value} {ps : List (Value × List Ent)} (hp : Pieces w v ps) : ∃ a cap, v = .slice a ps.length cap ∧ ps.length ≤ cap ∧ cap ≤ maxLen ∧
    ∀ k, k < ps.length → ∀ w', Below w.heap.size w w' → ∃ b off aa zn cc zs, a = some ⟨b, off, none⟩ ∧ w'.cell? ⟨b, off + k, none⟩ = some (.slice aa zn cc) ∧ RdE w' (.slice aa zn cc) zs ∧ (ps.map (·.2))[k]? = some zs := by
  have hp' := hp
  rcases hp with ⟨rfl, rfl⟩ | ⟨b, off, cap, rfl, h1, h2, hc⟩
  · exact ⟨none, 0, rfl, Nat.le_refl _, Nat.zero_le _, fun k hk => by simp at hk⟩
  · refine ⟨_, cap, rfl, h1, h2, fun k hk w' hb => ?_⟩
    obtain ⟨aa, cc, hu, _⟩ := id (hc k hk).2
    have e1 := (hc k hk).1
    have e2 := (hc k hk).2
    rw [hu] at e1 e2
    exact ⟨b, off, aa, _, cc, _, rfl, (hb.cell (World.block_lt_of_cell? w _ e1)).trans e1, e2.below hb, by simp [hk]⟩
set_option maxHeartbeats 2000000 in
set_option maxRecDepth 100000 in
theorem listsOk_any (v : Value) (ps : List (Value × List Ent)) (w : World) (hp : Pieces w v ps) (hf : ∀ p ∈ ps, ∀ e ∈ p.2, Fits e) :
    Calls Tryz.prog 70 #[v] w fun e w' => e = .returned (.bool (lsOk (ps.map (·.2)))) ∧ Below w.heap.size w w' := by
  obtain ⟨a, cap, hv, hla, hma, hat⟩ := hp.at
  obtain ⟨ls, hls⟩ : ∃ ls, ls = ps.map (·.2) := ⟨_, rfl⟩
  have HF : Hid (∀ l ∈ ls, ∀ e ∈ l, Fits e) := fun l hl => by
    rw [hls] at hl
    obtain ⟨p, hp', rfl⟩ := List.mem_map.1 hl
    exact hf p hp'
  have hln : ls.length = ps.length := by rw [hls, List.length_map]
  rw [← hls] at hat ⊢
  obtain ⟨nn, hnn⟩ : ∃ nn, nn = ps.length := ⟨_, rfl⟩
  rw [← hnn] at hv hla hat hln
  have AT : Hid (∀ k, k < nn → _) := hat
  have HLN : Hid (ls.length = nn) := hln
  unfold maxLen at hma
  subst hv
  clear hat hln hnn hls hp hf
  by_cases h20 : 20 < nn
  · have RES : Hid (lsOk ls = false) := by
      unfold Hid lsOk
      rw [decide_eq_false (by rw [HLN.out]; omega), Bool.false_and]
    go_enter Tryz.func70, Tryz.ntmps70
    go_wp2
    go_ret
    exact ⟨ret_bool RES.out.symm, Below.refl _ _⟩
  · go_enter Tryz.func70, Tryz.ntmps70
    go_wp2
    go_loopw [10] (fun i wr => ∃ k : Nat, i = .int .i64 k ∧ k ≤ nn ∧ Hid (∀ (j : Nat) (l : List Ent), j < k → ls[j]? = some l → okL l = true) ∧ Below w.heap.size w wr) (fun i _ => nn - (intOf i).toNat)
    case atStart => exact ⟨0, rfl, Nat.zero_le _, (fun j l h => by omega), Below.refl _ _⟩
    case round =>
      obtain ⟨k, rfl, hk, HA, hb⟩ := hrel
      by_cases hlt : k < nn
      · obtain ⟨b, off, aa, zn, cc, zs, rfl, hc, hrz, hlz⟩ := AT.out k hlt wr hb
        have HLZ : Hid (ls[k]? = some zs) := hlz
        have HFZ : Hid (∀ e ∈ zs, Fits e) := HF.out zs (List.mem_of_getElem? hlz)
        have hkc : k < cap := by omega
        clear hlz
        cases hok : okL zs with
        | false =>
          have RES : Hid (lsOk ls = false) := all_false HLZ.out hok
          go_wp2_with fail
          refine (implOk_no _ zs _ hrz HFZ.out hok).mono ?_
          rintro e w2 ⟨rfl, hb2⟩
          have bz := hb.trans (hb2.mono hb.size)
          clear hrz hc hb hb2
          go_wp2
          go_ret
          exact ⟨ret_bool RES.out.symm, bz⟩
        | true =>
          have HA2 : Hid (∀ (j : Nat) (l : List Ent), j < k + 1 → ls[j]? = some l → okL l = true) := fun j l hj hl => by
            by_cases hjk : j = k
            · rw [hjk, HLZ.out] at hl; rw [← Option.some.inj hl]; exact hok
            · exact HA.out j l (by omega) hl
          go_wp2_with fail
          refine (implOk_yes _ zs _ hrz HFZ.out hok).mono ?_
          rintro e w2 ⟨rfl, hb2⟩
          have bz := hb.trans (hb2.mono hb.size)
          clear hrz hc hb hb2
          go_wp2
          go_roundw
          case rel => exact ⟨k + 1, by go_num, by omega, HA2, bz⟩
          case measure => simp [intOf]; omega
      · have hke : k = nn := by omega
        have RES : Hid (lsOk ls = true) := by
          unfold Hid lsOk
          rw [decide_eq_true (by rw [HLN.out]; omega), Bool.true_and]
          exact all_to (fun j l hj hl => HA.out j l (by rw [hke, ← HLN.out]; exact hj) hl)
        clear hke
        go_wp2
        go_ret
        exact ⟨ret_bool RES.out.symm, hb⟩
theorem lsOk_parts {ps : List (Value × List Ent)} (h : lsOk (ps.map (·.2)) = true) : ps.length ≤ 20 ∧ ∀ p ∈ ps, okL p.2 = true := by
  unfold lsOk at h
  simp only [Bool.and_eq_true, decide_eq_true_eq, List.length_map, List.all_eq_true] at h
  exact ⟨h.1, fun p hp => h.2 _ (List.mem_map_of_mem hp)⟩
set_option maxHeartbeats 1000000 in
set_option maxRecDepth 100000 in
theorem implMerged_any (v : Value) (ps : List (Value × List Ent)) (w : World) (hp : Pieces w v ps) (hf : ∀ p ∈ ps, ∀ e ∈ p.2, Fits e) :
    Calls Tryz.prog 37 #[v] w fun e w' => MergedPost w (ps.map (·.2)) e w' := by
  have HC : Hid (Calls _ _ _ _ _) := listsOk_any v ps w hp hf
  cases hk : lsOk (ps.map (·.2)) with
  | false =>
    have HR : Hid (mergedR (ps.map (·.2)) = ([], false)) := lsOk_no hk
    rw [hk] at HC
    unfold MergedPost
    rw [HR.out]
    clear HR hk hp hf
    go_enter Tryz.func37, Tryz.ntmps37
    go_wp2_with fail
    refine HC.out.mono ?_
    rintro e w1 ⟨rfl, hb1⟩
    have bz := hb1.alloc hb1.size (.cells #[] 55)
    have ho := (ownE_none w1).mono hb1.size
    go_wp2
    go_ret2
    exact ⟨_, rfl, ho, bz⟩
  | true =>
    obtain ⟨h20, hok⟩ := lsOk_parts hk
    have HR : Hid (mergedR (ps.map (·.2)) = _) := lsOk_yes hk
    have HM : Hid (∀ W, Below w.heap.size w W → Calls Tryz.prog 71 #[v] W fun e w' => RowPost W (mergedL (ps.map (·.2))) e w') := fun W hb => mergedByHeap_any v ps W (hp.below hb) h20 hok
    rw [hk] at HC
    generalize mergedL (ps.map (·.2)) = M at HM HR
    clear hk hp hf h20 hok
    go_enter Tryz.func37, Tryz.ntmps37
    go_wp2_with fail
    refine HC.out.mono ?_
    rintro e w1 ⟨rfl, hb1⟩
    go_wp2_with fail
    refine (HM.out _ hb1).mono ?_
    rintro e w2 ⟨u, rfl, ho2, hb2⟩
    have b2 := hb1.trans (hb2.mono hb1.size)
    have ho3 := ho2.mono hb1.size
    obtain ⟨au, cu, hvu, hlu, hmu, -⟩ := id ho3.rd
    obtain ⟨mn, hmn⟩ : ∃ mn, mn = M.length := ⟨_, rfl⟩
    rw [← hmn] at hvu hlu
    subst hvu
    unfold maxLen at hmu
    have HMN : Hid (mn = M.length) := hmn
    clear hmn hb1 hb2 ho2 HM HC
    by_cases hm : 300 < mn
    · have HR2 : Hid (mergedR (ps.map (·.2)) = ([], false)) := by unfold Hid; rw [HR.out, if_neg (by rw [← HMN.out]; omega)]
      have bz := b2.alloc b2.size (.cells #[] 55)
      have ho := (ownE_none w2).mono b2.size
      clear HR
      go_wp2
      go_ret2
      unfold MergedPost
      rw [HR2.out]
      exact ⟨_, rfl, ho, bz⟩
    · have HR2 : Hid (mergedR (ps.map (·.2)) = (M, true)) := by unfold Hid; rw [HR.out, if_pos (by rw [← HMN.out]; omega)]
      clear HR
      go_wp2
      go_ret2
      unfold MergedPost
      rw [HR2.out]
      exact ⟨_, rfl, ho3, b2⟩
end Go.Proofs.YtjnhhdnfncfedaaGreat
namespace Go.Proofs.YtjnhhdnfncfedaaGreat
open Go.RowKit
theorem ownE_block {w w' : World} {B : Nat} {v : Value} {es : List Ent} (h : OwnE w B v es) (hb : ∀ k, v.ownBlock = some k → w'.heap[k]? = w.heap[k]?) : OwnE w' B v es := by
  refine ⟨h.1, ?_⟩
  rcases h.2 with h2 | ⟨g, cap, cur, hv, hg, hh, r⟩
  · exact .inl h2
  · exact .inr ⟨g, cap, cur, hv, hg, by rw [hb g (by rw [hv]; rfl)]; exact hh, r⟩
theorem ownP_block {w w' : World} {B : Nat} {v : Value} {us : List (Value × List Ent)} (h : OwnP w B v us) (hb : ∀ k, v.ownBlock = some k → w'.heap[k]? = w.heap[k]?) : OwnP w' B v us := by
  refine ⟨h.1, ?_⟩
  rcases h.2 with h2 | ⟨g, cap, cur, hv, hg, hh, r⟩
  · exact .inl h2
  · exact .inr ⟨g, cap, cur, hv, hg, by rw [hb g (by rw [hv]; rfl)]; exact hh, r⟩
/-- A row of rows of entries of the call's own, no two in one block. -/
structure OwnLL (w : World) (lo mid hi : Nat) (v : Value) (us : List (Value × List Ent)) : Prop where
  row : OwnP w lo v us
  rowlt : ∀ k, v.ownBlock = some k → k < mid
  ins : ∀ p ∈ us, OwnE w mid p.1 p.2 ∧ ∀ k, p.1.ownBlock = some k → k < hi
  apart : us.Pairwise (fun p q => ∀ k, p.1.ownBlock = some k → q.1.ownBlock ≠ some k)
  le : lo ≤ mid
theorem OwnLL.below {w w' : World} {lo mid hi : Nat} {v : Value} {us : List (Value × List Ent)} (h : OwnLL w lo mid hi v us) (hb : Below w.heap.size w w') : OwnLL w' lo mid hi v us :=
  ⟨h.row.below hb, h.rowlt, fun p hp => ⟨(h.ins p hp).1.below hb, (h.ins p hp).2⟩, h.apart, h.le⟩
theorem OwnLL.pieces {w : World} {lo mid hi : Nat} {v : Value} {us : List (Value × List Ent)} (h : OwnLL w lo mid hi v us) : Pieces w v us := h.row.pieces (fun p hp => (h.ins p hp).1.rd)
/-- A row of slices of entries that can be read, as it may come in. -/
def Lists (w : World) (v : Value) (ps : List (Value × List Ent)) : Prop :=
  ∃ a cap, v = .slice a ps.length cap ∧ ps.length ≤ cap ∧ cap ≤ maxLen ∧ (ps = [] ∨ ∃ b off, a = some ⟨b, off, none⟩ ∧ ∀ i (h : i < ps.length), w.cell? ⟨b, off + i, none⟩ = some (ps[i].1) ∧ RdE w ps[i].1 ps[i].2)
theorem Lists.below {w w' : World} {v : Value} {ps : List (Value × List Ent)} (h : Lists w v ps) (hb : Below w.heap.size w w') : Lists w' v ps := by
  obtain ⟨a, cap, hv, h1, h2, h3⟩ := h
  refine ⟨a, cap, hv, h1, h2, ?_⟩
  rcases h3 with h3 | ⟨b, off, ha, hc⟩
  · exact .inl h3
  · exact .inr ⟨b, off, ha, fun i hi => ⟨by rw [hb.cell (World.block_lt_of_cell? w _ (hc i hi).1)]; exact (hc i hi).1, (hc i hi).2.below hb⟩⟩
theorem Lists.at {w : World} {v : Value} {ps : List (Value × List Ent)} (hp : Lists w v ps) : ∃ a cap, v = .slice a ps.length cap ∧ ps.length ≤ cap ∧ cap ≤ maxLen ∧
    ∀ k, k < ps.length → ∀ w', Below w.heap.size w w' → ∃ b off aa zn cc zs, a = some ⟨b, off, none⟩ ∧ w'.cell? ⟨b, off + k, none⟩ = some (.slice aa zn cc) ∧ RdE w' (.slice aa zn cc) zs ∧ (ps.map (·.2))[k]? = some zs := by
  obtain ⟨a, cap, hv, h1, h2, h3⟩ := hp
  refine ⟨a, cap, hv, h1, h2, fun k hk w' hb => ?_⟩
  rcases h3 with h3 | ⟨b, off, ha, hc⟩
  · subst h3; simp at hk
  · obtain ⟨aa, cc, hu, _⟩ := id (hc k hk).2
    have e1 := (hc k hk).1
    have e2 := (hc k hk).2
    rw [hu] at e1 e2
    exact ⟨b, off, aa, _, cc, _, ha, (hb.cell (World.block_lt_of_cell? w _ e1)).trans e1, e2.below hb, by simp [hk]⟩
/-- All lists together. -/
def lsum (ls : List (List Ent)) : Nat := (ls.map List.length).sum
theorem lsum_take {ls : List (List Ent)} {k : Nat} {l : List Ent} (h : ls[k]? = some l) : lsum (ls.take (k + 1)) = lsum (ls.take k) + l.length := by
  have hk : k < ls.length := (List.getElem?_eq_some_iff.1 h).1
  have hl : ls[k] = l := (List.getElem?_eq_some_iff.1 h).2
  unfold lsum
  rw [List.take_succ_eq_append_getElem hk, List.map_append, List.sum_append, hl]
  simp
set_option maxHeartbeats 1000000 in
set_option maxRecDepth 100000 in
theorem szEntry_at (x : Ent) (l : Int) (w : World) (hl0 : 0 ≤ l) (hl1 : l ≤ 1048576) (hk : x.key.size ≤ maxLen) (hv : x.val.size ≤ maxLen) :
    Calls Tryz.prog 51 #[.agg #[.string x.key, .string x.val, .int .i64 x.seq, .bool x.gone], .int .i64 l] w fun e w' => Below w.heap.size w w' ∧ ∃ z : Int, e = .returned (.int .i64 z) ∧ (z = -1 ∨ 0 ≤ z ∧ z ≤ l ∧ x.key.size ≤ 1048576 ∧ x.val.size ≤ 1048576) := by
  unfold maxLen at hk hv
  by_cases h1 : l - (x.key.size : Int) < 0
  · go_enter Tryz.func51, Tryz.ntmps51
    go_wp2
    go_ret
    exact ⟨below1 _ _, -1, rfl, .inl rfl⟩
  · by_cases h2 : l - (x.key.size : Int) - (x.val.size : Int) < 0
    · go_enter Tryz.func51, Tryz.ntmps51
      go_wp2
      go_ret
      exact ⟨below1 _ _, -1, rfl, .inl rfl⟩
    · go_enter Tryz.func51, Tryz.ntmps51
      go_wp2
      go_ret
      exact ⟨below1 _ _, _, rfl, .inr ⟨by omega, by omega, by omega, by omega⟩⟩
/-- What the measure of a slice of entries leaves. -/
def SzAt (w : World) (es : List Ent) (l : Int) (e : Ending) (w' : World) : Prop :=
  Below w.heap.size w w' ∧ ∃ z : Int, e = .returned (.int .i64 z) ∧ (z = -1 ∨ 0 ≤ z ∧ z + es.length ≤ l ∧ ∀ x ∈ es, x.key.size ≤ 1048576 ∧ x.val.size ≤ 1048576)
set_option maxHeartbeats 1000000 in
set_option maxRecDepth 100000 in
theorem szEnts_at (v : Value) (es : List Ent) (l : Int) (w : World) (hr : RdE w v es) (hsz : ∀ x ∈ es, x.key.size ≤ maxLen ∧ x.val.size ≤ maxLen) (hl0 : 0 ≤ l) (hl1 : l ≤ 1048576) :
    Calls Tryz.prog 23 #[v, .int .i64 l] w fun e w' => SzAt w es l e w' := by
  obtain ⟨a, cap, hv, hl, hm, _⟩ := id hr
  unfold maxLen at hm
  subst hv
  have HSZ : Hid (∀ x ∈ es, x.key.size ≤ maxLen ∧ x.val.size ≤ maxLen) := hsz
  clear hsz
  by_cases hbig : l < es.length
  · have hb2 : l - (es.length : Int) < 0 := by omega
    go_enter Tryz.func23, Tryz.ntmps23
    go_wp2
    go_ret
    exact ⟨Below.refl _ _, -1, rfl, .inl rfl⟩
  · have hb2 : ¬ l - (es.length : Int) < 0 := by omega
    go_enter Tryz.func23, Tryz.ntmps23
    go_wp2
    go_loopw [1, 5] (fun lv i wr => ∃ (k : Nat) (x : Int), k ≤ es.length ∧ i = .int .i64 k ∧ lv = .int .i64 x ∧ 0 ≤ x ∧ x ≤ l - (es.length : Int) ∧ Hid (∀ j, j < k → (nth es j).key.size ≤ 1048576 ∧ (nth es j).val.size ≤ 1048576) ∧ Below w.heap.size w wr) (fun _ i _ => es.length - (intOf i).toNat)
    case atStart => exact ⟨0, _, Nat.zero_le _, rfl, rfl, by omega, by omega, (fun j h => absurd h (Nat.not_lt_zero _)), Below.refl _ _⟩
    case round =>
      obtain ⟨k, x, hk, rfl, rfl, hx0, hx1, HJ, hb⟩ := hrel
      by_cases hlt : k < es.length
      · obtain ⟨b, off, rfl, hc⟩ := (hr.below hb).at rfl k hlt
        have hsk := HSZ.out _ (List.getElem_mem hlt)
        rw [← nth_eq hlt] at hsk
        obtain ⟨y, hy⟩ : ∃ y, y = nth es k := ⟨_, rfl⟩
        rw [← hy] at hc hsk
        have HY : Hid (y = nth es k) := hy
        clear hy
        obtain ⟨c0, c1, c2, c3⟩ := hc
        go_wp2_with fail
        refine (szEntry_at y x _ hx0 (by omega) hsk.1 hsk.2).mono ?_
        rintro e w1 ⟨hb1, z, rfl, hz⟩
        have bz := hb.trans (hb1.mono hb.size)
        rcases hz with hz | ⟨hz0, hz1, hz2, hz3⟩
        · subst hz
          go_wp2
          go_ret
          exact ⟨bz, -1, rfl, .inl rfl⟩
        · have HJ2 : Hid (∀ j, j < k + 1 → (nth es j).key.size ≤ 1048576 ∧ (nth es j).val.size ≤ 1048576) := by
            intro j hj
            by_cases hjk : j = k
            · subst hjk; rw [← HY.out]; exact ⟨hz2, hz3⟩
            · exact HJ.out j (by omega)
          clear hz2 hz3 hb hb1
          go_wp2
          go_roundw
          case rel => exact ⟨k + 1, _, by omega, by go_num, rfl, hz0, by omega, HJ2, bz⟩
          case measure => simp [intOf]; omega
      · have hke : k = es.length := by omega
        subst hke
        go_wp2
        go_ret
        refine ⟨hb, x, rfl, .inr ⟨hx0, by omega, fun s hs => ?_⟩⟩
        obtain ⟨j, hj, rfl⟩ := List.getElem_of_mem hs
        rw [← nth_eq hj]
        exact HJ.out j hj
/-- What the measure of a slice of slices leaves. -/
def SzLL (w : World) (ls : List (List Ent)) (e : Ending) (w' : World) : Prop :=
  Below w.heap.size w w' ∧ ∃ z : Int, e = .returned (.int .i64 z) ∧ (z = -1 ∨ 0 ≤ z ∧ z ≤ 1048576 ∧ ls.length ≤ 1048576 ∧ lsum ls ≤ 1048576 ∧ ∀ l ∈ ls, ∀ x ∈ l, x.key.size ≤ 1048576 ∧ x.val.size ≤ 1048576)
end Go.Proofs.YtjnhhdnfncfedaaGreat
