/- Plain facts on proofs: which are right, what is gathered of votes, and that a proof is right just where gathering its votes gives its servers. -/
import Derived.Test.YtckidhcknibceaaDoorPrfMa0
import Derived.Test.YtckidhcknibceaaDoorBlkVot
namespace Go.Proofs.YtckidhcknibceaaDoor
/-- Right votes, enough, of servers that rise. -/
def PrfV (p : Prf) (n : Int) : Prop := quoR n ≤ (p.sv.length : Int) ∧ p.sv.length = p.tg.length ∧ ∀ i, i < p.sv.length → vokR (vAt p i) n = true ∧ (0 < i → nI p.sv (i - 1) < nI p.sv i)
noncomputable instance (p : Prf) (n : Int) : Decidable (PrfV p n) := Classical.propDecidable _
noncomputable def prfR (p : Prf) (n : Int) : Bool := srvB n && (frsB p || (inV p.vw && (inN p.nm && decide (PrfV p n))))
/-- Has the server voted so? -/
def selB (l : List Vot) (vw nm : Int) (s : Nat) : Bool := inV vw && (inN nm && decide (vtd (s : Int) vw nm ∈ l))
def gIx (l : List Vot) (vw nm : Int) (k : Nat) : List Nat := (List.range k).filter (selB l vw nm)
def gPr (l : List Vot) (vw nm : Int) (k : Nat) : Prf := ⟨vw, nm, (gIx l vw nm k).map (fun s : Nat => (s : Int)), (gIx l vw nm k).map (fun s : Nat => (tagD (s : Int) (balS vw nm) : Int))⟩
theorem gPr_zero (l : List Vot) (vw nm : Int) : gPr l vw nm 0 = ⟨vw, nm, [], []⟩ := rfl
theorem gPr_yes {l : List Vot} {vw nm : Int} {k : Nat} (h : selB l vw nm k = true) : gPr l vw nm (k + 1) = ⟨vw, nm, (gPr l vw nm k).sv ++ [(k : Int)], (gPr l vw nm k).tg ++ [(tagD (k : Int) (balS vw nm) : Int)]⟩ := by
  have e : gIx l vw nm (k + 1) = gIx l vw nm k ++ [k] := by unfold gIx; rw [List.range_succ, List.filter_append]; simp [h]
  unfold gPr
  simp only
  rw [e, List.map_append, List.map_append]
  rfl
theorem gPr_no {l : List Vot} {vw nm : Int} {k : Nat} (h : selB l vw nm k = false) : gPr l vw nm (k + 1) = gPr l vw nm k := by
  have e : gIx l vw nm (k + 1) = gIx l vw nm k := by unfold gIx; rw [List.range_succ, List.filter_append]; simp [h]
  unfold gPr
  rw [e]
theorem gPr_len (l : List Vot) (vw nm : Int) (k : Nat) : (gPr l vw nm k).sv.length ≤ k ∧ (gPr l vw nm k).tg.length = (gPr l vw nm k).sv.length := by
  unfold gPr
  simp only [List.length_map, and_true]
  unfold gIx
  have := List.length_filter_le (selB l vw nm) (List.range k)
  rwa [List.length_range] at this
/-- What is gathered: none where it is no quorum. -/
def gatR (l : List Vot) (n : Int) : Option Prf :=
  if srvB n = true ∧ l ≠ [] ∧ quoR n ≤ ((gPr l (nthVo l 0).vw (nthVo l 0).nm n.toNat).sv.length : Int) then some (gPr l (nthVo l 0).vw (nthVo l 0).nm n.toNat) else none
theorem rise_extP : ∀ (a b : List Int), a.Pairwise (· < ·) → b.Pairwise (· < ·) → (∀ x, x ∈ a ↔ x ∈ b) → a = b
  | [], b, _, _, h => by
    cases b with
    | nil => rfl
    | cons y s => have := (h y).2 List.mem_cons_self; cases this
  | x :: r, [], _, _, h => by have := (h x).1 List.mem_cons_self; cases this
  | x :: r, y :: s, ha, hb, h => by
    rw [List.pairwise_cons] at ha hb
    have hxy : x = y := by
      have h1 := (h x).1 List.mem_cons_self
      have h2 := (h y).2 List.mem_cons_self
      rcases List.mem_cons.1 h1 with e | h1
      · exact e
      · rcases List.mem_cons.1 h2 with e | h2
        · exact e.symm
        · have := hb.1 x h1; have := ha.1 y h2; omega
    subst hxy
    rw [rise_extP r s ha.2 hb.2]
    intro z
    have := h z
    rw [List.mem_cons, List.mem_cons] at this
    constructor
    · intro hz
      rcases this.1 (.inr hz) with e | e
      · have := ha.1 z hz; omega
      · exact e
    · intro hz
      rcases this.2 (.inr hz) with e | e
      · have := hb.1 z hz; omega
      · exact e
theorem rise_pair {l : List Int} (h : ∀ i, i < l.length → 0 < i → nI l (i - 1) < nI l i) : l.Pairwise (· < ·) := by
  have key : ∀ d i, i + d + 1 < l.length → nI l i < nI l (i + d + 1) := by
    intro d
    induction d with
    | zero => intro i hi; have := h (i + 0 + 1) hi (by omega); simpa using this
    | succ d ih =>
      intro i hi
      have h1 := ih i (by omega)
      have h2 := h (i + (d + 1) + 1) hi (by omega)
      rw [show i + (d + 1) + 1 - 1 = i + d + 1 by omega] at h2
      omega
  rw [List.pairwise_iff_getElem]
  intro i j hi hj hij
  have := key (j - i - 1) i (by omega)
  rw [show i + (j - i - 1) + 1 = j by omega, nI_eq hi, nI_eq hj] at this
  exact this
theorem pair_rise {l : List Int} (h : l.Pairwise (· < ·)) {i : Nat} (hi : i < l.length) (h0 : 0 < i) : nI l (i - 1) < nI l i := by
  rw [nI_eq hi, nI_eq (show i - 1 < l.length by omega)]
  exact List.pairwise_iff_getElem.1 h (i - 1) i (by omega) hi (by omega)
theorem pair_inj {l : List Int} (h : l.Pairwise (· < ·)) {i j : Nat} (hi : i < l.length) (hj : j < l.length) (e : nI l i = nI l j) : i = j := by
  rw [nI_eq hi, nI_eq hj] at e
  have hp := List.pairwise_iff_getElem.1 h
  rcases Nat.lt_trichotomy i j with h1 | h1 | h1
  · have := hp i j hi hj h1; omega
  · exact h1
  · have := hp j i hj hi h1; omega
/-- Numbers that rise from 0 on and are below n are at most n. -/
theorem rise_few {l : List Int} {n : Nat} (h : l.Pairwise (· < ·)) (hb : ∀ x ∈ l, 0 ≤ x ∧ x < (n : Int)) : l.length ≤ n := by
  have key : ∀ i, i < l.length → (i : Int) ≤ nI l i := by
    intro i
    induction i with
    | zero => intro hi; rw [nI_eq hi]; exact (hb _ (List.getElem_mem hi)).1
    | succ i ih =>
      intro hi
      have h1 := ih (by omega)
      have h2 := pair_rise h hi (by omega)
      rw [show i + 1 - 1 = i by omega] at h2
      omega
  by_cases h0 : l.length = 0
  · omega
  · have h1 := key (l.length - 1) (by omega)
    rw [nI_eq (by omega)] at h1
    have h2 := (hb _ (List.getElem_mem (show l.length - 1 < l.length by omega))).2
    omega
theorem gPr_rise (l : List Vot) (vw nm : Int) (k : Nat) : (gPr l vw nm k).sv.Pairwise (· < ·) := by
  unfold gPr gIx
  simp only
  refine List.Pairwise.map _ (fun a b h => ?_) (List.Pairwise.filter _ List.pairwise_lt_range)
  exact Int.ofNat_lt.2 h
theorem gPr_mem (l : List Vot) (vw nm : Int) (k : Nat) (x : Int) : x ∈ (gPr l vw nm k).sv ↔ ∃ s : Nat, s < k ∧ selB l vw nm s = true ∧ x = (s : Int) := by
  unfold gPr gIx
  simp only [List.mem_map, List.mem_filter, List.mem_range]
  constructor
  · rintro ⟨s, ⟨h1, h2⟩, rfl⟩; exact ⟨s, h1, h2, rfl⟩
  · rintro ⟨s, h1, h2, rfl⟩; exact ⟨s, ⟨h1, h2⟩, rfl⟩
theorem vok_vtd {p : Prf} {n : Int} {i : Nat} (h : vokR (vAt p i) n = true) : (0 ≤ nI p.sv i ∧ nI p.sv i ≤ n - 1) ∧ vAt p i = vtd (nI p.sv i) p.vw p.nm := by
  unfold vokR at h
  simp only [Bool.and_eq_true, decide_eq_true_eq] at h
  obtain ⟨⟨⟨⟨_, h1⟩, _⟩, _⟩, h2⟩ := h
  refine ⟨h1, ?_⟩
  unfold vtd vAt
  unfold vAt at h2
  simp only at h2
  rw [h2]
theorem vtd_vok {s vw nm n : Int} (hn : srvB n = true) (h0 : 0 ≤ s) (h1 : s ≤ n - 1) (hv : inV vw = true) (hm : inN nm = true) : vokR (vtd s vw nm) n = true := by
  unfold vokR vtd
  simp only
  rw [hn, hv, hm]
  simp [h0, h1]
/-- A proof but the first one is right just where its votes gathered have its servers. -/
theorem prf_gat (p : Prf) (n : Int) : prfR p n = if frsB p = true then srvB n else (match gatR (votesR p) n with | none => false | some q => decide (q.sv = p.sv)) := by
  unfold prfR
  cases hf : frsB p with
  | true => simp
  | false =>
    simp only [Bool.false_or, Bool.false_eq_true, if_false]
    cases hs : srvB n with
    | false =>
      have : gatR (votesR p) n = none := by unfold gatR; rw [if_neg]; rintro ⟨h, _⟩; rw [hs] at h; cases h
      rw [this]; rfl
    | true =>
      obtain ⟨hq0, hq1, hn0, hn1⟩ := quoR_yes hs
      obtain ⟨N, rfl⟩ := Int.eq_ofNat_of_zero_le (show 0 ≤ n by omega)
      rw [Bool.true_and]
      by_cases hP : inV p.vw = true ∧ inN p.nm = true ∧ PrfV p N
      · obtain ⟨hv, hm, hp⟩ := hP
        rw [hv, hm, decide_eq_true hp]
        obtain ⟨hq, hl, ha⟩ := hp
        have hr : p.sv.Pairwise (· < ·) := rise_pair fun i hi h0 => (ha i hi).2 h0
        have hb : ∀ x ∈ p.sv, 0 ≤ x ∧ x < (N : Int) := by
          intro x hx
          obtain ⟨i, hi, rfl⟩ := List.getElem_of_mem hx
          have h1 := (vok_vtd (ha i hi).1).1
          rw [nI_eq hi] at h1
          omega
        have hf := rise_few hr hb
        have hlen : 0 < p.sv.length := by omega
        have hvR : votesR p = votesL p := by unfold votesR; rw [if_pos ⟨hl, by omega⟩]
        have hne : votesL p ≠ [] := fun e => by have := votesL_len p; rw [e] at this; simp at this; omega
        have hg : (gPr (votesL p) p.vw p.nm N).sv = p.sv := by
          refine rise_extP _ _ (gPr_rise _ _ _ _) hr fun x => ?_
          rw [gPr_mem]
          constructor
          · rintro ⟨s, h1, h2, rfl⟩
            unfold selB at h2
            simp only [Bool.and_eq_true, decide_eq_true_eq] at h2
            obtain ⟨i, hi, he⟩ := (votesL_mem p _).1 h2.2.2
            have h3 := congrArg Vot.sv he
            unfold vAt vtd at h3
            simp only at h3
            rw [← h3, nI_eq hi]
            exact List.getElem_mem hi
          · intro hx
            have hx2 := hb x hx
            obtain ⟨i, hi, rfl⟩ := List.getElem_of_mem hx
            refine ⟨(p.sv[i]).toNat, by omega, ?_, by omega⟩
            unfold selB
            rw [hv, hm]
            simp only [Bool.true_and, decide_eq_true_eq]
            rw [votesL_mem, Int.toNat_of_nonneg hx2.1]
            refine ⟨i, hi, ?_⟩
            have := (vok_vtd (ha i hi).1).2
            rwa [nI_eq hi] at this
        have : gatR (votesL p) N = some (gPr (votesL p) p.vw p.nm N) := by
          unfold gatR
          have e1 : (nthVo (votesL p) 0).vw = p.vw := by rw [votesL_hd hlen]; rfl
          have e2 : (nthVo (votesL p) 0).nm = p.nm := by rw [votesL_hd hlen]; rfl
          rw [e1, e2, Int.toNat_natCast, if_pos ⟨hs, hne, by rw [hg]; exact hq⟩]
        rw [hvR, this]
        simp [hg]
      · have hL : (inV p.vw && (inN p.nm && decide (PrfV p N))) = false := by
          cases hv : inV p.vw with
          | false => rfl
          | true =>
            cases hm : inN p.nm with
            | false => rfl
            | true => rw [decide_eq_false (fun hp => hP ⟨hv, hm, hp⟩)]; rfl
        rw [hL]
        symm
        cases hg : gatR (votesR p) N with
        | none => rfl
        | some q =>
          simp only
          refine decide_eq_false fun e => hP ?_
          unfold gatR at hg
          split at hg
          · rename_i hc
            obtain ⟨-, hne, hq⟩ := hc
            have hvR : votesR p = votesL p ∧ p.sv.length = p.tg.length := by
              unfold votesR at hne ⊢
              by_cases h : p.sv.length = p.tg.length ∧ p.sv.length ≤ 7
              · rw [if_pos h]; exact ⟨rfl, h.1⟩
              · rw [if_neg h] at hne; exact absurd rfl hne
            obtain ⟨hvR, hl⟩ := hvR
            rw [hvR] at hg hne hq
            have hlen : 0 < p.sv.length := by
              rw [← votesL_len p]; exact List.length_pos_iff.2 hne
            have e1 : (nthVo (votesL p) 0).vw = p.vw := by rw [votesL_hd hlen]; rfl
            have e2 : (nthVo (votesL p) 0).nm = p.nm := by rw [votesL_hd hlen]; rfl
            rw [e1, e2, Int.toNat_natCast] at hg hq
            have hqe : gPr (votesL p) p.vw p.nm N = q := Option.some.inj hg
            have hsv : (gPr (votesL p) p.vw p.nm N).sv = p.sv := by rw [hqe]; exact e
            have hq2 : quoR N ≤ (p.sv.length : Int) := by
              have : quoR N ≤ ((gPr (votesL p) p.vw p.nm N).sv.length : Int) := hq
              rwa [hsv] at this
            have hr : p.sv.Pairwise (· < ·) := by rw [← hsv]; exact gPr_rise _ _ _ _
            have each : ∀ i, i < p.sv.length → inV p.vw = true ∧ inN p.nm = true ∧ vokR (vAt p i) N = true := by
              intro i hi
              have hm : nI p.sv i ∈ (gPr (votesL p) p.vw p.nm N).sv := by rw [hsv, nI_eq hi]; exact List.getElem_mem hi
              obtain ⟨s, h1, h2, h3⟩ := (gPr_mem _ _ _ _ _).1 hm
              unfold selB at h2
              simp only [Bool.and_eq_true, decide_eq_true_eq] at h2
              obtain ⟨j, hj, he⟩ := (votesL_mem p _).1 h2.2.2
              have h4 := congrArg Vot.sv he
              unfold vAt vtd at h4
              simp only at h4
              have hij : j = i := pair_inj hr hj hi (by rw [h4, h3])
              subst hij
              refine ⟨h2.1, h2.2.1, ?_⟩
              rw [he]
              exact vtd_vok hs (by omega) (by omega) h2.1 h2.2.1
            exact ⟨(each 0 hlen).1, (each 0 hlen).2.1, hq2, hl, fun i hi => ⟨(each i hi).2.2, fun h0 => pair_rise hr hi h0⟩⟩
          · cases hg
end Go.Proofs.YtckidhcknibceaaDoor
