/- Both sides ask a Replica alike: plain; and the contract of the program's ReplicaOk. -/
import Derived.Test.YtilhaokiohbeeaaGreatDoorVtrOf
-- UNF Gen
namespace Go.Proofs.YtilhaokiohbeeaaGreatDoor
open Go.RowKit
theorem bls_at {bs : List Blk} {n : Int} : ∀ {m k : Nat}, blsB bs n m = true → k < m → mayB (bs.take k) n (bs.getD k ⟨0, 0, prfZ, [], 0⟩) = true
  | 0, k, _, hk => by omega
  | m + 1, k, h, hk => by
    rw [blsB, Bool.and_eq_true] at h
    by_cases e : k = m
    · subst e; exact h.2
    · exact bls_at h.1 (by omega)
/-- Of right Blocks, each has a Name of its own, its Parent is its Proof's Name, and its Proof is the first one or one of a Block ahead. -/
theorem bls_facts {bs : List Blk} {n : Int} (h : blsB bs n bs.length = true) {k : Nat} (hk : k < bs.length) : bs[k].pa = bs[k].p.nm ∧ (frsB bs[k].p = true ∨ ∃ j, ∃ hj : j < k, bs[j].vw = bs[k].p.vw ∧ namN bs[j] = bs[k].p.nm) ∧ ∀ j, (hj : j < k) → namN bs[j] ≠ namN bs[k] := by
  have hm := bls_at h hk
  have hg : bs.getD k ⟨0, 0, prfZ, [], 0⟩ = bs[k] := by simp [List.getD, List.getElem?_eq_getElem hk]
  rw [hg] at hm
  unfold mayB at hm
  simp only [Bool.and_eq_true, List.all_eq_true, decide_eq_true_eq] at hm
  obtain ⟨hb, hkn, hall⟩ := hm
  refine ⟨?_, ?_, fun j hj e => ?_⟩
  · unfold blkR at hb
    simp only [Bool.and_eq_true, decide_eq_true_eq] at hb
    exact hb.2.2.2.2.2.1
  · unfold knoB at hkn
    rw [Bool.or_eq_true] at hkn
    rcases hkn with h1 | h1
    · exact .inl h1
    · right
      obtain ⟨j, hj⟩ := Option.isSome_iff_exists.1 h1
      obtain ⟨hjl, h2, h3⟩ := fnd_spec hj
      rw [List.length_take] at hjl
      have hjk : j < k := by omega
      exact ⟨j, hjk, by rw [← h2, List.getElem_take], by rw [← h3, List.getElem_take]⟩
  · exact hall bs[j] (by rw [List.mem_take_iff_getElem]; exact ⟨j, by omega, rfl⟩) e
theorem bls_inj {bs : List Blk} {n : Int} (h : blsB bs n bs.length = true) {i j : Nat} (hi : i < bs.length) (hj : j < bs.length) (e : namN bs[i] = namN bs[j]) : i = j := by
  rcases Nat.lt_trichotomy i j with hij | hij | hij
  · exact absurd e ((bls_facts h hj).2.2 i hij)
  · exact hij
  · exact absurd e.symm ((bls_facts h hi).2.2 j hij)
theorem lst_none {bs : List Blk} {d pa vw : Int} : ∀ {n : Nat}, (∀ k, k < n → nxtB d pa vw (bs.getD k ⟨0, 0, prfZ, [], 0⟩) = false) → lstB bs d pa vw n = none
  | 0, _ => rfl
  | n + 1, h => by rw [lst_no (h n (by omega))]; exact lst_none (fun k hk => h k (by omega))
theorem lst_some {bs : List Blk} {d pa vw : Int} {j : Nat} (hj : nxtB d pa vw (bs.getD j ⟨0, 0, prfZ, [], 0⟩) = true) : ∀ {n : Nat}, j < n → (∀ k, k < n → j < k → nxtB d pa vw (bs.getD k ⟨0, 0, prfZ, [], 0⟩) = false) → lstB bs d pa vw n = some j
  | 0, h, _ => by omega
  | n + 1, h, ha => by
    by_cases e : j = n
    · subst e; exact lst_yes hj
    · rw [lst_no (ha n (by omega) (by omega))]
      exact lst_some hj (by omega) (fun k hk h2 => ha k (by omega) h2)
/-- Both ask what is Done alike. -/
theorem dn_same {bs : List Blk} {n : Int} (h : blsB bs n bs.length = true) : ∀ (dn : List Int) (pa vw : Int), (pa = 0 ∧ vw = 0 ∨ ∃ j, ∃ hj : j < bs.length, namN bs[j] = pa ∧ bs[j].vw = vw) → dnS bs dn pa vw = dnI bs dn pa
  | [], _, _, _ => rfl
  | d :: r, pa, vw, hp => by
    rw [dnI_step]
    unfold dnIStep
    cases hf : bs.findIdx? (fun b => decide (namN b = d)) with
    | none =>
      rw [List.findIdx?_eq_none_iff] at hf
      have hl : lstB bs d pa vw bs.length = none := lst_none (fun k hk => by
        have := hf bs[k] (List.getElem_mem hk)
        have hg : bs.getD k ⟨0, 0, prfZ, [], 0⟩ = bs[k] := by simp [List.getD, List.getElem?_eq_getElem hk]
        rw [hg]
        unfold nxtB
        rw [this]
        rfl)
      rw [dnS, hl]
    | some k =>
      rw [List.findIdx?_eq_some_iff_getElem] at hf
      obtain ⟨hk, hn, -⟩ := hf
      have hn : namN bs[k] = d := by simpa using hn
      have hg : ∀ i, (hi : i < bs.length) → bs.getD i ⟨0, 0, prfZ, [], 0⟩ = bs[i] := fun i hi => by simp [List.getD, List.getElem?_eq_getElem hi]
      simp only
      rw [hg k hk]
      obtain ⟨f1, f2, f3⟩ := bls_facts h hk
      have hother : ∀ i, (hi : i < bs.length) → i ≠ k → nxtB d pa vw bs[i] = false := fun i hi hne => by
        unfold nxtB
        have : decide (namN bs[i] = d) = false := decide_eq_false (fun e => hne (bls_inj h hi hk (e.trans hn.symm)))
        rw [this]; rfl
      by_cases hpa : bs[k].pa = pa
      · have hvw : bs[k].p.vw = vw := by
          rcases hp with ⟨rfl, rfl⟩ | ⟨j, hj, h1, h2⟩
          · rcases f2 with h4 | ⟨j, hj, h5, h6⟩
            · unfold frsB at h4
              simp only [Bool.and_eq_true, decide_eq_true_eq] at h4
              exact h4.1
            · have := (namN_in bs[j]).1
              omega
          · rcases f2 with h4 | ⟨i, hi, h5, h6⟩
            · unfold frsB at h4
              simp only [Bool.and_eq_true, decide_eq_true_eq] at h4
              have := (namN_in bs[j]).1
              omega
            · have hij : i = j := bls_inj h (by omega) hj (by rw [h6, h1, ← f1, hpa])
              subst hij
              rw [← h5, h2]
        have hx : nxtB d pa vw (bs.getD k ⟨0, 0, prfZ, [], 0⟩) = true := by rw [hg k hk]; unfold nxtB; simp [hn, hpa, hvw]
        have hl : lstB bs d pa vw bs.length = some k := lst_some hx hk (fun i hi hki => by rw [hg i hi]; exact hother i hi (by omega))
        rw [dnS, hl]
        simp only
        rw [hg k hk, dn_same h r d bs[k].vw (.inr ⟨k, hk, hn, rfl⟩), decide_eq_true hpa]
        rfl
      · have hl : lstB bs d pa vw bs.length = none := lst_none (fun i hi => by
          rw [hg i hi]
          by_cases e : i = k
          · subst e
            unfold nxtB
            rw [decide_eq_false hpa]
            simp
          · exact hother i hi e)
        rw [dnS, hl, decide_eq_false hpa]
        rfl
/-- Both sides ask a Replica alike. -/
theorem rep_same (X : Rep) : irepR X = repR X := by
  unfold irepR repR heaB
  rw [abl_bls]
  cases hb : blsB X.bs X.n X.bs.length with
  | false => simp
  | true =>
    rw [dn_same hb X.dn 0 0 (.inl ⟨rfl, rfl⟩)]
    cases numB X <;> cases prfR X.hi X.n <;> cases knoB X.bs X.hi <;> cases dnI X.bs X.dn 0 <;> cases decide (X.bs.length ≤ 60) <;> cases decide (X.vs.length ≤ 60) <;> cases decide (X.ns.length ≤ 30) <;> cases X.vs.all (fun x => vokR x X.n) <;> cases X.ns.all (newB X.n) <;> rfl
set_option maxHeartbeats 2000000 in
set_option maxRecDepth 100000 in
theorem implReplicaOk_any (X : RepX) (w : World) (hx : RdRep w X) (hf : FitRep X.rep) (hs : SmB X.bs) (hnil : ∀ M ∈ X.bs, NilOk M.vm) (hsum : X.hi.p.sv.length ≤ 1048576 ∧ X.hi.p.tg.length ≤ 1048576 ∧ X.dn.length ≤ 1048576) (ht : Tab w) :
    Calls Tryz.prog 15 #[.agg #[.int .i64 X.idn, .int .i64 X.n, .int .i64 X.vw, .int .i64 X.vo, .int .i64 X.lo, .int .i64 X.pr, .int .i64 X.hi.p.vw, .int .i64 X.hi.p.nm, X.hi.vs, X.hi.vt, X.vb, X.vv, X.vn, X.vd]] w fun e w' => e = .returned (.bool (repR X.rep)) ∧ Below w.heap.size w w' := by
  have b0 := below1 w (.cells #[.int .i64 X.idn, .int .i64 X.n, .int .i64 X.vw, .int .i64 X.vo, .int .i64 X.lo, .int .i64 X.pr, .int .i64 X.hi.p.vw, .int .i64 X.hi.p.nm, X.hi.vs, X.hi.vt, X.vb, X.vv, X.vn, X.vd] 31)
  obtain ⟨q0, q1, q2, q3, q4, q5, q6, q7, q8, q9, q10, q11, q12, q13⟩ := (bx_new w 31 #[.int .i64 X.idn, .int .i64 X.n, .int .i64 X.vw, .int .i64 X.vo, .int .i64 X.lo, .int .i64 X.pr, .int .i64 X.hi.p.vw, .int .i64 X.hi.p.nm, X.hi.vs, X.hi.vt, X.vb, X.vv, X.vn, X.vd]).c14
  obtain ⟨R, hR⟩ : ∃ R, irepR X.rep = R := ⟨_, rfl⟩
  have HV : Hid (∀ W, Below w.heap.size w W → Calls Tryz.prog 67 #[.agg #[.int .i64 X.idn, .int .i64 X.n, .int .i64 X.vw, .int .i64 X.vo, .int .i64 X.lo, .int .i64 X.pr, .int .i64 X.hi.p.vw, .int .i64 X.hi.p.nm, X.hi.vs, X.hi.vt, X.vb, X.vv, X.vn, X.vd]] W fun e w' => ∃ g, e = .returned (.tuple #[.pointer (some ⟨g, 0, none⟩), .bool R]) ∧ Below W.heap.size W w') := fun W hb => (voterOf_any X W (hx.below hb) hf hs hnil hsum (ht.on hb)).mono (by
    rintro e w' (⟨hr, ⟨g, he⟩, hbl⟩ | ⟨hr, g, V, he, ho, -⟩)
    · rw [hR] at hr
      exact ⟨g, by rw [he, hr], hbl⟩
    · rw [hR] at hr
      exact ⟨g, by rw [he, hr], ho.a.bel⟩)
  rw [← rep_same, hR]
  clear hx hf hs hnil hsum ht hR
  go_enter Tryz.func15, Tryz.ntmps15
  go_wp2_with fail
  refine (HV.out _ b0).mono ?_
  rintro e w2 ⟨g, rfl, hb2⟩
  have bz := b0.trans (hb2.mono b0.size)
  clear hb2 b0
  go_wp2
  go_ret
  exact ⟨rfl, bz⟩
end Go.Proofs.YtilhaokiohbeeaaGreatDoor
