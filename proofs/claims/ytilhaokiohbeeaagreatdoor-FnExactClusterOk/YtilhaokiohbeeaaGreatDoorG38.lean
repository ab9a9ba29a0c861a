/- The contracts of the library's look for a vote in a list, of its comparison of numbers, and of the program's votes of a proof. What Gathered leaves; plain facts on votes. The contract of the program's add: a vote's server and tag come to a proof's rows. -/
import Derived.Test.YtilhaokiohbeeaaGreatDoorG28
import Derived.Deep.RegionHeld3
import Derived.Test.YtilhaokiohbeeaaGreatDoorPrfVot
import Derived.Test.YtilhaokiohbeeaaGreatDoorG03
-- UNF Gen
namespace Go.Proofs.YtilhaokiohbeeaaGreatDoor
open Go.RowKit
set_option maxHeartbeats 4000000 in
set_option maxRecDepth 100000 in
theorem voIndex_any (v : Value) (es : List Vot) (x : Vot) (w : World) (hr : RdVo w v es) :
    Calls Tryz.prog 246 #[v, .agg #[.int .i64 x.vw, .int .i64 x.nm, .int .i64 x.sv, .int .i64 x.tg]] w fun e w' => Below w.heap.size w w' ∧ ∃ z : Int, e = .returned (.int .i64 z) ∧ decide (0 ≤ z) = decide (x ∈ es) := by
  obtain ⟨a, cap, hv, hl, hm, _⟩ := id hr
  unfold maxLen at hm
  subst hv
  obtain ⟨n, hn⟩ : ∃ n, n = es.length := ⟨_, rfl⟩
  have HN : Hid (n = es.length) := hn
  have hr1 : RdVo w (.slice a n cap) es := by rw [hn]; exact hr
  have HR : Hid (RdVo w (.slice a n cap) es) := hr1
  rw [← hn] at hl ⊢
  clear hr hn hr1
  have HX : Hid (BoxV (w.alloc (.cells (VC x) 36)) w.heap.size x) := boxV_new w x
  have HB0 : Hid (Below w.heap.size w (w.alloc (.cells (VC x) 36))) := below1 w _
  unfold VC at HX HB0
  obtain ⟨w1, hw1⟩ : ∃ w1, w1 = w.alloc (.cells #[.int .i64 x.vw, .int .i64 x.nm, .int .i64 x.sv, .int .i64 x.tg] 36) := ⟨_, rfl⟩
  rw [← hw1] at HX HB0
  go_enter Tryz.func246, Tryz.ntmps246
  go_wp2
  rw [← hw1]
  clear hw1
  go_loopw [8] (fun i wr => ∃ k : Nat, k ≤ n ∧ i = .int .i64 k ∧ Hid (∀ j, j < k → nthVo es j ≠ x) ∧ Hid (Below w1.heap.size w1 wr)) (fun i _ => n - (intOf i).toNat)
  case atStart => exact ⟨0, Nat.zero_le _, rfl, (fun j hj => by omega), Below.refl _ _⟩
  case round =>
    obtain ⟨k, hk, rfl, HO, HW⟩ := hrel
    by_cases hlt : k < n
    · have hke : k < es.length := by rw [← HN.out]; exact hlt
      obtain ⟨b, off, rfl, hc⟩ := (HR.out.below (HB0.out.trans (HW.out.mono HB0.out.size))).at HN.out k hke
      obtain ⟨y, hy⟩ : ∃ y, y = nthVo es k := ⟨_, rfl⟩
      rw [← hy] at hc
      have HY : Hid (y = nthVo es k) := hy
      have HC : Hid (VotAt wr b (off + k * 4) y) := hc
      have hk1 : (k : Int) < (n : Int) := by omega
      clear hy hc
      by_cases hx : y = x
      · have RES : Hid (x ∈ es) := by unfold Hid; rw [← hx, HY.out, nthVo_eq hke]; exact List.getElem_mem hke
        subst hx
        clear HY
        go_wp2_with fail
        refine wp_region_noPanic ?_
        refine wp_region_held_drew (S := fun w' => (w'.cell? ⟨w.heap.size, 0, none⟩ = some (.int .i64 y.vw) ∧ w'.cell? ⟨w.heap.size, 1, none⟩ = some (.int .i64 y.nm) ∧ w'.cell? ⟨w.heap.size, 2, none⟩ = some (.int .i64 y.sv) ∧ w'.cell? ⟨w.heap.size, 3, none⟩ = some (.int .i64 y.tg)) ∧ (w'.cell? ⟨b, off + k * 4, none⟩ = some (.int .i64 y.vw) ∧ w'.cell? ⟨b, off + k * 4 + 1, none⟩ = some (.int .i64 y.nm) ∧ w'.cell? ⟨b, off + k * 4 + 2, none⟩ = some (.int .i64 y.sv) ∧ w'.cell? ⟨b, off + k * 4 + 3, none⟩ = some (.int .i64 y.tg))) (by kernel_rfl) ⟨BoxV.facts (BoxV.below HX.out HW.out.drew), VotAt.below (w := wr) HC.out (Below.refl _ _).drew⟩ (fun h0 => ?_)
        refine tkG 0 11 h0 ?_
        try simp only [Act.put, List.setIfInBounds_toArray, List.set_cons_zero, List.set_cons_succ]
        refine tkG 1 12 h0 ?_
        try simp only [Act.put, List.setIfInBounds_toArray, List.set_cons_zero, List.set_cons_succ]
        refine tkG 2 13 h0 ?_
        try simp only [Act.put, List.setIfInBounds_toArray, List.set_cons_zero, List.set_cons_succ]
        refine tkG 3 14 h0 ?_
        try simp only [Act.put, List.setIfInBounds_toArray, List.set_cons_zero, List.set_cons_succ]
        refine tkG 4 15 h0 ?_
        try simp only [Act.put, List.setIfInBounds_toArray, List.set_cons_zero, List.set_cons_succ]
        refine tkG 5 16 h0 ?_ (v := .bool true) (hy := by intro w hS; (try dsimp only [Nat.zero_add] at hS); go_simp; skip)
        try simp only [Act.put, List.setIfInBounds_toArray, List.set_cons_zero, List.set_cons_succ]
        refine wpAnyH_done (by kernel_rfl) ?_ _
        refine NoPanic.normal ?_
        go_wp2
        go_ret
        exact ⟨HB0.out.trans (HW.out.drew.mono HB0.out.size), _, rfl, by rw [decide_eq_true (RES.out : _ ∈ es)]; exact decide_eq_true (by omega)⟩
      · have hne4 : ¬ (x.vw = y.vw ∧ x.nm = y.nm ∧ x.sv = y.sv ∧ x.tg = y.tg) := fun h => hx (by cases x; cases y; simp only at h; obtain ⟨a, b, c, d⟩ := h; subst a b c d; rfl)
        have HO2 : Hid (∀ j, j < k + 1 → nthVo es j ≠ x) := by
          intro j hj
          by_cases hjk : j = k
          · rw [hjk, ← HY.out]; exact hx
          · exact HO.out j (by omega)
        clear hx HY
        go_wp2_with fail
        refine wp_region_noPanic ?_
        refine wp_region_held_drew (S := fun w' => (w'.cell? ⟨w.heap.size, 0, none⟩ = some (.int .i64 x.vw) ∧ w'.cell? ⟨w.heap.size, 1, none⟩ = some (.int .i64 x.nm) ∧ w'.cell? ⟨w.heap.size, 2, none⟩ = some (.int .i64 x.sv) ∧ w'.cell? ⟨w.heap.size, 3, none⟩ = some (.int .i64 x.tg)) ∧ (w'.cell? ⟨b, off + k * 4, none⟩ = some (.int .i64 y.vw) ∧ w'.cell? ⟨b, off + k * 4 + 1, none⟩ = some (.int .i64 y.nm) ∧ w'.cell? ⟨b, off + k * 4 + 2, none⟩ = some (.int .i64 y.sv) ∧ w'.cell? ⟨b, off + k * 4 + 3, none⟩ = some (.int .i64 y.tg))) (by kernel_rfl) ⟨BoxV.facts (BoxV.below HX.out HW.out.drew), VotAt.below (w := wr) HC.out (Below.refl _ _).drew⟩ (fun h0 => ?_)
        refine tkG 0 11 h0 ?_
        try simp only [Act.put, List.setIfInBounds_toArray, List.set_cons_zero, List.set_cons_succ]
        refine tkG 1 12 h0 ?_
        try simp only [Act.put, List.setIfInBounds_toArray, List.set_cons_zero, List.set_cons_succ]
        refine tkG 2 13 h0 ?_
        try simp only [Act.put, List.setIfInBounds_toArray, List.set_cons_zero, List.set_cons_succ]
        refine tkG 3 14 h0 ?_
        try simp only [Act.put, List.setIfInBounds_toArray, List.set_cons_zero, List.set_cons_succ]
        refine tkG 4 15 h0 ?_
        try simp only [Act.put, List.setIfInBounds_toArray, List.set_cons_zero, List.set_cons_succ]
        refine tkG 5 16 h0 ?_ (v := .bool false) (hy := by intro w hS; (try dsimp only [Nat.zero_add] at hS); go_simp; by_cases a : x.vw = y.vw <;> by_cases b : x.nm = y.nm <;> by_cases c : x.sv = y.sv <;> by_cases d : x.tg = y.tg <;> (simp [a, b, c, d]; try exact hne4 ⟨a, b, c, d⟩))
        try simp only [Act.put, List.setIfInBounds_toArray, List.set_cons_zero, List.set_cons_succ]
        refine wpAnyH_done (by kernel_rfl) ?_ _
        refine NoPanic.normal ?_
        go_wp2
        go_roundw
        case rel => exact ⟨k + 1, by omega, by go_num, HO2, HW.out.drew⟩
        case measure => simp [intOf]; omega
    · have hke : k = n := by omega
      subst hke
      have RES : Hid (x ∉ es) := by
        unfold Hid
        intro hx
        obtain ⟨j, hj, he⟩ := List.getElem_of_mem hx
        exact HO.out j (by rw [HN.out]; exact hj) (by rw [nthVo_eq hj]; exact he)
      go_wp2
      go_ret
      exact ⟨HB0.out.trans (HW.out.mono HB0.out.size), _, rfl, by rw [decide_eq_false RES.out]; rfl⟩
set_option maxHeartbeats 1000000 in
set_option maxRecDepth 100000 in
theorem voContains_any (b : Bool) (v : Value) (es : List Vot) (x : Vot) (hb : decide (x ∈ es) = b) (w : World) (hr : RdVo w v es) :
    Calls Tryz.prog 228 #[v, .agg #[.int .i64 x.vw, .int .i64 x.nm, .int .i64 x.sv, .int .i64 x.tg]] w fun e w' => e = .returned (.bool b) ∧ Below w.heap.size w w' := by
  have HI : Hid (∀ W, RdVo W v es → Calls Tryz.prog 246 #[v, .agg #[.int .i64 x.vw, .int .i64 x.nm, .int .i64 x.sv, .int .i64 x.tg]] W fun e w' => Below W.heap.size W w' ∧ ∃ z : Int, e = .returned (.int .i64 z) ∧ decide (0 ≤ z) = b) := fun W h => by rw [← hb]; exact voIndex_any v es x W h
  have b0 := below1 w (.cells #[.int .i64 x.vw, .int .i64 x.nm, .int .i64 x.sv, .int .i64 x.tg] 36)
  have HR := hr.below b0
  obtain ⟨a, cap, hv, _⟩ := id hr
  subst hv
  clear hb hr
  go_enter Tryz.func228, Tryz.ntmps228
  go_wp2_with fail
  refine (HI.out _ HR).mono ?_
  rintro e w1 ⟨hb1, z, rfl, hz⟩
  have b1 := b0.trans (hb1.mono b0.size)
  have HZ : Hid (decide (0 ≤ z) = b) := hz
  clear b0 hb1 HR hz
  go_wp2
  go_ret
  exact ⟨ret_bool HZ.out, b1⟩
set_option maxHeartbeats 1000000 in
set_option maxRecDepth 100000 in
theorem equalI_any (b : Bool) (va vb : Value) (xs ys : List Int) (hb : decide (xs = ys) = b) (w : World) (ha : RdI w va xs) (hb2 : RdI w vb ys) :
    Calls Tryz.prog 226 #[va, vb] w fun e w' => e = .returned (.bool b) ∧ Below w.heap.size w w' := by
  have HBB : Hid (decide (xs = ys) = b) := hb
  obtain ⟨aa, ca, hva, hla, hma, _⟩ := id ha
  obtain ⟨ab, cb, hvb, hlb, hmb, _⟩ := id hb2
  unfold maxLen at hma hmb
  obtain ⟨n, hn⟩ : ∃ n, n = xs.length := ⟨_, rfl⟩
  obtain ⟨m, hm⟩ : ∃ m, m = ys.length := ⟨_, rfl⟩
  have HN : Hid (n = xs.length) := hn
  have HM : Hid (m = ys.length) := hm
  rw [← hn] at hva hla
  rw [← hm] at hvb hlb
  subst hva hvb
  have HA : Hid (RdI w (.slice aa n ca) xs) := ha
  have HC : Hid (RdI w (.slice ab m cb) ys) := hb2
  clear ha hb2 hn hm hb
  by_cases hnm : n = m
  · subst hnm
    have hne : ((n : Int) != (n : Int)) = false := by simp
    go_enter Tryz.func226, Tryz.ntmps226
    go_wp2
    go_loopw [13] (fun i wr => ∃ k : Nat, k ≤ n ∧ i = .int .i64 k ∧ Hid (∀ j, j < k → nI xs j = nI ys j) ∧ Hid (Drew w wr)) (fun i _ => n - (intOf i).toNat)
    case atStart => exact ⟨0, Nat.zero_le _, rfl, (fun j hj => by omega), drew_refl w⟩
    case round =>
      obtain ⟨k, hk, rfl, HO, HW⟩ := hrel
      by_cases hlt : k < n
      · obtain ⟨b1, o1, rfl, c1⟩ := HA.out.at k (by rw [← HN.out]; exact hlt)
        obtain ⟨b2, o2, rfl, c2⟩ := HC.out.at k (by rw [← HM.out]; exact hlt)
        rw [← nI_eq] at c1 c2
        rw [← HW.out.cell] at c1 c2
        have hk1 : (k : Int) < (n : Int) := by omega
        by_cases he : nI xs k = nI ys k
        · have HO2 : Hid (∀ j, j < k + 1 → nI xs j = nI ys j) := by
            intro j hj
            by_cases hjk : j = k
            · rw [hjk]; exact he
            · exact HO.out j (by omega)
          rw [he] at c1
          generalize nI ys k = y at c1 c2
          have hd : (y != y) = false := by simp
          clear he
          go_wp2
          go_quiet (fail)
          go_wp2
          go_roundw
          case rel => exact ⟨k + 1, by omega, by go_num, HO2, HW.out.on _⟩
          case measure => simp [intOf]; omega
        · have RES : Hid (b = false) := by unfold Hid; rw [← HBB.out]; exact decide_eq_false (fun e => he (by rw [e]))
          have hd : (nI xs k != nI ys k) = true := by simp [he]
          generalize nI xs k = x at c1 hd
          generalize nI ys k = y at c2 hd
          clear he
          go_wp2
          go_quiet (fail)
          go_wp2
          go_ret
          exact ⟨ret_bool RES.out.symm, (HW.out.on _).below⟩
      · have hke : k = n := by omega
        subst hke
        have RES : Hid (b = true) := by
          unfold Hid
          rw [← HBB.out]
          refine decide_eq_true (List.ext_getElem (by rw [← HN.out, ← HM.out]) fun j h1 h2 => ?_)
          have := HO.out j (by rw [HN.out]; exact h1)
          rwa [nI_eq h1, nI_eq h2] at this
        go_wp2
        go_ret
        exact ⟨ret_bool RES.out.symm, HW.out.below⟩
  · have hne : ((n : Int) != (m : Int)) = true := by simp; omega
    have RES : Hid (b = false) := by unfold Hid; rw [← HBB.out]; exact decide_eq_false (fun e => hnm (by rw [HN.out, HM.out, e]))
    clear hnm
    go_enter Tryz.func226, Tryz.ntmps226
    go_wp2
    go_ret
    exact ⟨ret_bool RES.out.symm, Below.refl _ _⟩
end Go.Proofs.YtilhaokiohbeeaaGreatDoor
-- UNF Gen
namespace Go.Proofs.YtilhaokiohbeeaaGreatDoor
open Go.RowKit
/-- What Gathered leaves: a proof in memory of its own, and whether there is one. -/
def GatP (w : World) (R : Option Prf) (e : Ending) (w' : World) : Prop :=
  ∃ X : PrX, e = .returned (.tuple #[.agg #[.int .i64 X.p.vw, .int .i64 X.p.nm, X.vs, X.vt], .bool R.isSome]) ∧ X.p = R.getD prfZ ∧ OwnPr w' w.heap.size X ∧ Below w.heap.size w w'
theorem tagD_lt (s : Int) (t : ByteArray) : tagD s t < 2147483647 := by
  rw [tagD_eq]
  exact dig_lt _ _ (dig_lt _ _ (dig_lt _ _ (dig_lt _ _ (by omega))))
theorem fit_votR (s v n : Int) : FitVo (votR s v n) := by
  unfold votR
  split
  · rename_i h
    simp only [Bool.and_eq_true, decide_eq_true_eq] at h
    obtain ⟨⟨h1, h2⟩, h3⟩ := h
    unfold inV at h2
    unfold inN at h3
    simp only [decide_eq_true_eq] at h2 h3
    have ht := tagD_lt s (balS v n)
    refine ⟨?_, ?_, ?_, ?_⟩ <;> (unfold vtd; simp only; omega)
  · exact ⟨by decide, by decide, by decide, by decide⟩
theorem vok_votR {s v n : Int} {m : Int} (h : vokR (votR s v n) m = true) : votR s v n = vtd s v n ∧ inV v = true ∧ inN n = true := by
  unfold votR at h ⊢
  by_cases hc : (decide (0 ≤ s ∧ s ≤ 6) && inV v && inN n) = true
  · rw [if_pos hc]
    simp only [Bool.and_eq_true] at hc
    exact ⟨rfl, hc.1.2, hc.2⟩
  · rw [if_neg hc] at h
    exfalso
    unfold vokR votZ at h
    simp only [Bool.and_eq_true] at h
    have := h.1.1.2
    revert this
    decide
/-- A server has voted so just where its vote is right and among those. -/
theorem sel_votR (l : List Vot) (vw nm : Int) {n : Int} {k : Nat} (hs : srvB n = true) (hk : (k : Int) < n) : (vokR (votR k vw nm) n && decide (votR k vw nm ∈ l)) = selB l vw nm k := by
  have hq := quoR_yes hs
  unfold selB
  cases hv : inV vw with
  | false =>
    cases h : vokR (votR k vw nm) n with
    | false => rfl
    | true => have := (vok_votR h).2.1; rw [hv] at this; cases this
  | true =>
    cases hm : inN nm with
    | false =>
      cases h : vokR (votR k vw nm) n with
      | false => rfl
      | true => have := (vok_votR h).2.2; rw [hm] at this; cases this
    | true =>
      have e : votR k vw nm = vtd k vw nm := by
        unfold votR
        rw [hv, hm, decide_eq_true (show (0 : Int) ≤ (k : Int) ∧ (k : Int) ≤ 6 by omega)]
        rfl
      rw [e, vtd_vok hs (by omega) (by omega) hv hm]
      rfl
theorem ownI_lenX {w : World} {B : Nat} {a : Option Addr} {n c : Nat} {ns : List Int} (h : OwnI w B (.slice a n c) ns) : n = ns.length := by
  obtain ⟨_, _, hx, _⟩ := h.rd
  simp only [Value.slice.injEq] at hx
  exact hx.2.1
theorem GatP.no {w w' : World} {R : Option Prf} (h : R = none) (hb : Below w.heap.size w w') : GatP w R (.returned (.tuple #[.agg #[.int .i64 0, .int .i64 0, .slice none 0 0, .slice none 0 0], .bool false])) w' := by
  subst h
  exact ⟨prxZ, rfl, rfl, ownPr_zero _ _ 0 0, hb⟩
end Go.Proofs.YtilhaokiohbeeaaGreatDoor
-- UNF Gen
namespace Go.Proofs.YtilhaokiohbeeaaGreatDoor
open Go.RowKit
/-- What add leaves. -/
def AddP (w0 : World) (g : Nat) (p : Prf) (x : Vot) (e : Ending) (w' : World) : Prop :=
  ∃ X : PrX, e = .returned (.tuple #[]) ∧ PrBx w0 w' g #[.int .i64 X.p.vw, .int .i64 X.p.nm, X.vs, X.vt] X ∧ X.p = ⟨p.vw, p.nm, p.sv ++ [x.sv], p.tg ++ [x.tg]⟩
set_option maxHeartbeats 4000000 in
set_option maxRecDepth 100000 in
theorem add_at (w0 w : World) (g : Nat) (vw nm : Int) (sv tg : List Int) (a b : Option Addr) (n c m d : Nat) (x : Vot) (L : PrBx w0 w g #[.int .i64 vw, .int .i64 nm, .slice a n c, .slice b m d] ⟨⟨vw, nm, sv, tg⟩, .slice a n c, .slice b m d⟩) (hl : sv.length ≤ 1000) (hl2 : tg.length ≤ 1000) :
    Calls Tryz.prog 245 #[.pointer (some ⟨g, 0, none⟩), .agg #[.int .i64 x.vw, .int .i64 x.nm, .int .i64 x.sv, .int .i64 x.tg]] w fun e w' => AddP w0 g ⟨vw, nm, sv, tg⟩ x e w' := by
  have HL : Hid (sv.length ≤ 1000 ∧ tg.length ≤ 1000) := ⟨hl, hl2⟩
  clear hl hl2
  have hx : BoxV (w.alloc (.cells (VC x) 36)) w.heap.size x := boxV_new w x
  replace L := L.below (below1 w (.cells (VC x) 36))
  unfold VC at L
  obtain ⟨hv, hhv⟩ : ∃ hv, hv = w.heap.size := ⟨_, rfl⟩
  rw [← hhv] at hx
  go_enter Tryz.func245, Tryz.ntmps245
  go_wp2_with fail
  rw [← hhv]
  revert hx
  revert L
  unfold VC
  generalize w.alloc (.cells #[.int .i64 x.vw, .int .i64 x.nm, .int .i64 x.sv, .int .i64 x.tg] 36) = W1
  intro L hx
  clear hhv w
  refine wp_region_noPanic ?_
  refine wp_region_held_drew (S := fun w' : World => w'.cell? ⟨hv, 2, none⟩ = some (.int .i64 x.sv)) (by kernel_rfl) hx.facts.2.2.1 (fun hS => ?_)
  replace L := L.drew
  replace hx : BoxV W1.drew hv x := hx
  refine tkG 0 4 hS ?_
  try simp only [Act.put, List.setIfInBounds_toArray, List.set_cons_zero, List.set_cons_succ]
  refine tkG 1 5 hS ?_
  try simp only [Act.put, List.setIfInBounds_toArray, List.set_cons_zero, List.set_cons_succ]
  refine tkG 2 6 hS ?_
  try simp only [Act.put, List.setIfInBounds_toArray, List.set_cons_zero, List.set_cons_succ]
  refine tkG 3 7 hS ?_
  try simp only [Act.put, List.setIfInBounds_toArray, List.set_cons_zero, List.set_cons_succ]
  refine tkG 5 9 hS ?_
  try simp only [Act.put, List.setIfInBounds_toArray, List.set_cons_zero, List.set_cons_succ]
  refine tkG 6 10 hS ?_
  try simp only [Act.put, List.setIfInBounds_toArray, List.set_cons_zero, List.set_cons_succ]
  revert hS
  revert hx
  revert L
  generalize W1.drew = V
  intro L hx hS
  refine wpAnyH_ready (rs := [4, 7]) (by kernel_rfl) (by simp) ?_
  refine AllReadyH.cons rfl (fun K hK => ?_) ?_
  have c := L.box.cell 2 rfl
  go_simp
  clear c hS
  refine hK.out _ _ hx.facts.2.2.1 (fun hS => ?_)
  clear hK K
  try simp only [List.setIfInBounds_toArray, List.set_cons_zero, List.set_cons_succ]
  clear hS
  refine listed_asX (l' := #[true, true, true, true, true, true, true, false, false, false, false, false]) (by kernel_rfl) ?_
  revert hx
  revert L
  revert V
  refine ?ad4
  rotate_left 1
  refine AllReadyH.cons rfl (fun K hK => ?_) AllReadyH.nil
  refine step_objX rfl 11 rfl (.cells #[.int .i64 x.sv] 2) (.slice (some ⟨V.heap.size, 0, none⟩) 1 1) (by go_simp; (try rfl)) ?_
  have hrow := rdI_one V x.sv
  replace L := L.below (below1 V (.cells #[.int .i64 x.sv] 2))
  replace hx := hx.below (below1 V (.cells #[.int .i64 x.sv] 2))
  clear hS
  refine hK.out _ _ hx.facts.2.2.1 (fun hS => ?_)
  clear hK K
  try simp only [List.setIfInBounds_toArray, List.set_cons_zero, List.set_cons_succ]
  revert hS
  revert hx
  revert hrow
  revert L
  generalize V.alloc (.cells #[.int .i64 x.sv] 2) = V1
  generalize V.heap.size = rb
  intro L hrow hx hS
  clear hS
  refine listed_asX (l' := #[true, true, true, true, false, true, true, true, false, false, false, false]) (by kernel_rfl) ?_
  revert hrow
  revert hx
  revert L
  revert rb
  revert V1
  clear V
  refine ?ad7
  rotate_left 1
  intro V0 L hx
  have hS : (fun w' : World => w'.cell? ⟨hv, 2, none⟩ = some (.int .i64 x.sv)) V0 := hx.facts.2.2.1
  refine wpAnyH_ready (rs := [7]) (by kernel_rfl) (by simp) ?_
  refine AllReadyH.cons rfl (fun K hK => ?_) AllReadyH.nil
  refine step_objX rfl 11 rfl (.cells #[.int .i64 x.sv] 2) (.slice (some ⟨V0.heap.size, 0, none⟩) 1 1) (by go_simp; (try rfl)) ?_
  have hrow := rdI_one V0 x.sv
  replace L := L.below (below1 V0 (.cells #[.int .i64 x.sv] 2))
  replace hx := hx.below (below1 V0 (.cells #[.int .i64 x.sv] 2))
  clear hS
  refine hK.out _ _ hx.facts.2.2.1 (fun hS => ?_)
  clear hK K
  try simp only [List.setIfInBounds_toArray, List.set_cons_zero, List.set_cons_succ]
  revert hS
  revert hx
  revert hrow
  revert L
  generalize V0.alloc (.cells #[.int .i64 x.sv] 2) = V1
  generalize V0.heap.size = rb
  intro L hrow hx hS
  clear hS
  refine listed_asX (l' := #[true, true, true, true, true, true, true, true, false, false, false, false]) (by kernel_rfl) ?_
  revert hrow
  revert hx
  revert L
  revert rb
  revert V1
  clear V0
  refine ?ad47
  rotate_left 1
  intro V0 rb L hx hrow
  have hS : (fun w' : World => w'.cell? ⟨hv, 2, none⟩ = some (.int .i64 x.sv)) V0 := hx.facts.2.2.1
  refine wpAnyH_ready (rs := [4]) (by kernel_rfl) (by simp) ?_
  refine AllReadyH.cons rfl (fun K hK => ?_) AllReadyH.nil
  have c := L.box.cell 2 rfl
  go_simp
  clear c hS
  refine hK.out _ _ hx.facts.2.2.1 (fun hS => ?_)
  clear hK K
  try simp only [List.setIfInBounds_toArray, List.set_cons_zero, List.set_cons_succ]
  clear hS
  refine listed_asX (l' := #[true, true, true, true, true, true, true, true, false, false, false, false]) (by kernel_rfl) ?_
  revert hrow
  revert hx
  revert L
  revert rb
  revert V0
  exact ?ad47
  intro V0 rb L hx hrow
  have hS : (fun w' : World => w'.cell? ⟨hv, 2, none⟩ = some (.int .i64 x.sv)) V0 := hx.facts.2.2.1
  refine wpAnyH_ready (rs := [8]) (by kernel_rfl) (by simp) ?_
  refine AllReadyH.cons rfl (fun K hK => ?_) AllReadyH.nil
  refine step_intsX rfl 12 rfl _ _ rfl w0.heap.size (.slice a n c) (.slice (some ⟨rb, 0, none⟩) 1 1) sv [x.sv] rfl rfl L.own.sv hrow (by have := HL.out; simp; omega) L.bel.size ?_
  intro vz V1 hoz hgz haz
  have hx1 : BoxV V1 hv x := (hgz.block hv hx.lt (fun e => Bx.row (cs := VC x) hx L.own.sv (by decide) hv e.symm rfl)).trans hx
  replace L := L.app hoz hgz haz
  obtain ⟨za, zc, hvz⟩ := ownSlX hoz
  clear hoz hgz haz hrow hS hx
  have hx := hx1
  clear hx1
  generalize (sv ++ [x.sv]).length = zn at hvz
  subst hvz
  refine hK.out _ _ hx.facts.2.2.1 (fun hS => ?_)
  clear hK K
  try simp only [List.setIfInBounds_toArray, List.set_cons_zero, List.set_cons_succ]
  refine tkG 9 13 hS ?_
  try simp only [Act.put, List.setIfInBounds_toArray, List.set_cons_zero, List.set_cons_succ]
  refine tkG 10 14 hS ?_
  try simp only [Act.put, List.setIfInBounds_toArray, List.set_cons_zero, List.set_cons_succ]
  clear hS
  refine listed_asX (l' := #[true, true, true, true, true, true, true, true, true, true, true, false]) (by kernel_rfl) ?_
  revert hx
  revert L
  revert zc
  revert zn
  revert za
  revert V1
  clear V0
  refine ?ad478
  rotate_left 1
  intro V0 za zn zc L hx
  have hS : (fun w' : World => w'.cell? ⟨hv, 2, none⟩ = some (.int .i64 x.sv)) V0 := hx.facts.2.2.1
  refine wpAnyH_ready (rs := [11]) (by kernel_rfl) (by simp) ?_
  refine AllReadyH.cons rfl (fun K hK => ?_) AllReadyH.nil
  have c := L.box.cell 2 rfl
  have f := L.box.fz 2
  have L2 := L.set 2 (.slice za zn zc)
  have hx2 : BoxV (V0.setCell ⟨g, 2, none⟩ (.slice za zn zc)) hv x := Bx.other (cs := VC x) hx (fun e => by have h1 := L.box; rw [← e] at h1; unfold Bx at h1; rw [show V0.heap[hv]? = _ from hx] at h1; injection h1 with h1; injection h1 with _ h2; exact absurd h2 (by decide))
  simp only [List.setIfInBounds_toArray, List.set_cons_zero, List.set_cons_succ] at L2
  go_simp
  clear c f L hS hx
  have L := L2
  have hx := hx2
  clear L2 hx2
  refine hK.out _ _ hx.facts.2.2.1 (fun hS => ?_)
  clear hK K
  try simp only [List.setIfInBounds_toArray, List.set_cons_zero, List.set_cons_succ]
  revert hS
  revert hx
  revert L
  generalize V0.setCell ⟨g, 2, none⟩ (.slice za zn zc) = V1
  intro L hx hS
  clear hS
  refine listed_asX (l' := #[true, true, true, true, true, true, true, true, true, true, true, true]) (by kernel_rfl) ?_
  revert hx
  revert L
  revert zc
  revert zn
  revert za
  revert V1
  clear V0
  refine ?ad47811
  rotate_left 1
  intro V0 za zn zc L hx
  have hS : (fun w' : World => w'.cell? ⟨hv, 2, none⟩ = some (.int .i64 x.sv)) V0 := hx.facts.2.2.1
  refine wpAnyH_done (by kernel_rfl) ?_ _
  refine NoPanic.normal ?_
  clear hS
  go_wp2_with fail
  refine wp_region_noPanic ?_
  refine wp_region_held_drew (S := fun w' : World => w'.cell? ⟨hv, 3, none⟩ = some (.int .i64 x.tg)) (by kernel_rfl) hx.facts.2.2.2 (fun hS => ?_)
  replace L := L.drew
  replace hx : BoxV V0.drew hv x := hx
  refine tkG 0 15 hS ?_
  try simp only [Act.put, List.setIfInBounds_toArray, List.set_cons_zero, List.set_cons_succ]
  refine tkG 1 16 hS ?_
  try simp only [Act.put, List.setIfInBounds_toArray, List.set_cons_zero, List.set_cons_succ]
  refine tkG 2 17 hS ?_
  try simp only [Act.put, List.setIfInBounds_toArray, List.set_cons_zero, List.set_cons_succ]
  refine tkG 3 18 hS ?_
  try simp only [Act.put, List.setIfInBounds_toArray, List.set_cons_zero, List.set_cons_succ]
  refine tkG 5 20 hS ?_
  try simp only [Act.put, List.setIfInBounds_toArray, List.set_cons_zero, List.set_cons_succ]
  refine tkG 6 21 hS ?_
  try simp only [Act.put, List.setIfInBounds_toArray, List.set_cons_zero, List.set_cons_succ]
  revert hS
  revert hx
  revert L
  generalize V0.drew = V
  intro L hx hS
  refine wpAnyH_ready (rs := [4, 7]) (by kernel_rfl) (by simp) ?_
  refine AllReadyH.cons rfl (fun K hK => ?_) ?_
  have c := L.box.cell 3 rfl
  go_simp
  clear c hS
  refine hK.out _ _ hx.facts.2.2.2 (fun hS => ?_)
  clear hK K
  try simp only [List.setIfInBounds_toArray, List.set_cons_zero, List.set_cons_succ]
  clear hS
  refine listed_asX (l' := #[true, true, true, true, true, true, true, false, false, false, false, false]) (by kernel_rfl) ?_
  revert hx
  revert L
  revert V
  refine ?ae4
  rotate_left 1
  refine AllReadyH.cons rfl (fun K hK => ?_) AllReadyH.nil
  refine step_objX rfl 22 rfl (.cells #[.int .i64 x.tg] 2) (.slice (some ⟨V.heap.size, 0, none⟩) 1 1) (by go_simp; (try rfl)) ?_
  have hrow := rdI_one V x.tg
  replace L := L.below (below1 V (.cells #[.int .i64 x.tg] 2))
  replace hx := hx.below (below1 V (.cells #[.int .i64 x.tg] 2))
  clear hS
  refine hK.out _ _ hx.facts.2.2.2 (fun hS => ?_)
  clear hK K
  try simp only [List.setIfInBounds_toArray, List.set_cons_zero, List.set_cons_succ]
  revert hS
  revert hx
  revert hrow
  revert L
  generalize V.alloc (.cells #[.int .i64 x.tg] 2) = V1
  generalize V.heap.size = rb
  intro L hrow hx hS
  clear hS
  refine listed_asX (l' := #[true, true, true, true, false, true, true, true, false, false, false, false]) (by kernel_rfl) ?_
  revert hrow
  revert hx
  revert L
  revert rb
  revert V1
  clear V
  refine ?ae7
  rotate_left 1
  intro V0 L hx
  have hS : (fun w' : World => w'.cell? ⟨hv, 3, none⟩ = some (.int .i64 x.tg)) V0 := hx.facts.2.2.2
  refine wpAnyH_ready (rs := [7]) (by kernel_rfl) (by simp) ?_
  refine AllReadyH.cons rfl (fun K hK => ?_) AllReadyH.nil
  refine step_objX rfl 22 rfl (.cells #[.int .i64 x.tg] 2) (.slice (some ⟨V0.heap.size, 0, none⟩) 1 1) (by go_simp; (try rfl)) ?_
  have hrow := rdI_one V0 x.tg
  replace L := L.below (below1 V0 (.cells #[.int .i64 x.tg] 2))
  replace hx := hx.below (below1 V0 (.cells #[.int .i64 x.tg] 2))
  clear hS
  refine hK.out _ _ hx.facts.2.2.2 (fun hS => ?_)
  clear hK K
  try simp only [List.setIfInBounds_toArray, List.set_cons_zero, List.set_cons_succ]
  revert hS
  revert hx
  revert hrow
  revert L
  generalize V0.alloc (.cells #[.int .i64 x.tg] 2) = V1
  generalize V0.heap.size = rb
  intro L hrow hx hS
  clear hS
  refine listed_asX (l' := #[true, true, true, true, true, true, true, true, false, false, false, false]) (by kernel_rfl) ?_
  revert hrow
  revert hx
  revert L
  revert rb
  revert V1
  clear V0
  refine ?ae47
  rotate_left 1
  intro V0 rb L hx hrow
  have hS : (fun w' : World => w'.cell? ⟨hv, 3, none⟩ = some (.int .i64 x.tg)) V0 := hx.facts.2.2.2
  refine wpAnyH_ready (rs := [4]) (by kernel_rfl) (by simp) ?_
  refine AllReadyH.cons rfl (fun K hK => ?_) AllReadyH.nil
  have c := L.box.cell 3 rfl
  go_simp
  clear c hS
  refine hK.out _ _ hx.facts.2.2.2 (fun hS => ?_)
  clear hK K
  try simp only [List.setIfInBounds_toArray, List.set_cons_zero, List.set_cons_succ]
  clear hS
  refine listed_asX (l' := #[true, true, true, true, true, true, true, true, false, false, false, false]) (by kernel_rfl) ?_
  revert hrow
  revert hx
  revert L
  revert rb
  revert V0
  exact ?ae47
  intro V0 rb L hx hrow
  have hS : (fun w' : World => w'.cell? ⟨hv, 3, none⟩ = some (.int .i64 x.tg)) V0 := hx.facts.2.2.2
  refine wpAnyH_ready (rs := [8]) (by kernel_rfl) (by simp) ?_
  refine AllReadyH.cons rfl (fun K hK => ?_) AllReadyH.nil
  refine step_intsX rfl 23 rfl _ _ rfl w0.heap.size (.slice b m d) (.slice (some ⟨rb, 0, none⟩) 1 1) tg [x.tg] rfl rfl L.own.tg hrow (by have := HL.out; simp; omega) L.bel.size ?_
  intro vz V1 hoz hgz haz
  have hx1 : BoxV V1 hv x := (hgz.block hv hx.lt (fun e => Bx.row (cs := VC x) hx L.own.tg (by decide) hv e.symm rfl)).trans hx
  replace L := L.apt hoz hgz haz
  obtain ⟨ya, yc, hvz⟩ := ownSlX hoz
  clear hoz hgz haz hrow hS hx
  have hx := hx1
  clear hx1
  generalize (tg ++ [x.tg]).length = yn at hvz
  subst hvz
  refine hK.out _ _ hx.facts.2.2.2 (fun hS => ?_)
  clear hK K
  try simp only [List.setIfInBounds_toArray, List.set_cons_zero, List.set_cons_succ]
  refine tkG 9 24 hS ?_
  try simp only [Act.put, List.setIfInBounds_toArray, List.set_cons_zero, List.set_cons_succ]
  refine tkG 10 25 hS ?_
  try simp only [Act.put, List.setIfInBounds_toArray, List.set_cons_zero, List.set_cons_succ]
  clear hS
  refine listed_asX (l' := #[true, true, true, true, true, true, true, true, true, true, true, false]) (by kernel_rfl) ?_
  revert hx
  revert L
  revert yc
  revert yn
  revert ya
  revert V1
  clear V0
  refine ?ae478
  rotate_left 1
  intro V0 ya yn yc L hx
  have hS : (fun w' : World => w'.cell? ⟨hv, 3, none⟩ = some (.int .i64 x.tg)) V0 := hx.facts.2.2.2
  refine wpAnyH_ready (rs := [11]) (by kernel_rfl) (by simp) ?_
  refine AllReadyH.cons rfl (fun K hK => ?_) AllReadyH.nil
  have c := L.box.cell 3 rfl
  have f := L.box.fz 3
  have L2 := L.set 3 (.slice ya yn yc)
  have hx2 : BoxV (V0.setCell ⟨g, 3, none⟩ (.slice ya yn yc)) hv x := Bx.other (cs := VC x) hx (fun e => by have h1 := L.box; rw [← e] at h1; unfold Bx at h1; rw [show V0.heap[hv]? = _ from hx] at h1; injection h1 with h1; injection h1 with _ h2; exact absurd h2 (by decide))
  simp only [List.setIfInBounds_toArray, List.set_cons_zero, List.set_cons_succ] at L2
  go_simp
  clear c f L hS hx
  have L := L2
  have hx := hx2
  clear L2 hx2
  refine hK.out _ _ hx.facts.2.2.2 (fun hS => ?_)
  clear hK K
  try simp only [List.setIfInBounds_toArray, List.set_cons_zero, List.set_cons_succ]
  revert hS
  revert hx
  revert L
  generalize V0.setCell ⟨g, 3, none⟩ (.slice ya yn yc) = V1
  intro L hx hS
  clear hS
  refine listed_asX (l' := #[true, true, true, true, true, true, true, true, true, true, true, true]) (by kernel_rfl) ?_
  revert hx
  revert L
  revert yc
  revert yn
  revert ya
  revert V1
  clear V0
  refine ?ae47811
  rotate_left 1
  intro V0 ya yn yc L hx
  have hS : (fun w' : World => w'.cell? ⟨hv, 3, none⟩ = some (.int .i64 x.tg)) V0 := hx.facts.2.2.2
  refine wpAnyH_done (by kernel_rfl) ?_ _
  refine NoPanic.normal ?_
  clear hS
  go_wp2
  exact bodyPost_ret (v := .tuple #[]) (by simp [results, Tryz.results245, go_sem]) rfl ⟨⟨⟨vw, nm, sv ++ [x.sv], tg ++ [x.tg]⟩, .slice za zn zc, .slice ya yn yc⟩, rfl, L, rfl⟩
end Go.Proofs.YtilhaokiohbeeaaGreatDoor
