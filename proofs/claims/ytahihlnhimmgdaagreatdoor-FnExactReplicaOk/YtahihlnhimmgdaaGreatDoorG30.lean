/- Replicas: plain notions. The contracts of the model's l16Find and l16Known. -/
import Derived.Test.YtahihlnhimmgdaaGreatDoorG12
import Derived.Test.YtahihlnhimmgdaaGreatDoorG24
import Derived.Test.YtahihlnhimmgdaaGreatDoorBlxOkS
namespace Go.Proofs.YtahihlnhimmgdaaGreatDoor
open Go.RowKit
/-- Has the Block this Name and this View? -/
def isB (nm vw : Int) (b : Blk) : Bool := decide (b.vw = vw) && decide (namN b = nm)
def fndB (bs : List Blk) (nm vw : Int) : Option Nat := bs.findIdx? (isB nm vw)
def optI (o : Option Nat) : Int := match o with | none => -1 | some k => (k : Int)
def knoB (bs : List Blk) (p : Prf) : Bool := frsB p || (fndB bs p.nm p.vw).isSome
/-- Is it the next of a chain, behind one of this Name and View? -/
def nxtB (d pa vw : Int) (b : Blk) : Bool := decide (namN b = d) && (decide (b.pa = pa) && decide (b.p.vw = vw))
/-- The last of the first k that is the next of the chain. -/
def lstB (bs : List Blk) (d pa vw : Int) : Nat → Option Nat
  | 0 => none
  | k + 1 => if nxtB d pa vw (bs.getD k ⟨0, 0, prfZ, [], 0⟩) = true then some k else lstB bs d pa vw k
def dnS (bs : List Blk) : List Int → Int → Int → Bool
  | [], _, _ => true
  | d :: r, pa, vw => match lstB bs d pa vw bs.length with
    | none => false
    | some k => dnS bs r d (bs.getD k ⟨0, 0, prfZ, [], 0⟩).vw
def dnI (bs : List Blk) : List Int → Int → Bool
  | [], _ => true
  | d :: r, pa => match bs.findIdx? (fun b => decide (namN b = d)) with
    | none => false
    | some k => decide ((bs.getD k ⟨0, 0, prfZ, [], 0⟩).pa = pa) && dnI bs r d
/-- May the Block come to these? -/
noncomputable def mayB (bs : List Blk) (n : Int) (b : Blk) : Bool := blkR b n && (knoB bs b.p && bs.all (fun c => decide (namN c ≠ namN b)))
noncomputable def blsB (bs : List Blk) (n : Int) : Nat → Bool
  | 0 => true
  | k + 1 => blsB bs n k && mayB (bs.take k) n (bs.getD k ⟨0, 0, prfZ, [], 0⟩)
def in0V (v : Int) : Bool := decide (0 ≤ v ∧ v ≤ 100000)
def newB (n : Int) (x : Nws) : Bool := inV x.vw && decide (0 ≤ x.sv ∧ x.sv ≤ n - 1)
def numB (X : Rep) : Bool := srvB X.n && (decide (0 ≤ X.idn ∧ X.idn ≤ X.n - 1) && (inV X.vw && (in0V X.vo && (in0V X.lo && in0V X.pr))))
/-- Is it a right Replica? -/
noncomputable def repR (X : Rep) : Bool :=
  numB X && (prfR X.hi X.n && (decide (X.bs.length ≤ 60) && (decide (X.vs.length ≤ 60) && (decide (X.ns.length ≤ 30) &&
    (blsB X.bs X.n X.bs.length && (X.vs.all (fun v => vokR v X.n) && (X.ns.all (newB X.n) && (knoB X.bs X.hi && dnS X.bs X.dn 0 0))))))))
end Go.Proofs.YtahihlnhimmgdaaGreatDoor
-- UNF Gen
namespace Go.Proofs.YtahihlnhimmgdaaGreatDoor
open Go.RowKit
def SmB (Xs : List BlX) : Prop := ∀ X ∈ Xs, SmallB X.b
def bsOf (Xs : List BlX) : List Blk := Xs.map (·.b)
theorem bsOf_len (Xs : List BlX) : (bsOf Xs).length = Xs.length := by simp [bsOf]
theorem bsOf_take (Xs : List BlX) (k : Nat) : bsOf (Xs.take k) = (bsOf Xs).take k := by simp [bsOf, List.map_take]
theorem bsOf_get {Xs : List BlX} {k : Nat} (h : k < (bsOf Xs).length) : (bsOf Xs)[k] = (nthBs Xs k).b := by
  rw [nthBs_eq (by simpa [bsOf] using h)]
  simp [bsOf]
theorem bsOf_getD (Xs : List BlX) (k : Nat) (h : k < Xs.length) : (bsOf Xs).getD k ⟨0, 0, prfZ, [], 0⟩ = (nthBs Xs k).b := by
  rw [← bsOf_get (by rw [bsOf_len]; exact h)]
  simp [List.getD, List.getElem?_eq_getElem (show k < (bsOf Xs).length by rw [bsOf_len]; exact h)]
theorem RdBs.take {w : World} {a : Option Addr} {n cap : Nat} {es : List BlX} (h : RdBs w (.slice a n cap) es) (i : Nat) (hi : i ≤ es.length) : RdBs w (.slice a i cap) (es.take i) := by
  obtain ⟨a', cap', hv, h1, h2, h0, h3⟩ := h
  simp only [Value.slice.injEq] at hv
  obtain ⟨rfl, _, rfl⟩ := hv
  have hl : (es.take i).length = i := by rw [List.length_take]; omega
  refine ⟨a, cap, by rw [hl], by rw [hl]; omega, h2, h0, ?_⟩
  rcases h3 with rfl | ⟨b, off, ha, hc⟩
  · left; simp
  · right
    refine ⟨b, off, ha, fun j hj => ?_⟩
    rw [hl] at hj
    have hc' := hc j (by omega)
    rw [nthBs_eq (by omega)] at hc'
    rw [nthBs_eq (by rw [hl]; exact hj), List.getElem_take]
    exact hc'
theorem InBs.take {w : World} {Xs : List BlX} (h : InBs w Xs) (i : Nat) : InBs w (Xs.take i) := fun X hX => h X (List.mem_of_mem_take hX)
theorem SmB.take {Xs : List BlX} (h : SmB Xs) (i : Nat) : SmB (Xs.take i) := fun X hX => h X (List.mem_of_mem_take hX)
theorem SmB.nth {Xs : List BlX} (h : SmB Xs) {i : Nat} (hi : i < Xs.length) : SmallB (nthBs Xs i).b := by rw [nthBs_eq hi]; exact h _ (List.getElem_mem hi)
theorem fnd_some {Xs : List BlX} {nm vw : Int} {k : Nat} (hk : k < Xs.length) (h1 : isB nm vw (nthBs Xs k).b = true) (h2 : ∀ j, j < k → isB nm vw (nthBs Xs j).b = false) : fndB (bsOf Xs) nm vw = some k := by
  unfold fndB
  rw [List.findIdx?_eq_some_iff_getElem]
  refine ⟨by rw [bsOf_len]; exact hk, by rw [bsOf_get]; exact h1, fun j hj => ?_⟩
  rw [bsOf_get, h2 j hj]
  simp
theorem fnd_none {Xs : List BlX} {nm vw : Int} (h2 : ∀ j, j < Xs.length → isB nm vw (nthBs Xs j).b = false) : fndB (bsOf Xs) nm vw = none := by
  unfold fndB
  rw [List.findIdx?_eq_none_iff]
  intro x hx
  obtain ⟨j, hj, rfl⟩ := List.getElem_of_mem hx
  rw [bsOf_get]
  exact h2 j (by rw [bsOf_len] at hj; exact hj)
theorem fnd_spec {bs : List Blk} {nm vw : Int} {k : Nat} (h : fndB bs nm vw = some k) : ∃ hk : k < bs.length, bs[k].vw = vw ∧ namN bs[k] = nm := by
  unfold fndB at h
  rw [List.findIdx?_eq_some_iff_getElem] at h
  obtain ⟨hk, h1, _⟩ := h
  unfold isB at h1
  simp at h1
  exact ⟨hk, h1⟩
set_option maxHeartbeats 2000000 in
set_option maxRecDepth 100000 in
theorem l16Find_any (v : Value) (Xs : List BlX) (nm vw : Int) (w : World) (hr : RdBs w v Xs) (hi : InBs w Xs) (hs : SmB Xs) :
    Calls Tryz.prog 138 #[v, .int .i64 nm, .int .i64 vw] w fun e w' => e = .returned (.int .i64 (optI (fndB (bsOf Xs) nm vw))) ∧ Below w.heap.size w w' := by
  obtain ⟨a, cap, hv, hla, hma, -⟩ := id hr
  obtain ⟨nn, hnn⟩ : ∃ nn, nn = Xs.length := ⟨_, rfl⟩
  have HNN : Hid (nn = Xs.length) := hnn
  rw [← hnn] at hv hla
  subst hv
  unfold maxLen at hma
  have HS : Hid (SmB Xs) := hs
  clear hnn hs
  go_enter Tryz.func138, Tryz.ntmps138
  go_wp2
  go_loopw [7] (fun i wr => ∃ k : Nat, k ≤ nn ∧ i = .int .i64 k ∧ Hid (∀ j, j < k → isB nm vw (nthBs Xs j).b = false) ∧ Below w.heap.size w wr) (fun i _ => nn - (intOf i).toNat)
  case atStart => exact ⟨0, Nat.zero_le _, rfl, (fun j h => by omega), Below.refl _ _⟩
  case round =>
    obtain ⟨k, hk, rfl, HJ, hb⟩ := hrel
    by_cases hlt : k < nn
    · have hkl : k < Xs.length := by rw [← HNN.out]; exact hlt
      obtain ⟨b, off, rfl, hc⟩ := (hr.below hb).atN k hkl
      have hri := (hi.below hb).nth hkl
      have hkc : k < cap := by omega
      have HF : Hid (∀ c, isB nm vw (nthBs Xs k).b = c → c = true → fndB (bsOf Xs) nm vw = some k) := fun c h1 h2 => fnd_some hkl (h1.trans h2) HJ.out
      have HJ2 : Hid (isB nm vw (nthBs Xs k).b = false → ∀ j, j < k + 1 → isB nm vw (nthBs Xs j).b = false) := fun h j hj => by
        by_cases e : j = k
        · rw [e]; exact h
        · exact HJ.out j (by omega)
      have HC : Hid (∀ W, RdBl W (nthBs Xs k) → Calls Tryz.prog 62 #[.agg #[.int .i64 (nthBs Xs k).b.vw, .int .i64 (nthBs Xs k).b.pa, .int .i64 (nthBs Xs k).b.p.vw, .int .i64 (nthBs Xs k).b.p.nm, (nthBs Xs k).vs, (nthBs Xs k).vt, (nthBs Xs k).vm, .int .i64 (nthBs Xs k).b.sv]] W fun e w' => e = .returned (.int .i64 (namN (nthBs Xs k).b)) ∧ Below W.heap.size W w') := fun W h => l15NameOf_any _ W h (HS.out.nth hkl)
      generalize nthBs Xs k = t at hc hri HF HJ2 HC
      obtain ⟨c0, c1, c2, c3, c4, c5, c6, c7⟩ := id hc
      clear hc hkl
      by_cases hvw : t.b.vw = vw
      · have hvb : (t.b.vw == vw) = true := by simp [hvw]
        obtain ⟨m, hm⟩ : ∃ m, namN t.b = m := ⟨_, rfl⟩
        rw [hm] at HC
        have HM : Hid (isB nm vw t.b = decide (m = nm)) := by unfold Hid isB; rw [hm]; simp [hvw]
        clear hvw hm
        go_wp2_with fail
        refine (HC.out _ hri).mono ?_
        rintro e w2 ⟨rfl, hb2⟩
        have bz := hb.trans (hb2.mono hb.size)
        clear c0 c1 c2 c3 c4 c5 c6 c7 HC hri hb hb2
        by_cases hmn : m = nm
        · have hme : (m == nm) = true := by simp [hmn]
          have HE : Hid (fndB (bsOf Xs) nm vw = some k) := HF.out _ HM.out (by simp [hmn])
          clear hmn
          go_wp2
          go_ret
          rw [HE.out]
          exact ⟨rfl, bz⟩
        · have hme : (m == nm) = false := by simp [hmn]
          have HJ3 : Hid (∀ j, j < k + 1 → isB nm vw (nthBs Xs j).b = false) := HJ2.out (by rw [HM.out]; simp [hmn])
          clear hmn
          go_wp2
          go_roundw
          case rel => exact ⟨k + 1, by omega, by go_num, HJ3, bz⟩
          case measure => simp [intOf]; omega
      · have hvb : (t.b.vw == vw) = false := by simp [hvw]
        have HJ3 : Hid (∀ j, j < k + 1 → isB nm vw (nthBs Xs j).b = false) := HJ2.out (by unfold isB; simp [hvw])
        clear hvw
        go_wp2
        go_roundw
        case rel => exact ⟨k + 1, by omega, by go_num, HJ3, hb⟩
        case measure => simp [intOf]; omega
    · have HE : Hid (fndB (bsOf Xs) nm vw = none) := fnd_none (fun j hj => HJ.out j (by have := HNN.out; omega))
      have hke : k = nn := by omega
      subst hke
      go_wp2
      go_ret
      rw [HE.out]
      exact ⟨rfl, hb⟩
set_option maxHeartbeats 2000000 in
set_option maxRecDepth 100000 in
theorem l16Known_any (v : Value) (Xs : List BlX) (P : PrX) (w : World) (hr : RdBs w v Xs) (hi : InBs w Xs) (hs : SmB Xs) (hp : RdPr w P) :
    Calls Tryz.prog 61 #[v, .agg #[.int .i64 P.p.vw, .int .i64 P.p.nm, P.vs, P.vt]] w fun e w' => e = .returned (.bool (knoB (bsOf Xs) P.p)) ∧ Below w.heap.size w w' := by
  obtain ⟨⟨pv, pn, ps, pt⟩, vs, vt⟩ := P
  obtain ⟨a1, k1, hv1, hl1, hm1, -⟩ := hp.sv
  obtain ⟨a2, k2, hv2, hl2, hm2, -⟩ := hp.tg
  unfold maxLen at hm1 hm2
  simp only at hv1 hv2 hl1 hl2 ⊢
  obtain ⟨f, hf⟩ : ∃ f, frsB ⟨pv, pn, ps, pt⟩ = f := ⟨_, rfl⟩
  obtain ⟨z, hz⟩ : ∃ z, fndB (bsOf Xs) pn pv = z := ⟨_, rfl⟩
  have HK : Hid (knoB (bsOf Xs) ⟨pv, pn, ps, pt⟩ = (f || z.isSome)) := by unfold Hid knoB; rw [hf, hz]
  have hf' := hf
  rw [frsB_len] at hf'
  simp only at hf'
  have n1 : ps.length ≤ 9223372036854775807 := by omega
  have n2 : pt.length ≤ 9223372036854775807 := by omega
  generalize ps.length = l1 at hv1 hf' n1
  generalize pt.length = l2 at hv2 hf' n2
  subst hv1 hv2
  have HF : Hid (∀ W, Calls Tryz.prog 136 #[.agg #[.int .i64 pv, .int .i64 pn, .slice a1 l1 k1, .slice a2 l2 k2]] W fun e w' => e = .returned (.bool f) ∧ Below W.heap.size W w') := fun W => l15First_any pv pn a1 a2 l1 k1 l2 k2 f n1 n2 hf' W
  have HN : Hid (∀ W, Below w.heap.size w W → Calls Tryz.prog 138 #[v, .int .i64 pn, .int .i64 pv] W fun e w' => e = .returned (.int .i64 (optI z)) ∧ Below W.heap.size W w') := fun W hb => by rw [← hz]; exact l16Find_any v Xs pn pv W (hr.below hb) (hi.below hb) hs
  have t0 := bx_new w 26 #[.int .i64 pv, .int .i64 pn, .slice a1 l1 k1, .slice a2 l2 k2]
  have b0 := below1 w (.cells #[.int .i64 pv, .int .i64 pn, .slice a1 l1 k1, .slice a2 l2 k2] 26)
  obtain ⟨q0, q1, q2, q3⟩ := t0.c4
  clear hf hz hf' n1 n2 hl1 hl2 hm1 hm2 hr hi hs hp
  go_enter Tryz.func61, Tryz.ntmps61
  go_wp2_with fail
  refine (HF.out _).mono ?_
  rintro e w1 ⟨rfl, hb1⟩
  have t1 := t0.below hb1
  have b1 := b0.trans (hb1.mono b0.size)
  clear q0 q1 q2 q3 t0 b0 hb1 HF
  obtain ⟨q0, q1, -, -⟩ := t1.c4
  cases f with
  | true =>
    go_wp2
    go_ret
    rw [HK.out]
    exact ⟨rfl, b1⟩
  | false =>
    go_wp2_with fail
    refine (HN.out _ b1).mono ?_
    rintro e w2 ⟨rfl, hb2⟩
    have b2 := b1.trans (hb2.mono b1.size)
    clear q0 q1 t1 b1 hb2 HN
    cases z with
    | none =>
      go_wp2
      go_ret
      rw [HK.out]
      exact ⟨rfl, b2⟩
    | some k =>
      have hk : (0 : Int) ≤ optI (some k) := by unfold optI; simp
      generalize optI (some k) = y at hk ⊢
      go_wp2
      go_ret
      rw [HK.out]
      exact ⟨rfl, b2⟩
end Go.Proofs.YtahihlnhimmgdaaGreatDoor
