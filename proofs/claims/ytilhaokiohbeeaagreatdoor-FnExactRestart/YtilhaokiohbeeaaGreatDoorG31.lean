/- Replicas: plain notions. The contracts of the model's l16Find and l16Known. A voter's map: its keys are of two numbers, its elements Blocks. -/
import Derived.Test.YtilhaokiohbeeaaGreatDoorG10
import Derived.Test.YtilhaokiohbeeaaGreatDoorG24
import Derived.Test.YtilhaokiohbeeaaGreatDoorBlxOkS
import Derived.Carry
import Derived.DeepKeys4
import Derived.MapKept
import Derived.WideKeyMaps
namespace Go.Proofs.YtilhaokiohbeeaaGreatDoor
open Go.RowKit
/-- Has the Block this Name and this View? -/
def isB (nm vw : Int) (b : Blk) : Bool := decide (b.vw = vw) && decide (namN b = nm)
def fndB (bs : List Blk) (nm vw : Int) : Option Nat := bs.findIdx? (isB nm vw)
def optI (o : Option Nat) : Int := match o with | none => -1 | some k => (k : Int)
def knoB (bs : List Blk) (p : Prf) : Bool := frsB p || (fndB bs p.nm p.vw).isSome
/-- Is it the next of a chain, behind one of this Name and View? -/
def nxtB (d pa vw : Int) (b : Blk) : Bool := decide (namN b = d) && (decide (b.pa = pa) && decide (b.p.vw = vw))
/-- The last of the first k that is the next of the chain. -/
def lstB (bs : List Blk) (d pa vw : Int) : Nat → Option Nat
  | 0 => none
  | k + 1 => if nxtB d pa vw (bs.getD k ⟨0, 0, prfZ, [], 0⟩) = true then some k else lstB bs d pa vw k
def dnS (bs : List Blk) : List Int → Int → Int → Bool
  | [], _, _ => true
  | d :: r, pa, vw => match lstB bs d pa vw bs.length with
    | none => false
    | some k => dnS bs r d (bs.getD k ⟨0, 0, prfZ, [], 0⟩).vw
def dnI (bs : List Blk) : List Int → Int → Bool
  | [], _ => true
  | d :: r, pa => match bs.findIdx? (fun b => decide (namN b = d)) with
    | none => false
    | some k => decide ((bs.getD k ⟨0, 0, prfZ, [], 0⟩).pa = pa) && dnI bs r d
/-- May the Block come to these? -/
noncomputable def mayB (bs : List Blk) (n : Int) (b : Blk) : Bool := blkR b n && (knoB bs b.p && bs.all (fun c => decide (namN c ≠ namN b)))
noncomputable def blsB (bs : List Blk) (n : Int) : Nat → Bool
  | 0 => true
  | k + 1 => blsB bs n k && mayB (bs.take k) n (bs.getD k ⟨0, 0, prfZ, [], 0⟩)
def in0V (v : Int) : Bool := decide (0 ≤ v ∧ v ≤ 100000)
def newB (n : Int) (x : Nws) : Bool := inV x.vw && decide (0 ≤ x.sv ∧ x.sv ≤ n - 1)
def numB (X : Rep) : Bool := srvB X.n && (decide (0 ≤ X.idn ∧ X.idn ≤ X.n - 1) && (inV X.vw && (in0V X.vo && (in0V X.lo && in0V X.pr))))
/-- Is it a right Replica? -/
noncomputable def repR (X : Rep) : Bool :=
  numB X && (prfR X.hi X.n && (decide (X.bs.length ≤ 60) && (decide (X.vs.length ≤ 60) && (decide (X.ns.length ≤ 30) &&
    (blsB X.bs X.n X.bs.length && (X.vs.all (fun v => vokR v X.n) && (X.ns.all (newB X.n) && (knoB X.bs X.hi && dnS X.bs X.dn 0 0))))))))
end Go.Proofs.YtilhaokiohbeeaaGreatDoor
-- UNF Gen
namespace Go.Proofs.YtilhaokiohbeeaaGreatDoor
open Go.RowKit
def SmB (Xs : List BlX) : Prop := ∀ X ∈ Xs, SmallB X.b
def bsOf (Xs : List BlX) : List Blk := Xs.map (·.b)
theorem bsOf_len (Xs : List BlX) : (bsOf Xs).length = Xs.length := by simp [bsOf]
theorem bsOf_take (Xs : List BlX) (k : Nat) : bsOf (Xs.take k) = (bsOf Xs).take k := by simp [bsOf, List.map_take]
theorem bsOf_get {Xs : List BlX} {k : Nat} (h : k < (bsOf Xs).length) : (bsOf Xs)[k] = (nthBs Xs k).b := by
  rw [nthBs_eq (by simpa [bsOf] using h)]
  simp [bsOf]
theorem bsOf_getD (Xs : List BlX) (k : Nat) (h : k < Xs.length) : (bsOf Xs).getD k ⟨0, 0, prfZ, [], 0⟩ = (nthBs Xs k).b := by
  rw [← bsOf_get (by rw [bsOf_len]; exact h)]
  simp [List.getD, List.getElem?_eq_getElem (show k < (bsOf Xs).length by rw [bsOf_len]; exact h)]
theorem RdBs.take {w : World} {a : Option Addr} {n cap : Nat} {es : List BlX} (h : RdBs w (.slice a n cap) es) (i : Nat) (hi : i ≤ es.length) : RdBs w (.slice a i cap) (es.take i) := by
  obtain ⟨a', cap', hv, h1, h2, h0, h3⟩ := h
  simp only [Value.slice.injEq] at hv
  obtain ⟨rfl, _, rfl⟩ := hv
  have hl : (es.take i).length = i := by rw [List.length_take]; omega
  refine ⟨a, cap, by rw [hl], by rw [hl]; omega, h2, h0, ?_⟩
  rcases h3 with rfl | ⟨b, off, ha, hc⟩
  · left; simp
  · right
    refine ⟨b, off, ha, fun j hj => ?_⟩
    rw [hl] at hj
    have hc' := hc j (by omega)
    rw [nthBs_eq (by omega)] at hc'
    rw [nthBs_eq (by rw [hl]; exact hj), List.getElem_take]
    exact hc'
theorem InBs.take {w : World} {Xs : List BlX} (h : InBs w Xs) (i : Nat) : InBs w (Xs.take i) := fun X hX => h X (List.mem_of_mem_take hX)
theorem SmB.take {Xs : List BlX} (h : SmB Xs) (i : Nat) : SmB (Xs.take i) := fun X hX => h X (List.mem_of_mem_take hX)
theorem SmB.nth {Xs : List BlX} (h : SmB Xs) {i : Nat} (hi : i < Xs.length) : SmallB (nthBs Xs i).b := by rw [nthBs_eq hi]; exact h _ (List.getElem_mem hi)
theorem fnd_some {Xs : List BlX} {nm vw : Int} {k : Nat} (hk : k < Xs.length) (h1 : isB nm vw (nthBs Xs k).b = true) (h2 : ∀ j, j < k → isB nm vw (nthBs Xs j).b = false) : fndB (bsOf Xs) nm vw = some k := by
  unfold fndB
  rw [List.findIdx?_eq_some_iff_getElem]
  refine ⟨by rw [bsOf_len]; exact hk, by rw [bsOf_get]; exact h1, fun j hj => ?_⟩
  rw [bsOf_get, h2 j hj]
  simp
theorem fnd_none {Xs : List BlX} {nm vw : Int} (h2 : ∀ j, j < Xs.length → isB nm vw (nthBs Xs j).b = false) : fndB (bsOf Xs) nm vw = none := by
  unfold fndB
  rw [List.findIdx?_eq_none_iff]
  intro x hx
  obtain ⟨j, hj, rfl⟩ := List.getElem_of_mem hx
  rw [bsOf_get]
  exact h2 j (by rw [bsOf_len] at hj; exact hj)
theorem fnd_spec {bs : List Blk} {nm vw : Int} {k : Nat} (h : fndB bs nm vw = some k) : ∃ hk : k < bs.length, bs[k].vw = vw ∧ namN bs[k] = nm := by
  unfold fndB at h
  rw [List.findIdx?_eq_some_iff_getElem] at h
  obtain ⟨hk, h1, _⟩ := h
  unfold isB at h1
  simp at h1
  exact ⟨hk, h1⟩
set_option maxHeartbeats 2000000 in
set_option maxRecDepth 100000 in
theorem l16Find_any (v : Value) (Xs : List BlX) (nm vw : Int) (w : World) (hr : RdBs w v Xs) (hi : InBs w Xs) (hs : SmB Xs) :
    Calls Tryz.prog 163 #[v, .int .i64 nm, .int .i64 vw] w fun e w' => e = .returned (.int .i64 (optI (fndB (bsOf Xs) nm vw))) ∧ Below w.heap.size w w' := by
  obtain ⟨a, cap, hv, hla, hma, -⟩ := id hr
  obtain ⟨nn, hnn⟩ : ∃ nn, nn = Xs.length := ⟨_, rfl⟩
  have HNN : Hid (nn = Xs.length) := hnn
  rw [← hnn] at hv hla
  subst hv
  unfold maxLen at hma
  have HS : Hid (SmB Xs) := hs
  clear hnn hs
  go_enter Tryz.func163, Tryz.ntmps163
  go_wp2
  go_loopw [7] (fun i wr => ∃ k : Nat, k ≤ nn ∧ i = .int .i64 k ∧ Hid (∀ j, j < k → isB nm vw (nthBs Xs j).b = false) ∧ Below w.heap.size w wr) (fun i _ => nn - (intOf i).toNat)
  case atStart => exact ⟨0, Nat.zero_le _, rfl, (fun j h => by omega), Below.refl _ _⟩
  case round =>
    obtain ⟨k, hk, rfl, HJ, hb⟩ := hrel
    by_cases hlt : k < nn
    · have hkl : k < Xs.length := by rw [← HNN.out]; exact hlt
      obtain ⟨b, off, rfl, hc⟩ := (hr.below hb).atN k hkl
      have hri := (hi.below hb).nth hkl
      have hkc : k < cap := by omega
      have HF : Hid (∀ c, isB nm vw (nthBs Xs k).b = c → c = true → fndB (bsOf Xs) nm vw = some k) := fun c h1 h2 => fnd_some hkl (h1.trans h2) HJ.out
      have HJ2 : Hid (isB nm vw (nthBs Xs k).b = false → ∀ j, j < k + 1 → isB nm vw (nthBs Xs j).b = false) := fun h j hj => by
        by_cases e : j = k
        · rw [e]; exact h
        · exact HJ.out j (by omega)
      have HC : Hid (∀ W, RdBl W (nthBs Xs k) → Calls Tryz.prog 78 #[.agg #[.int .i64 (nthBs Xs k).b.vw, .int .i64 (nthBs Xs k).b.pa, .int .i64 (nthBs Xs k).b.p.vw, .int .i64 (nthBs Xs k).b.p.nm, (nthBs Xs k).vs, (nthBs Xs k).vt, (nthBs Xs k).vm, .int .i64 (nthBs Xs k).b.sv]] W fun e w' => e = .returned (.int .i64 (namN (nthBs Xs k).b)) ∧ Below W.heap.size W w') := fun W h => l15NameOf_any _ W h (HS.out.nth hkl)
      generalize nthBs Xs k = t at hc hri HF HJ2 HC
      obtain ⟨c0, c1, c2, c3, c4, c5, c6, c7⟩ := id hc
      clear hc hkl
      by_cases hvw : t.b.vw = vw
      · have hvb : (t.b.vw == vw) = true := by simp [hvw]
        obtain ⟨m, hm⟩ : ∃ m, namN t.b = m := ⟨_, rfl⟩
        rw [hm] at HC
        have HM : Hid (isB nm vw t.b = decide (m = nm)) := by unfold Hid isB; rw [hm]; simp [hvw]
        clear hvw hm
        go_wp2_with fail
        refine (HC.out _ hri).mono ?_
        rintro e w2 ⟨rfl, hb2⟩
        have bz := hb.trans (hb2.mono hb.size)
        clear c0 c1 c2 c3 c4 c5 c6 c7 HC hri hb hb2
        by_cases hmn : m = nm
        · have hme : (m == nm) = true := by simp [hmn]
          have HE : Hid (fndB (bsOf Xs) nm vw = some k) := HF.out _ HM.out (by simp [hmn])
          clear hmn
          go_wp2
          go_ret
          rw [HE.out]
          exact ⟨rfl, bz⟩
        · have hme : (m == nm) = false := by simp [hmn]
          have HJ3 : Hid (∀ j, j < k + 1 → isB nm vw (nthBs Xs j).b = false) := HJ2.out (by rw [HM.out]; simp [hmn])
          clear hmn
          go_wp2
          go_roundw
          case rel => exact ⟨k + 1, by omega, by go_num, HJ3, bz⟩
          case measure => simp [intOf]; omega
      · have hvb : (t.b.vw == vw) = false := by simp [hvw]
        have HJ3 : Hid (∀ j, j < k + 1 → isB nm vw (nthBs Xs j).b = false) := HJ2.out (by unfold isB; simp [hvw])
        clear hvw
        go_wp2
        go_roundw
        case rel => exact ⟨k + 1, by omega, by go_num, HJ3, hb⟩
        case measure => simp [intOf]; omega
    · have HE : Hid (fndB (bsOf Xs) nm vw = none) := fnd_none (fun j hj => HJ.out j (by have := HNN.out; omega))
      have hke : k = nn := by omega
      subst hke
      go_wp2
      go_ret
      rw [HE.out]
      exact ⟨rfl, hb⟩
set_option maxHeartbeats 2000000 in
set_option maxRecDepth 100000 in
theorem l16Known_any (v : Value) (Xs : List BlX) (P : PrX) (w : World) (hr : RdBs w v Xs) (hi : InBs w Xs) (hs : SmB Xs) (hp : RdPr w P) :
    Calls Tryz.prog 77 #[v, .agg #[.int .i64 P.p.vw, .int .i64 P.p.nm, P.vs, P.vt]] w fun e w' => e = .returned (.bool (knoB (bsOf Xs) P.p)) ∧ Below w.heap.size w w' := by
  obtain ⟨⟨pv, pn, ps, pt⟩, vs, vt⟩ := P
  obtain ⟨a1, k1, hv1, hl1, hm1, -⟩ := hp.sv
  obtain ⟨a2, k2, hv2, hl2, hm2, -⟩ := hp.tg
  unfold maxLen at hm1 hm2
  simp only at hv1 hv2 hl1 hl2 ⊢
  obtain ⟨f, hf⟩ : ∃ f, frsB ⟨pv, pn, ps, pt⟩ = f := ⟨_, rfl⟩
  obtain ⟨z, hz⟩ : ∃ z, fndB (bsOf Xs) pn pv = z := ⟨_, rfl⟩
  have HK : Hid (knoB (bsOf Xs) ⟨pv, pn, ps, pt⟩ = (f || z.isSome)) := by unfold Hid knoB; rw [hf, hz]
  have hf' := hf
  rw [frsB_len] at hf'
  simp only at hf'
  have n1 : ps.length ≤ 9223372036854775807 := by omega
  have n2 : pt.length ≤ 9223372036854775807 := by omega
  generalize ps.length = l1 at hv1 hf' n1
  generalize pt.length = l2 at hv2 hf' n2
  subst hv1 hv2
  have HF : Hid (∀ W, Calls Tryz.prog 161 #[.agg #[.int .i64 pv, .int .i64 pn, .slice a1 l1 k1, .slice a2 l2 k2]] W fun e w' => e = .returned (.bool f) ∧ Below W.heap.size W w') := fun W => l15First_any pv pn a1 a2 l1 k1 l2 k2 f n1 n2 hf' W
  have HN : Hid (∀ W, Below w.heap.size w W → Calls Tryz.prog 163 #[v, .int .i64 pn, .int .i64 pv] W fun e w' => e = .returned (.int .i64 (optI z)) ∧ Below W.heap.size W w') := fun W hb => by rw [← hz]; exact l16Find_any v Xs pn pv W (hr.below hb) (hi.below hb) hs
  have t0 := bx_new w 26 #[.int .i64 pv, .int .i64 pn, .slice a1 l1 k1, .slice a2 l2 k2]
  have b0 := below1 w (.cells #[.int .i64 pv, .int .i64 pn, .slice a1 l1 k1, .slice a2 l2 k2] 26)
  obtain ⟨q0, q1, q2, q3⟩ := t0.c4
  clear hf hz hf' n1 n2 hl1 hl2 hm1 hm2 hr hi hs hp
  go_enter Tryz.func77, Tryz.ntmps77
  go_wp2_with fail
  refine (HF.out _).mono ?_
  rintro e w1 ⟨rfl, hb1⟩
  have t1 := t0.below hb1
  have b1 := b0.trans (hb1.mono b0.size)
  clear q0 q1 q2 q3 t0 b0 hb1 HF
  obtain ⟨q0, q1, -, -⟩ := t1.c4
  cases f with
  | true =>
    go_wp2
    go_ret
    rw [HK.out]
    exact ⟨rfl, b1⟩
  | false =>
    go_wp2_with fail
    refine (HN.out _ b1).mono ?_
    rintro e w2 ⟨rfl, hb2⟩
    have b2 := b1.trans (hb2.mono b1.size)
    clear q0 q1 t1 b1 hb2 HN
    cases z with
    | none =>
      go_wp2
      go_ret
      rw [HK.out]
      exact ⟨rfl, b2⟩
    | some k =>
      have hk : (0 : Int) ≤ optI (some k) := by unfold optI; simp
      generalize optI (some k) = y at hk ⊢
      go_wp2
      go_ret
      rw [HK.out]
      exact ⟨rfl, b2⟩
end Go.Proofs.YtilhaokiohbeeaaGreatDoor
-- UNF Gen
namespace Go.Proofs.YtilhaokiohbeeaaGreatDoor
open Go.RowKit Go.WideMaps
theorem Tryz.laidOutV : laidOutB Tryz.prog = true := by kernel_rfl
theorem rowKeyV : (233 : TypeId) < Tryz.prog.types.size := of_decide_eq_true (by kernel_rfl)
theorem wideKeyV : (match Tryz.prog.underlying 233 with | some (.array _ _) | some (.struct _) => true | _ => false) = true := by kernel_rfl
set_option maxRecDepth 100000 in
theorem lawKeyV : KeyLaw Tryz.prog 233 := deep_law_laid Tryz.laidOutV (m := 3) (by omega) rowKeyV (by kernel_rfl) wideKeyV
def keyV (v n : Int) : Value := .agg #[.int .i64 v, .int .i64 n]
theorem keyV_inj {a b c d : Int} (h : keyV a b = keyV c d) : a = c ∧ b = d := by
  unfold keyV at h
  simp at h
  exact h
theorem keyTypeV : Tryz.prog.keyType 233 = true := by kernel_rfl
theorem cellsKeyV : Tryz.prog.cellsOf 233 = 2 := by kernel_rfl
theorem cellsIntV : Tryz.prog.cellsOf 2 = 1 := by kernel_rfl
theorem sizeVK : ∃ m, Tryz.prog.types.size = m + 1 + 1 := ⟨Tryz.prog.types.size - 2, by
  have h : (3 : Nat) < Tryz.prog.types.size := of_decide_eq_true (by kernel_rfl)
  omega⟩
theorem wfV {v : Int} (h : -9223372036854775808 ≤ v ∧ v ≤ 9223372036854775807) : (Lit.int .i64 v).wf = true := by
  have h1 : IntKind.i64.min = -9223372036854775808 := by decide
  have h2 : IntKind.i64.max = 9223372036854775807 := by decide
  simp only [Lit.wf, h1, h2, Bool.and_eq_true, decide_eq_true_eq]
  exact h
theorem keyLitV (v n : Int) (hv : -9223372036854775808 ≤ v ∧ v ≤ 9223372036854775807) (hn : -9223372036854775808 ≤ n ∧ n ≤ 9223372036854775807) : ∃ l, keyOf Tryz.prog 233 (keyV v n) = some l := by
  have wv : (Lit.int .i64 v).wf = true := wfV hv
  have wn : (Lit.int .i64 n).wf = true := wfV hn
  obtain ⟨m, hm⟩ := sizeVK
  refine ⟨.string (keyBytes [.int .i64 v, .int .i64 n]), ?_⟩
  have hu := Tryz.underlying233
  have hi := Tryz.underlying2
  unfold keyOf
  simp only [hu]
  rw [if_pos (by simp [keyTypeV, Value.formed, hu, cellsKeyV, keyV]), hm]
  unfold Program.keyLits
  simp only [hu, keyV, Value.cells]
  rw [if_pos (by rw [cellsKeyV]; exact ⟨rfl, by kernel_rfl⟩)]
  simp [cellsIntV, Program.keyLits, hi, wv, wn]
/-- What the map's entries are. -/
def MapR (es : Array MapEntry) (Ms : List BlX) : Prop := es.toList.map (fun e => (e.key, e.val)) = Ms.map (fun M => (keyV M.b.vw (namN M.b), BsA M))
theorem MapR.key {es : Array MapEntry} {Ms : List BlX} (h : MapR es Ms) {e : MapEntry} (he : e ∈ es.toList) : ∃ M ∈ Ms, e.key = keyV M.b.vw (namN M.b) ∧ e.val = BsA M := by
  have h1 : (e.key, e.val) ∈ es.toList.map (fun e => (e.key, e.val)) := List.mem_map.2 ⟨e, he, rfl⟩
  rw [h] at h1
  obtain ⟨M, hM, hE⟩ := List.mem_map.1 h1
  have h2 := Prod.mk.inj hE
  exact ⟨M, hM, h2.1.symm, h2.2.symm⟩
theorem MapR.ent {es : Array MapEntry} {Ms : List BlX} (h : MapR es Ms) {M : BlX} (hM : M ∈ Ms) : ∃ e ∈ es.toList, e.key = keyV M.b.vw (namN M.b) ∧ e.val = BsA M := by
  have h1 : (keyV M.b.vw (namN M.b), BsA M) ∈ Ms.map (fun M => (keyV M.b.vw (namN M.b), BsA M)) := List.mem_map.2 ⟨M, hM, rfl⟩
  rw [← h] at h1
  obtain ⟨e, he, hE⟩ := List.mem_map.1 h1
  have h2 := Prod.mk.inj hE
  exact ⟨e, he, h2.1, h2.2⟩
def FitMs (Ms : List BlX) : Prop := ∀ M ∈ Ms, -9223372036854775808 ≤ M.b.vw ∧ M.b.vw ≤ 9223372036854775807
theorem MapR.lits {es : Array MapEntry} {Ms : List BlX} (h : MapR es Ms) (hf : FitMs Ms) : ∀ e ∈ es.toList, ∃ l, keyOf Tryz.prog 233 e.key = some l := fun e he => by
  obtain ⟨M, hM, hk, -⟩ := h.key he
  rw [hk]
  have := namN_in M.b
  exact keyLitV _ _ (hf M hM) (by omega)
theorem zero_blockV (w : World) : (zeroValue 34).run Tryz.prog w = .ok (.agg #[.int .i64 0, .int .i64 0, .int .i64 0, .int .i64 0, .slice none 0 0, .slice none 0 0, .slice none 0 0, .int .i64 0]) w := by kernel_rfl
/-- Does the map have an entry of this View and Name, and which? -/
theorem look_any {Ms : List BlX} {es : Array MapEntry} (hR : MapR es Ms) (hf : FitMs Ms) (hU : ∀ M ∈ Ms, ∀ M' ∈ Ms, namN M.b = namN M'.b → M = M') (v n : Int) (hv : -9223372036854775808 ≤ v ∧ v ≤ 9223372036854775807) (hn : -9223372036854775808 ≤ n ∧ n ≤ 9223372036854775807) :
    (∃ M ∈ Ms, isB n v M.b = true ∧ ∀ (w : World) (r c : Nat), w.heap[r]? = some (.map es c) → (Instr.lookup 121 (.map (some r)) (keyV v n) true).run Tryz.prog w = .ok (.tuple #[BsA M, .bool true]) w) ∨
    ((∀ M ∈ Ms, isB n v M.b = false) ∧ ∀ (w : World) (r c : Nat), w.heap[r]? = some (.map es c) → (Instr.lookup 121 (.map (some r)) (keyV v n) true).run Tryz.prog w = .ok (.tuple #[.agg #[.int .i64 0, .int .i64 0, .int .i64 0, .int .i64 0, .slice none 0 0, .slice none 0 0, .slice none 0 0, .int .i64 0], .bool false]) w) := by
  obtain ⟨l, hl⟩ := keyLitV v n hv hn
  have hu : Tryz.prog.underlying 121 = some (.map 233 34) := by kernel_rfl
  by_cases hex : ∃ M ∈ Ms, isB n v M.b = true
  · obtain ⟨M0, hM0, hb0⟩ := hex
    unfold isB at hb0
    simp at hb0
    left
    refine ⟨M0, hM0, by unfold isB; simp [hb0], fun w r c hm => ?_⟩
    obtain ⟨e0, he0, hk0, hv0⟩ := hR.ent hM0
    rcases lawKeyV.find w hl es.toList (hR.lits hf) with ⟨h1, h2⟩ | ⟨j, e, h1, h2, h3⟩
    · exact absurd (by rw [hk0, hb0.1, hb0.2]) (h2 e0 he0)
    · obtain ⟨M, hM, hk, hval⟩ := hR.key (List.mem_of_getElem? h2)
      rw [h3] at hk
      obtain ⟨hkv, hkn⟩ := keyV_inj hk
      have hMM : M = M0 := hU M hM M0 hM0 (by rw [← hkn, hb0.2])
      subst hMM
      have hc := lawKeyV.check w es.isEmpty hl
      simp [Instr.lookup, run_underlying hu, MapKept.run_getObj_map hm, hc, h1, hval, Result.andThen]
  · right
    refine ⟨fun M hM => by cases h : isB n v M.b with | false => rfl | true => exact absurd ⟨M, hM, h⟩ hex, fun w r c hm => ?_⟩
    rcases lawKeyV.find w hl es.toList (hR.lits hf) with ⟨h1, h2⟩ | ⟨j, e, h1, h2, h3⟩
    · have hc := lawKeyV.check w es.isEmpty hl
      simp [Instr.lookup, run_underlying hu, MapKept.run_getObj_map hm, hc, h1, zero_blockV w, Result.andThen]
    · exfalso
      obtain ⟨M, hM, hk, -⟩ := hR.key (List.mem_of_getElem? h2)
      rw [h3] at hk
      obtain ⟨hkv, hkn⟩ := keyV_inj hk
      exact hex ⟨M, hM, by unfold isB; simp [← hkv, ← hkn]⟩
/-- A new entry. -/
theorem put_any {Ms : List BlX} {es : Array MapEntry} (hR : MapR es Ms) (hf : FitMs Ms) (M : BlX) (hM : -9223372036854775808 ≤ M.b.vw ∧ M.b.vw ≤ 9223372036854775807) (hnew : ∀ M' ∈ Ms, namN M'.b ≠ namN M.b) (w : World) (r c : Nat) (hm : w.heap[r]? = some (.map es c)) :
    ∃ es' w', (Instr.mapUpdate 121 (.map (some r)) (keyV M.b.vw (namN M.b)) (BsA M)).run Tryz.prog w = .ok () w' ∧ w'.heap[r]? = some (.map es' (c + 1)) ∧ MapR es' (Ms ++ [M]) ∧ Touch [r] w w' := by
  obtain ⟨l, hl⟩ := keyLitV M.b.vw (namN M.b) hM (by have := namN_in M.b; omega)
  have hu : Tryz.prog.underlying 121 = some (.map 233 34) := by kernel_rfl
  have hc := lawKeyV.check w false hl
  have hlt : r < w.heap.size := (Array.getElem?_eq_some_iff.1 hm).1
  rcases lawKeyV.find w hl es.toList (hR.lits hf) with ⟨h1, h2⟩ | ⟨j, e, h1, h2, h3⟩
  · refine ⟨es.push { key := keyV M.b.vw (namN M.b), val := BsA M, born := c }, { w with heap := w.heap.setIfInBounds r (.map (es.push { key := keyV M.b.vw (namN M.b), val := BsA M, born := c }) (c + 1)) }, ?_, ?_, ?_, ?_⟩
    · simp [Instr.mapUpdate, run_underlying hu, MapKept.run_getObj_map hm, hc, h1, MapKept.run_setObj_map _ hm, Result.andThen]
    · exact (MapKept.heap_set hm).1
    · unfold MapR at hR ⊢
      simp only [Array.toList_push, List.map_append, hR, List.map_cons, List.map_nil]
    · exact ⟨rfl, rfl, rfl, by simp, fun k _ hk => (MapKept.heap_set hm).2 k (fun e => hk (by simp [e]))⟩
  · exfalso
    obtain ⟨M', hM', hk, -⟩ := hR.key (List.mem_of_getElem? h2)
    rw [h3] at hk
    exact hnew M' hM' (keyV_inj hk).2.symm
end Go.Proofs.YtilhaokiohbeeaaGreatDoor
