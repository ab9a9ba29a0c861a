/- Many moves: what they make of a bank, and the contracts of both MovedAll. -/
-- UNF Gen
import Derived.Test.YtdleolgkbkoekaaDoorMovRdI
import Derived.Test.YtdleolgkbkoekaaDoorBnkMov
import Derived.Test.YtdleolgkbkoekaaDoorBnkMos
import Derived.Test.YtdleolgkbkoekaaDoorBnkReg
namespace Go.Proofs.YtdleolgkbkoekaaDoor
open Go.RowKit
theorem wpList_intsK_at {w : World} {ops : Array Oper} {rest : List Oper} {o : Oper} {a : Act} {Q : Exit → Act → World → Prop} (hgd : o.guard = none) (s x : Operand)
    (ho : o.op = .call { callee := .builtin .append, args := #[s, x], argTypes := #[24, 24] }) (base : Nat) (v u : Value) (ys zs : List Int) (hs : a.eval s = v) (hx : a.eval x = u) (hown : OwnI w base v ys) (hr : RdI w u zs) (hl : ys.length + zs.length ≤ 1000000000) (hbase : base ≤ w.heap.size)
    (h : ∀ v' w', OwnI w' base v' (ys ++ zs) → w.grownBy w' v.ownBlock → (v'.ownBlock = v.ownBlock ∨ v'.ownBlock = some w.heap.size) → wpList Tryd.prog ops Q rest (a.put o.dst v') w') : wpList Tryd.prog ops Q (o :: rest) a w := by
  refine wpList_plain hgd fun K hK => ?_
  obtain ⟨v', w', hrun, r1, r2, r3⟩ := run_intsK_at o.type hown hr hl hbase
  unfold Oper.wp
  simp [execOp, ho, resolve, invoke, builtin, hs, hx, hrun, Result.andThen]
  exact hK _ _ (h v' w' r1 r2 r3)
theorem mvl_len (ms cs : List Int) (m : Mov) : (movM ms cs m).length ≤ ms.length ∧ (movC ms cs m).length ≤ cs.length := by
  unfold movM movC
  constructor
  · split
    · simp
    · split
      · rw [payM_len]; exact Nat.le_refl _
      · exact Nat.le_refl _
  · split
    · simp
    · split
      · unfold payC; rw [List.length_set]; exact Nat.le_refl _
      · exact Nat.le_refl _
/-- A bank's numbers and the codes so far. -/
structure AS where
  mon : List Int
  cnt : List Int
  cod : List Int
def stp (st : AS) (r : Mov × Bool) : AS := if r.2 = true then ⟨movM st.mon st.cnt r.1, movC st.mon st.cnt r.1, st.cod ++ [codR st.mon st.cnt r.1]⟩ else ⟨st.mon, st.cnt, st.cod ++ [1]⟩
def runA (st : AS) (rs : List (Mov × Bool)) : AS := rs.foldl stp st
def nthA (st : AS) (rs : List (Mov × Bool)) (k : Nat) : AS := runA st (rs.take k)
theorem nthA_succ (st : AS) (rs : List (Mov × Bool)) (k : Nat) (h : k < rs.length) : nthA st rs (k + 1) = stp (nthA st rs k) rs[k] := by
  unfold nthA runA
  rw [List.take_add_one, List.getElem?_eq_getElem h, List.foldl_append]
  rfl
theorem nthA_all (st : AS) (rs : List (Mov × Bool)) : nthA st rs rs.length = runA st rs := by unfold nthA; rw [List.take_length]
theorem stp_len (st : AS) (r : Mov × Bool) : (stp st r).mon.length ≤ st.mon.length ∧ (stp st r).cnt.length ≤ st.cnt.length ∧ (stp st r).cod.length = st.cod.length + 1 := by
  unfold stp
  split
  · exact ⟨(mvl_len _ _ _).1, (mvl_len _ _ _).2, by simp⟩
  · exact ⟨Nat.le_refl _, Nat.le_refl _, by simp⟩
theorem nthA_len (st : AS) (rs : List (Mov × Bool)) : ∀ k, k ≤ rs.length → (nthA st rs k).mon.length ≤ st.mon.length ∧ (nthA st rs k).cnt.length ≤ st.cnt.length ∧ (nthA st rs k).cod.length = st.cod.length + k
  | 0, _ => ⟨Nat.le_refl _, Nat.le_refl _, rfl⟩
  | k + 1, h => by
    have ih := nthA_len st rs k (by omega)
    have hs := stp_len (nthA st rs k) rs[k]
    rw [nthA_succ st rs k h]
    omega
/-- What the texts are read as. -/
def RmAll (ss : List ByteArray) (rs : List (Mov × Bool)) : Prop := rs.length = ss.length ∧ ∀ k (h : k < ss.length) (h' : k < rs.length), RMR ss[k] rs[k].1 rs[k].2
theorem rmAll_ex : ∀ ss : List ByteArray, ∃ rs, RmAll ss rs
  | [] => ⟨[], rfl, fun k h => by simp at h⟩
  | s :: ss => by
    obtain ⟨R, o, h⟩ := rmr_ex s
    obtain ⟨rs, h1, h2⟩ := rmAll_ex ss
    refine ⟨(R, o) :: rs, by simp [h1], fun k hk hk' => ?_⟩
    cases k with
    | zero => exact h
    | succ k => exact h2 k (by simpa using hk) (by simpa using hk')
/-- What MovedAll makes. -/
def allR (ms cs : List Int) (rs : List (Mov × Bool)) : AS := if bankOk ms cs = true then runA ⟨ms, cs, []⟩ rs else ⟨[], [], []⟩
def AllRes (w : World) (R : AS) (e : Ending) (w' : World) : Prop :=
  ∃ (Y : BkX) (v : Value), e = .returned (.tuple #[.agg #[Y.vm, Y.vc], v]) ∧ Y.mon = R.mon ∧ Y.cnt = R.cnt ∧ OwnBk w' w.heap.size Y ∧ OwnI w' w.heap.size v R.cod ∧ (∀ k ∈ oneB v, k ∉ bkB Y) ∧ Below w.heap.size w w'
abbrev zBk : BkX := ⟨.slice none 0 0, .slice none 0 0, [], []⟩
/-- Where the walk stands: the argument's box, the answer's, the one of the bank that is made, and the codes' row. -/
structure AQ (w W : World) (X : BkX) (ob lo : Nat) (Y : BkX) (v : Value) (ks : List Int) : Prop where
  q : QB w W (some X) none [⟨ob, lo, Y⟩, ⟨w.heap.size + 1, w.heap.size + 2, zBk⟩]
  codes : OwnI W (w.heap.size + 2) v ks
  ap : ∀ k ∈ oneB v, k ∉ bkB Y
  ne : w.heap.size + 1 < ob
  hlo : w.heap.size + 2 ≤ lo
theorem AQ.on {w W W' : World} {X : BkX} {ob lo : Nat} {Y : BkX} {v : Value} {ks : List Int} (h : AQ w W X ob lo Y v ks) (hb : Below W.heap.size W W') : AQ w W' X ob lo Y v ks :=
  ⟨h.q.on hb, h.codes.below hb, h.ap, h.ne, h.hlo⟩
theorem AQ.bx {w W : World} {X : BkX} {ob lo : Nat} {Y : BkX} {v : Value} {ks : List Int} (h : AQ w W X ob lo Y v ks) : BoxBk W ob Y.vm Y.vc := h.q.bx ⟨ob, lo, Y⟩ (by simp)
theorem AQ.ow {w W : World} {X : BkX} {ob lo : Nat} {Y : BkX} {v : Value} {ks : List Int} (h : AQ w W X ob lo Y v ks) : OwnBk W lo Y := h.q.ow ⟨ob, lo, Y⟩ (by simp)
theorem AQ.out {w W : World} {X : BkX} {ob lo : Nat} {Y : BkX} {v : Value} {ks : List Int} (h : AQ w W X ob lo Y v ks) : BoxBk W (w.heap.size + 1) (.slice none 0 0) (.slice none 0 0) := h.q.bx ⟨w.heap.size + 1, w.heap.size + 2, zBk⟩ (by simp)
theorem AQ.grow {w V W : World} {X : BkX} {ob lo : Nat} {Y : BkX} {v v' : Value} {ks ks' : List Int} {o : Obj} (h : AQ w V X ob lo Y v ks) (hg : (V.alloc o).grownBy W v.ownBlock) (ho : OwnI W (w.heap.size + 2) v' ks') (hat : v'.ownBlock = v.ownBlock ∨ v'.ownBlock = some (V.alloc o).heap.size) : AQ w W X ob lo Y v' ks' := by
  have h1 := h.on (below1 V o)
  have ht : Touch (oneB v) (V.alloc o) W := Touch.of_grown hg (fun k hk => mem_oneB.2 hk)
  have hb : ∀ k ∈ oneB v, w.heap.size + 2 ≤ k := fun k hk => (World.ownsRow.lt h1.codes k (mem_oneB.1 hk)).1
  have hbox : ∀ i ∈ [(⟨ob, lo, Y⟩ : BI), ⟨w.heap.size + 1, w.heap.size + 2, zBk⟩], i.b ∉ oneB v := fun i hi e => boxBk_row (h1.q.bx i hi) h1.codes (by decide) _ (mem_oneB.1 e) rfl
  refine ⟨h1.q.touch ht (fun k hk => by have := hb k hk; omega) (fun _ _ e => by have := hb _ e; omega) (fun _ _ e => by cases e) hbox (fun i hi k hk e => ?_), ho, fun k hk e => ?_, h.ne, h.hlo⟩
  · rcases List.mem_cons.1 hi with rfl | hi
    · exact h.ap k e hk
    · rw [List.mem_singleton.1 hi] at hk
      simp [bkB, oneB, Value.ownBlock] at hk
  · rcases hat with e1 | e1
    · exact h.ap k (mem_oneB.2 (by rw [← e1]; exact mem_oneB.1 hk)) e
    · have h2 := mem_oneB.1 hk
      rw [e1] at h2
      have h3 := Option.some.inj h2
      have := (h.ow.bound e).2
      simp at h3
      omega
theorem AQ.fill {w W : World} {X : BkX} {ob lo lo2 : Nat} {Y Z : BkX} {v : Value} {ks : List Int} (h : AQ w W X ob lo Y v ks) (hz : OwnBk W lo2 Z) (h2 : w.heap.size + 2 ≤ lo2) (apz : ∀ k ∈ oneB v, k ∉ bkB Z) : AQ w ((W.setCell ⟨ob, 0, none⟩ Z.vm).setCell ⟨ob, 1, none⟩ Z.vc) X ob lo2 Z v ks := by
  have hne := h.ne
  have hto : Touch [ob] W ((W.setCell ⟨ob, 0, none⟩ Z.vm).setCell ⟨ob, 1, none⟩ Z.vc) := (Touch.set (by simp)).trans (Touch.set (by simp))
  refine ⟨h.q.fill hz ⟨fun i hi e => ?_, fun _ _ e => by omega, fun _ _ e => by cases e⟩ (by omega), hto.row h.codes (fun k hk e => boxBk_row h.bx h.codes (by decide) k hk (List.mem_singleton.1 e).symm), apz, hne, h2⟩
  rw [List.mem_singleton.1 hi] at e
  simp only at e
  omega
theorem all_end {w W : World} {X : BkX} {ob lo : Nat} {Y : BkX} {v : Value} {R : AS} (h : AQ w W X ob lo Y v R.cod) (hm : Y.mon = R.mon) (hc : Y.cnt = R.cnt) :
    AllRes w R (.returned (.tuple #[.agg #[Y.vm, Y.vc], v])) ((W.setCell ⟨w.heap.size + 1, 0, none⟩ Y.vm).setCell ⟨w.heap.size + 1, 1, none⟩ Y.vc) := by
  have h1 := h.hlo
  exact ⟨Y, v, rfl, hm, hc, ⟨OwnI.mono (row_base (row_base h.ow.mon (by omega)) (by omega)) (by omega), OwnI.mono (row_base (row_base h.ow.cnt (by omega)) (by omega)) (by omega), h.ow.two⟩, OwnI.mono (row_base (row_base h.codes (by omega)) (by omega)) (by omega), h.ap, (h.q.bel.setCell (p := ⟨w.heap.size + 1, 0, none⟩) (by simp) _).setCell (p := ⟨w.heap.size + 1, 1, none⟩) (by simp) _⟩
/-- The three first blocks. -/
abbrev allW (w : World) (X : BkX) : World := ((w.alloc (.cells #[X.vm, X.vc] 26)).alloc (.cells #[.slice none 0 0, .slice none 0 0] 26)).alloc (.cells #[] 2)
theorem all_start (X : BkX) (w : World) : QB w (allW w X) (some X) none [⟨w.heap.size + 1, w.heap.size + 2, zBk⟩] ∧ OwnI (allW w X) (w.heap.size + 2) (.slice (some ⟨w.heap.size + 2, 0, none⟩) 0 0) [] ∧ (allW w X).heap.size = w.heap.size + 3 := by
  have t0 := bkAt_new w X 26
  have s0 : (w.alloc (.cells #[X.vm, X.vc] 26)).heap.size = w.heap.size + 1 := by simp
  have t1 := boxBk_new (w.alloc (.cells #[X.vm, X.vc] 26)) (.slice none 0 0) (.slice none 0 0)
  rw [s0] at t1
  have b1 := below1 (w.alloc (.cells #[X.vm, X.vc] 26)) (.cells #[.slice none 0 0, .slice none 0 0] 26)
  have s1 : ((w.alloc (.cells #[X.vm, X.vc] 26)).alloc (.cells #[.slice none 0 0, .slice none 0 0] 26)).heap.size = w.heap.size + 2 := by simp
  have o2 := ownI_none ((w.alloc (.cells #[X.vm, X.vc] 26)).alloc (.cells #[.slice none 0 0, .slice none 0 0] 26))
  have b2 := below1 ((w.alloc (.cells #[X.vm, X.vc] 26)).alloc (.cells #[.slice none 0 0, .slice none 0 0] 26)) (.cells #[] 2)
  rw [s1] at o2
  refine ⟨⟨(below2 w _ _).trans (b2.mono (by simp; omega)), fun X' e => ?_, fun t m' e => (by cases e), fun i hi => ?_, fun i hi => ?_⟩, o2, by simp⟩
  · cases e
    exact (t0.below b1).below b2
  · obtain rfl := List.mem_singleton.1 hi
    exact t1.below b2
  · obtain rfl := List.mem_singleton.1 hi
    exact ownBk_zero _ _
theorem all_zero {w W : World} {X : BkX} {R : AS} (hR : R = ⟨[], [], []⟩) (h : QB w W (some X) none [⟨w.heap.size + 1, w.heap.size + 2, zBk⟩]) (ho : OwnI W (w.heap.size + 2) (.slice (some ⟨w.heap.size + 2, 0, none⟩) 0 0) []) :
    AllRes w R (.returned (.tuple #[.agg #[.slice none 0 0, .slice none 0 0], .slice (some ⟨w.heap.size + 2, 0, none⟩) 0 0])) ((W.setCell ⟨w.heap.size + 1, 0, none⟩ (.slice none 0 0)).setCell ⟨w.heap.size + 1, 1, none⟩ (.slice none 0 0)) := by
  subst hR
  exact ⟨zBk, _, rfl, rfl, rfl, ownBk_zero _ _, OwnI.mono (row_base (row_base ho (by omega)) (by omega)) (by omega), fun k _ e => by simp [bkB, oneB, Value.ownBlock] at e, (h.bel.setCell (p := ⟨w.heap.size + 1, 0, none⟩) (by simp) _).setCell (p := ⟨w.heap.size + 1, 1, none⟩) (by simp) _⟩
theorem AllRes.open {w w' : World} {R : AS} {e : Ending} (h : AllRes w R e w') : ∃ (a : Option Addr) (n c : Nat) (a' : Option Addr) (n' c' : Nat) (a'' : Option Addr) (n'' c'' : Nat), e = .returned (.tuple #[.agg #[.slice a n c, .slice a' n' c'], .slice a'' n'' c'']) ∧ OwnBk w' w.heap.size ⟨.slice a n c, .slice a' n' c', R.mon, R.cnt⟩ ∧ OwnI w' w.heap.size (.slice a'' n'' c'') R.cod ∧ (∀ k ∈ oneB (.slice a'' n'' c''), k ∉ bkB ⟨.slice a n c, .slice a' n' c', R.mon, R.cnt⟩) ∧ Below w.heap.size w w' := by
  obtain ⟨⟨vm, vc, m, c⟩, v, rfl, h1, h2, ho, hi, hap, hb⟩ := h
  simp only at h1 h2
  subst h1
  subst h2
  obtain ⟨a, n, e1⟩ := ownSl ho.mon
  obtain ⟨a', n', e2⟩ := ownSl ho.cnt
  obtain ⟨a'', n'', e3⟩ := ownSl hi
  simp only at e1 e2 e3
  subst e1
  subst e2
  subst e3
  exact ⟨_, _, _, _, _, _, _, _, _, rfl, ho, hi, hap, hb⟩
theorem stp_no {st : AS} {R : Mov} : stp st (R, false) = ⟨st.mon, st.cnt, st.cod ++ [1]⟩ := rfl
theorem stp_yes {st : AS} {R : Mov} : stp st (R, true) = ⟨movM st.mon st.cnt R, movC st.mon st.cnt R, st.cod ++ [codR st.mon st.cnt R]⟩ := rfl
set_option maxHeartbeats 16000000 in
set_option maxRecDepth 100000 in
theorem specMovedAll_any (X : BkX) (v : Value) (ss : List ByteArray) (rs : List (Mov × Bool)) (w : World) (hx : RdBk w X) (hr : RdS w v ss) (hs : ∀ k (h : k < ss.length), ss[k].size ≤ 1048576) (hn : ss.length ≤ 1048576) (hR : RmAll ss rs) (hl : X.mon.length + X.cnt.length ≤ 1048576) :
    Calls Tryd.prog 15 #[.agg #[X.vm, X.vc], v] w fun e w' => AllRes w (allR X.mon X.cnt rs) e w' := by
  have HB : Hid (∀ W, RdBk W X → Calls Tryd.prog 12 #[.agg #[X.vm, X.vc]] W fun e w' => e = .returned (.bool (bankOk X.mon X.cnt)) ∧ Below W.heap.size W w') := fun W h => specBankOk_any X W h
  have HC : Hid (∀ W, RdBk W X → Calls Tryd.prog 33 #[.agg #[X.vm, X.vc]] W fun e w' => ToBk W X.mon X.cnt e w') := fun W h => copyBk_any X W h (.inr hl)
  obtain ⟨va, vc, rfl, hlc, hlm, hjunk⟩ := id hr
  clear hjunk
  unfold maxLen at hlm
  obtain ⟨n, hnn⟩ : ∃ n, n = ss.length := ⟨_, rfl⟩
  have HN : Hid (n = ss.length) := hnn
  have HRD : Hid (RdS w (.slice va n vc) ss) := by unfold Hid; rw [hnn]; exact hr
  have HS : Hid (∀ k (h : k < ss.length), ss[k].size ≤ 1048576) := hs
  have HR : Hid (RmAll ss rs) := hR
  rw [← hnn] at hn hlc ⊢
  clear hr hs hR hnn
  obtain ⟨Q0, o0, s0⟩ := all_start X w
  obtain ⟨d0, d1⟩ := Q0.arg X rfl
  cases hk : bankOk X.mon X.cnt with
  | false =>
    have HZ : Hid (allR X.mon X.cnt rs = ⟨[], [], []⟩) := by unfold Hid allR; rw [hk]; rfl
    rw [hk] at HB
    clear hk HC
    go_enter Tryd.func15, Tryd.ntmps15
    go_wp2_with fail
    refine (HB.out _ (hx.below Q0.bel)).mono ?_
    rintro e w1 ⟨rfl, hb1⟩
    have Q1 := Q0.on hb1
    have o1 := o0.below hb1
    obtain ⟨z0, z1, z2, z3⟩ := (Q1.bx ⟨w.heap.size + 1, w.heap.size + 2, zBk⟩ (by simp)).facts
    simp only at z0 z1 z2 z3
    have zz := ((Q1.bx ⟨w.heap.size + 1, w.heap.size + 2, zBk⟩ (by simp)).set0 (u := .slice none 0 0)).set1 (u := .slice none 0 0)
    obtain ⟨f0, f1, -, -⟩ := zz.facts
    have HF : Hid (AllRes _ _ _ _) := all_zero HZ.out Q1 o1
    clear Q0 o0 s0 d0 d1 hb1 Q1 o1 zz
    go_wp2
    exact bodyPost_ret (v := .tuple #[.agg #[.slice none 0 0, .slice none 0 0], .slice (some ⟨w.heap.size + 2, 0, none⟩) 0 0]) (by simp [results, Tryd.results15, go_sem, f0, f1]) rfl HF.out
  | true =>
    have HA : Hid (allR X.mon X.cnt rs = runA ⟨X.mon, X.cnt, []⟩ rs) := by unfold Hid allR; rw [if_pos hk]
    rw [hk] at HB
    clear hk
    go_enter Tryd.func15, Tryd.ntmps15
    go_wp2_with fail
    refine (HB.out _ (hx.below Q0.bel)).mono ?_
    rintro e w1 ⟨rfl, hb1⟩
    have Q1 := Q0.on hb1
    have o1 := o0.below hb1
    have s1 : w.heap.size + 3 ≤ w1.heap.size := by have := hb1.size; omega
    clear Q0 o0 s0 d0 d1 hb1 HB
    obtain ⟨d0, d1⟩ := Q1.arg X rfl
    go_wp2_with fail
    refine (HC.out _ (hx.below Q1.bel)).mono ?_
    intro e w2 h2
    obtain ⟨ya, yn, yc, yd, ym, ye, rfl, oY, hb2⟩ := h2.open
    clear h2 d0 d1 HC
    have Q2 := (Q1.on hb2).on (below1 w2 (.cells #[.slice ya yn yc, .slice yd ym ye] 26))
    have A0 : AQ w (w2.alloc (.cells #[.slice ya yn yc, .slice yd ym ye] 26)) X w2.heap.size w1.heap.size ⟨.slice ya yn yc, .slice yd ym ye, X.mon, X.cnt⟩ (.slice (some ⟨w.heap.size + 2, 0, none⟩) 0 0) [] :=
      ⟨QB.put (Y := ⟨.slice ya yn yc, .slice yd ym ye, X.mon, X.cnt⟩) Q2 (boxBk_new _ _ _) (oY.below (below1 _ _)), (o1.below hb2).below (below1 _ _), fun k hk e => by
        have h1 : w.heap.size + 2 = k := Option.some.inj (mem_oneB.1 hk)
        have h2 := (oY.bound e).1
        omega, by have := hb2.size; omega, by omega⟩
    clear Q1 o1 Q2 oY hb2 s1
    go_wp2
    generalize w2.alloc (.cells #[.slice ya yn yc, .slice yd ym ye] 26) = W0 at A0 ⊢
    obtain ⟨ob, hob⟩ : ∃ ob, ob = w2.heap.size := ⟨_, rfl⟩
    rw [← hob] at A0 ⊢
    clear hob
    go_loopw [6, 8] (fun cc ii wr => ∃ (k lo : Nat) (Y : BkX), ii = .int .i64 k ∧ k ≤ n ∧ AQ w wr X ob lo Y cc (nthA ⟨X.mon, X.cnt, []⟩ rs k).cod ∧ Hid (Y.mon = (nthA ⟨X.mon, X.cnt, []⟩ rs k).mon ∧ Y.cnt = (nthA ⟨X.mon, X.cnt, []⟩ rs k).cnt)) (fun _ i _ => n - (intOf i).toNat)
    case atStart => exact ⟨0, _, _, rfl, Nat.zero_le _, A0, ⟨rfl, rfl⟩⟩
    case round =>
      clear A0
      obtain ⟨k, lo, Y, rfl, hkn, A, HY⟩ := hrel
      have hkr : k ≤ rs.length := by rw [HR.out.1, ← HN.out]; exact hkn
      have HLN : Hid (Y.mon.length + Y.cnt.length ≤ 1048576 ∧ (nthA ⟨X.mon, X.cnt, []⟩ rs k).cod.length = k) := by
        have h := nthA_len ⟨X.mon, X.cnt, []⟩ rs k hkr
        simp only [List.length_nil] at h
        unfold Hid
        rw [HY.out.1, HY.out.2]
        omega
      obtain ⟨yvm, yvc, ymon, ycnt⟩ := Y
      obtain ⟨pa, pc, e1⟩ := ownSl A.ow.mon
      obtain ⟨qa, qc, e2⟩ := ownSl A.ow.cnt
      obtain ⟨ca, cc, e3⟩ := ownSl A.codes
      rw [HLN.out.2] at e3
      simp only at e1 e2 e3
      generalize ymon.length = yml at e1
      generalize ycnt.length = ycl at e2
      subst e1
      subst e2
      subst e3
      by_cases hlt : k < n
      · have hkr2 : k < rs.length := by rw [HR.out.1, ← HN.out]; exact hlt
        obtain ⟨pb, po, rfl, q⟩ := rdS_atM (HRD.out.below A.q.bel) k (by rw [← HN.out]; exact hlt)
        have hsz := HS.out k (by rw [← HN.out]; exact hlt)
        have hrm := HR.out.2 k (by rw [← HN.out]; exact hlt) hkr2
        have HNX : Hid (nthA ⟨X.mon, X.cnt, []⟩ rs (k + 1) = stp (nthA ⟨X.mon, X.cnt, []⟩ rs k) rs[k]) := nthA_succ _ rs k hkr2
        generalize ss[k]'(by rw [← HN.out]; exact hlt) = y at q hsz hrm
        generalize rs[k] = r at hrm HNX
        obtain ⟨R, o⟩ := r
        simp only at hrm
        have HRM : Hid (∀ W, Calls Tryd.prog 38 #[.string y] W fun e w' => e = .returned (.tuple #[.agg #[.int .i64 R.fr, .int .i64 R.to', .int .i64 R.sum, .int .i64 R.cou], .bool o]) ∧ Below W.heap.size W w') := fun W => specReadMove_any y R o W hsz hrm
        clear hsz hrm
        go_wp2_with fail
        refine (HRM.out _).mono ?_
        rintro e u1 ⟨rfl, hb1⟩
        have bM := below1 u1 (.cells #[.int .i64 R.fr, .int .i64 R.to', .int .i64 R.sum, .int .i64 R.cou] 28)
        have xM := box4_new u1 28 R
        have A1 := (A.on hb1).on bM
        clear A hb1 q HRM bM
        cases o with
        | false =>
          rw [stp_no] at HNX
          have hone := (ownI_one (u1.alloc (.cells #[.int .i64 R.fr, .int .i64 R.to', .int .i64 R.sum, .int .i64 R.cou] 28)) 1).rd
          rw [show (u1.alloc (.cells #[.int .i64 R.fr, .int .i64 R.to', .int .i64 R.sum, .int .i64 R.cou] 28)).heap.size = u1.heap.size + 1 from by simp] at hone
          have oc := A1.codes.below (below1 _ (.cells #[.int .i64 1] 2))
          have hsz2 : w.heap.size + 2 ≤ ((u1.alloc (.cells #[.int .i64 R.fr, .int .i64 R.to', .int .i64 R.sum, .int .i64 R.cou] 28)).alloc (.cells #[.int .i64 1] 2)).heap.size := by have := A1.bx.lt; have := A1.ne; simp at *; omega
          clear xM
          go_wp2_with (at_builtin; (refine wpList_intsK_at rfl _ _ rfl (w.heap.size + 2) _ _ (nthA ⟨X.mon, X.cnt, []⟩ rs k).cod [1] rfl rfl oc hone (by rw [HLN.out.2]; simp; omega) hsz2 ?_))
          intro v' w3 ow3 hg hat
          have A2 := A1.grow hg ow3 (by simpa using hat)
          clear oc hone hsz2 hg hat ow3 A1
          have HY2 : Hid (ymon = (nthA ⟨X.mon, X.cnt, []⟩ rs (k + 1)).mon ∧ ycnt = (nthA ⟨X.mon, X.cnt, []⟩ rs (k + 1)).cnt) := by unfold Hid; rw [HNX.out]; exact HY.out
          have HC2 : Hid ((nthA ⟨X.mon, X.cnt, []⟩ rs k).cod ++ [1] = (nthA ⟨X.mon, X.cnt, []⟩ rs (k + 1)).cod) := by unfold Hid; rw [HNX.out]
          rw [HC2.out] at A2
          clear HNX HY HLN
          go_wp2
          go_roundw
          case rel => exact ⟨k + 1, lo, _, by go_num, by omega, A2, HY2⟩
          case measure => simp [intOf]; omega
        | true =>
          rw [stp_yes] at HNX
          have HMV : Hid (∀ W, RdBk W ⟨.slice pa yml pc, .slice qa ycl qc, ymon, ycnt⟩ → Calls Tryd.prog 9 #[.agg #[.slice pa yml pc, .slice qa ycl qc], .agg #[.int .i64 R.fr, .int .i64 R.to', .int .i64 R.sum, .int .i64 R.cou]] W fun e w' => MovRes W (movM ymon ycnt R) (movC ymon ycnt R) (codR ymon ycnt R) e w') := fun W h => specMoved_any ⟨.slice pa yml pc, .slice qa ycl qc, ymon, ycnt⟩ R W h
          have HY2 : Hid (movM ymon ycnt R = (nthA ⟨X.mon, X.cnt, []⟩ rs (k + 1)).mon ∧ movC ymon ycnt R = (nthA ⟨X.mon, X.cnt, []⟩ rs (k + 1)).cnt) := by
            unfold Hid
            rw [HNX.out, ← HY.out.1, ← HY.out.2]
            exact ⟨rfl, rfl⟩
          have HC2 : Hid ((nthA ⟨X.mon, X.cnt, []⟩ rs k).cod ++ [codR ymon ycnt R] = (nthA ⟨X.mon, X.cnt, []⟩ rs (k + 1)).cod) := by
            unfold Hid
            rw [HNX.out, ← HY.out.1, ← HY.out.2]
          generalize codR ymon ycnt R = kk at HMV HC2
          clear HNX HY
          obtain ⟨g0, g1, g2, g3⟩ := A1.bx.facts
          obtain ⟨x0, x1, x2, x3⟩ := xM.facts
          simp only at g0 g1 g2 g3
          clear xM
          go_wp2_with fail
          refine (HMV.out _ A1.ow.rd).mono ?_
          intro e u3 h3
          obtain ⟨ka, kn, kc, kd, km, ke, rfl, oZ, hb3⟩ := h3.open
          have hapz : ∀ j ∈ oneB (.slice ca k cc), j ∉ bkB ⟨.slice ka kn kc, .slice kd km ke, movM ymon ycnt R, movC ymon ycnt R⟩ := fun j hj e => by
            have h1 := (World.ownsRow.lt A1.codes j (mem_oneB.1 hj)).2
            have h2 := (oZ.bound e).1
            omega
          have hlz : w.heap.size + 2 ≤ (u1.alloc (.cells #[.int .i64 R.fr, .int .i64 R.to', .int .i64 R.sum, .int .i64 R.cou] 28)).heap.size := by have := A1.bx.lt; have := A1.ne; omega
          generalize (u1.alloc (.cells #[.int .i64 R.fr, .int .i64 R.to', .int .i64 R.sum, .int .i64 R.cou] 28)).heap.size = lz at oZ hlz
          have A2 := A1.on hb3
          clear h3 hb3 A1 g0 g1 g2 g3 x0 x1 x2 x3 HMV
          obtain ⟨g0, g1, g2, g3⟩ := A2.bx.facts
          have glt := A2.bx.lt
          simp only at g0 g1 g2 g3
          have A3 := A2.fill oZ hlz hapz
          simp only at A3
          have A4 := A3.on (below1 _ (.cells #[.slice ka kn kc, .slice kd km ke] 26))
          have hone := (ownI_one (((u3.setCell ⟨ob, 0, none⟩ (.slice ka kn kc)).setCell ⟨ob, 1, none⟩ (.slice kd km ke)).alloc (.cells #[.slice ka kn kc, .slice kd km ke] 26)) kk).rd
          rw [show (((u3.setCell ⟨ob, 0, none⟩ (.slice ka kn kc)).setCell ⟨ob, 1, none⟩ (.slice kd km ke)).alloc (.cells #[.slice ka kn kc, .slice kd km ke] 26)).heap.size = u3.heap.size + 1 from by simp] at hone
          have oc := A4.codes.below (below1 _ (.cells #[.int .i64 kk] 2))
          have hsz2 : w.heap.size + 2 ≤ ((((u3.setCell ⟨ob, 0, none⟩ (.slice ka kn kc)).setCell ⟨ob, 1, none⟩ (.slice kd km ke)).alloc (.cells #[.slice ka kn kc, .slice kd km ke] 26)).alloc (.cells #[.int .i64 kk] 2)).heap.size := by have := A2.ne; simp; omega
          clear A2 A3 oZ hapz hlz
          go_wp2_with (at_builtin; (refine wpList_intsK_at rfl _ _ rfl (w.heap.size + 2) _ _ (nthA ⟨X.mon, X.cnt, []⟩ rs k).cod [kk] rfl rfl oc hone (by rw [HLN.out.2]; simp; omega) hsz2 ?_))
          intro v' w3 ow3 hg hat
          have A5 := A4.grow hg ow3 (by simpa using hat)
          clear oc hone hsz2 hg hat ow3 A4 g0 g1 g2 g3 glt
          rw [HC2.out] at A5
          clear HLN
          go_wp2
          go_roundw
          case rel => exact ⟨k + 1, lz, _, by go_num, by omega, A5, HY2⟩
          case measure => simp [intOf]; omega
      · have hke : k = n := by omega
        subst hke
        have HFN : Hid (allR X.mon X.cnt rs = nthA ⟨X.mon, X.cnt, []⟩ rs k) := by
          unfold Hid
          rw [HA.out, ← nthA_all]
          congr 1
          rw [HR.out.1, ← HN.out]
        have HF : Hid (AllRes _ _ _ _) := all_end A HY.out.1 HY.out.2
        rw [← HFN.out] at HF
        obtain ⟨z0, z1, z2, z3⟩ := A.out.facts
        obtain ⟨g0, g1, -, -⟩ := A.bx.facts
        have zz := (A.out.set0 (u := .slice pa yml pc)).set1 (u := .slice qa ycl qc)
        obtain ⟨f0, f1, -, -⟩ := zz.facts
        simp only at g0 g1 HF
        clear A zz HY HLN HFN HA
        go_wp2
        exact bodyPost_ret (v := .tuple #[.agg #[.slice pa yml pc, .slice qa ycl qc], .slice ca k cc]) (by simp [results, Tryd.results15, go_sem, f0, f1]) rfl HF.out
set_option maxHeartbeats 16000000 in
set_option maxRecDepth 100000 in
theorem implMovedAll_any (X : BkX) (v : Value) (ss : List ByteArray) (rs : List (Mov × Bool)) (w : World) (hx : RdBk w X) (hr : RdS w v ss) (hs : ∀ k (h : k < ss.length), ss[k].size ≤ 1048576) (hn : ss.length ≤ 1048576) (hR : RmAll ss rs) (hl : X.mon.length + X.cnt.length ≤ 1048576) (he : MEnv w) :
    Calls Tryd.prog 8 #[.agg #[X.vm, X.vc], v] w fun e w' => AllRes w (allR X.mon X.cnt rs) e w' := by
  have HE : Hid (MEnv w) := he
  clear he
  have HB : Hid (∀ W, RdBk W X → Calls Tryd.prog 11 #[.agg #[X.vm, X.vc]] W fun e w' => e = .returned (.bool (bankOk X.mon X.cnt)) ∧ Below W.heap.size W w') := fun W h => implBankOk_any X W h
  have HC : Hid (∀ W, RdBk W X → Calls Tryd.prog 26 #[.agg #[X.vm, X.vc]] W fun e w' => ToBk W X.mon X.cnt e w') := fun W h => copiedBk_any X W h (.inr hl)
  obtain ⟨va, vc, rfl, hlc, hlm, hjunk⟩ := id hr
  clear hjunk
  unfold maxLen at hlm
  obtain ⟨n, hnn⟩ : ∃ n, n = ss.length := ⟨_, rfl⟩
  have HN : Hid (n = ss.length) := hnn
  have HRD : Hid (RdS w (.slice va n vc) ss) := by unfold Hid; rw [hnn]; exact hr
  have HS : Hid (∀ k (h : k < ss.length), ss[k].size ≤ 1048576) := hs
  have HR : Hid (RmAll ss rs) := hR
  rw [← hnn] at hn hlc ⊢
  clear hr hs hR hnn
  obtain ⟨Q0, o0, s0⟩ := all_start X w
  obtain ⟨d0, d1⟩ := Q0.arg X rfl
  cases hk : bankOk X.mon X.cnt with
  | false =>
    have HZ : Hid (allR X.mon X.cnt rs = ⟨[], [], []⟩) := by unfold Hid allR; rw [hk]; rfl
    rw [hk] at HB
    clear hk HC
    go_enter Tryd.func8, Tryd.ntmps8
    go_wp2_with fail
    refine (HB.out _ (hx.below Q0.bel)).mono ?_
    rintro e w1 ⟨rfl, hb1⟩
    have Q1 := Q0.on hb1
    have o1 := o0.below hb1
    obtain ⟨z0, z1, z2, z3⟩ := (Q1.bx ⟨w.heap.size + 1, w.heap.size + 2, zBk⟩ (by simp)).facts
    simp only at z0 z1 z2 z3
    have zz := ((Q1.bx ⟨w.heap.size + 1, w.heap.size + 2, zBk⟩ (by simp)).set0 (u := .slice none 0 0)).set1 (u := .slice none 0 0)
    obtain ⟨f0, f1, -, -⟩ := zz.facts
    have HF : Hid (AllRes _ _ _ _) := all_zero HZ.out Q1 o1
    clear Q0 o0 s0 d0 d1 hb1 Q1 o1 zz
    go_wp2
    exact bodyPost_ret (v := .tuple #[.agg #[.slice none 0 0, .slice none 0 0], .slice (some ⟨w.heap.size + 2, 0, none⟩) 0 0]) (by simp [results, Tryd.results8, go_sem, f0, f1]) rfl HF.out
  | true =>
    have HA : Hid (allR X.mon X.cnt rs = runA ⟨X.mon, X.cnt, []⟩ rs) := by unfold Hid allR; rw [if_pos hk]
    rw [hk] at HB
    clear hk
    go_enter Tryd.func8, Tryd.ntmps8
    go_wp2_with fail
    refine (HB.out _ (hx.below Q0.bel)).mono ?_
    rintro e w1 ⟨rfl, hb1⟩
    have Q1 := Q0.on hb1
    have o1 := o0.below hb1
    have s1 : w.heap.size + 3 ≤ w1.heap.size := by have := hb1.size; omega
    clear Q0 o0 s0 d0 d1 hb1 HB
    obtain ⟨d0, d1⟩ := Q1.arg X rfl
    go_wp2_with fail
    refine (HC.out _ (hx.below Q1.bel)).mono ?_
    intro e w2 h2
    obtain ⟨ya, yn, yc, yd, ym, ye, rfl, oY, hb2⟩ := h2.open
    clear h2 d0 d1 HC
    have Q2 := (Q1.on hb2).on (below1 w2 (.cells #[.slice ya yn yc, .slice yd ym ye] 26))
    have A0 : AQ w (w2.alloc (.cells #[.slice ya yn yc, .slice yd ym ye] 26)) X w2.heap.size w1.heap.size ⟨.slice ya yn yc, .slice yd ym ye, X.mon, X.cnt⟩ (.slice (some ⟨w.heap.size + 2, 0, none⟩) 0 0) [] :=
      ⟨QB.put (Y := ⟨.slice ya yn yc, .slice yd ym ye, X.mon, X.cnt⟩) Q2 (boxBk_new _ _ _) (oY.below (below1 _ _)), (o1.below hb2).below (below1 _ _), fun k hk e => by
        have h1 : w.heap.size + 2 = k := Option.some.inj (mem_oneB.1 hk)
        have h2 := (oY.bound e).1
        omega, by have := hb2.size; omega, by omega⟩
    clear Q1 o1 Q2 oY hb2 s1
    go_wp2
    generalize w2.alloc (.cells #[.slice ya yn yc, .slice yd ym ye] 26) = W0 at A0 ⊢
    obtain ⟨ob, hob⟩ : ∃ ob, ob = w2.heap.size := ⟨_, rfl⟩
    rw [← hob] at A0 ⊢
    clear hob
    go_loopw [6, 23] (fun cc ii wr => ∃ (k lo : Nat) (Y : BkX), ii = .int .i64 k ∧ k ≤ n ∧ AQ w wr X ob lo Y cc (nthA ⟨X.mon, X.cnt, []⟩ rs k).cod ∧ Hid (Y.mon = (nthA ⟨X.mon, X.cnt, []⟩ rs k).mon ∧ Y.cnt = (nthA ⟨X.mon, X.cnt, []⟩ rs k).cnt)) (fun _ i _ => n - (intOf i).toNat)
    case atStart => exact ⟨0, _, _, rfl, Nat.zero_le _, A0, ⟨rfl, rfl⟩⟩
    case round =>
      clear A0
      obtain ⟨k, lo, Y, rfl, hkn, A, HY⟩ := hrel
      have hkr : k ≤ rs.length := by rw [HR.out.1, ← HN.out]; exact hkn
      have HLN : Hid (Y.mon.length + Y.cnt.length ≤ 1048576 ∧ (nthA ⟨X.mon, X.cnt, []⟩ rs k).cod.length = k) := by
        have h := nthA_len ⟨X.mon, X.cnt, []⟩ rs k hkr
        simp only [List.length_nil] at h
        unfold Hid
        rw [HY.out.1, HY.out.2]
        omega
      obtain ⟨yvm, yvc, ymon, ycnt⟩ := Y
      obtain ⟨pa, pc, e1⟩ := ownSl A.ow.mon
      obtain ⟨qa, qc, e2⟩ := ownSl A.ow.cnt
      obtain ⟨ca, cc, e3⟩ := ownSl A.codes
      rw [HLN.out.2] at e3
      simp only at e1 e2 e3
      generalize ymon.length = yml at e1
      generalize ycnt.length = ycl at e2
      subst e1
      subst e2
      subst e3
      by_cases hlt : k < n
      · have hkr2 : k < rs.length := by rw [HR.out.1, ← HN.out]; exact hlt
        obtain ⟨pb, po, rfl, q⟩ := rdS_atM (HRD.out.below A.q.bel) k (by rw [← HN.out]; exact hlt)
        have hsz := HS.out k (by rw [← HN.out]; exact hlt)
        have hrm := HR.out.2 k (by rw [← HN.out]; exact hlt) hkr2
        have HNX : Hid (nthA ⟨X.mon, X.cnt, []⟩ rs (k + 1) = stp (nthA ⟨X.mon, X.cnt, []⟩ rs k) rs[k]) := nthA_succ _ rs k hkr2
        generalize ss[k]'(by rw [← HN.out]; exact hlt) = y at q hsz hrm
        generalize rs[k] = r at hrm HNX
        obtain ⟨R, o⟩ := r
        simp only at hrm
        have HRM : Hid (∀ W, MEnv W → Calls Tryd.prog 32 #[.string y] W fun e w' => e = .returned (.tuple #[.agg #[.int .i64 R.fr, .int .i64 R.to', .int .i64 R.sum, .int .i64 R.cou], .bool o]) ∧ Below W.heap.size W w') := fun W h => implReadMove_any y R o W hsz hrm h
        clear hsz hrm
        go_wp2_with fail
        refine (HRM.out _ (HE.out.on A.q.bel)).mono ?_
        rintro e u1 ⟨rfl, hb1⟩
        have bM := below1 u1 (.cells #[.int .i64 R.fr, .int .i64 R.to', .int .i64 R.sum, .int .i64 R.cou] 28)
        have xM := box4_new u1 28 R
        have A1 := (A.on hb1).on bM
        clear A hb1 q HRM bM
        cases o with
        | false =>
          rw [stp_no] at HNX
          have hone := (ownI_one (u1.alloc (.cells #[.int .i64 R.fr, .int .i64 R.to', .int .i64 R.sum, .int .i64 R.cou] 28)) 1).rd
          rw [show (u1.alloc (.cells #[.int .i64 R.fr, .int .i64 R.to', .int .i64 R.sum, .int .i64 R.cou] 28)).heap.size = u1.heap.size + 1 from by simp] at hone
          have oc := A1.codes.below (below1 _ (.cells #[.int .i64 1] 2))
          have hsz2 : w.heap.size + 2 ≤ ((u1.alloc (.cells #[.int .i64 R.fr, .int .i64 R.to', .int .i64 R.sum, .int .i64 R.cou] 28)).alloc (.cells #[.int .i64 1] 2)).heap.size := by have := A1.bx.lt; have := A1.ne; simp at *; omega
          clear xM
          go_wp2_with (at_builtin; (refine wpList_intsK_at rfl _ _ rfl (w.heap.size + 2) _ _ (nthA ⟨X.mon, X.cnt, []⟩ rs k).cod [1] rfl rfl oc hone (by rw [HLN.out.2]; simp; omega) hsz2 ?_))
          intro v' w3 ow3 hg hat
          have A2 := A1.grow hg ow3 (by simpa using hat)
          clear oc hone hsz2 hg hat ow3 A1
          have HY2 : Hid (ymon = (nthA ⟨X.mon, X.cnt, []⟩ rs (k + 1)).mon ∧ ycnt = (nthA ⟨X.mon, X.cnt, []⟩ rs (k + 1)).cnt) := by unfold Hid; rw [HNX.out]; exact HY.out
          have HC2 : Hid ((nthA ⟨X.mon, X.cnt, []⟩ rs k).cod ++ [1] = (nthA ⟨X.mon, X.cnt, []⟩ rs (k + 1)).cod) := by unfold Hid; rw [HNX.out]
          rw [HC2.out] at A2
          clear HNX HY HLN
          go_wp2
          go_roundw
          case rel => exact ⟨k + 1, lo, _, by go_num, by omega, A2, HY2⟩
          case measure => simp [intOf]; omega
        | true =>
          rw [stp_yes] at HNX
          have HMV : Hid (∀ W, RdBk W ⟨.slice pa yml pc, .slice qa ycl qc, ymon, ycnt⟩ → Calls Tryd.prog 6 #[.agg #[.slice pa yml pc, .slice qa ycl qc], .agg #[.int .i64 R.fr, .int .i64 R.to', .int .i64 R.sum, .int .i64 R.cou]] W fun e w' => MovRes W (movM ymon ycnt R) (movC ymon ycnt R) (codR ymon ycnt R) e w') := fun W h => implMoved_any ⟨.slice pa yml pc, .slice qa ycl qc, ymon, ycnt⟩ R W h (by simpa using HLN.out.1)
          have HY2 : Hid (movM ymon ycnt R = (nthA ⟨X.mon, X.cnt, []⟩ rs (k + 1)).mon ∧ movC ymon ycnt R = (nthA ⟨X.mon, X.cnt, []⟩ rs (k + 1)).cnt) := by
            unfold Hid
            rw [HNX.out, ← HY.out.1, ← HY.out.2]
            exact ⟨rfl, rfl⟩
          have HC2 : Hid ((nthA ⟨X.mon, X.cnt, []⟩ rs k).cod ++ [codR ymon ycnt R] = (nthA ⟨X.mon, X.cnt, []⟩ rs (k + 1)).cod) := by
            unfold Hid
            rw [HNX.out, ← HY.out.1, ← HY.out.2]
          generalize codR ymon ycnt R = kk at HMV HC2
          clear HNX HY
          obtain ⟨g0, g1, g2, g3⟩ := A1.bx.facts
          obtain ⟨x0, x1, x2, x3⟩ := xM.facts
          simp only at g0 g1 g2 g3
          clear xM
          go_wp2_with fail
          refine (HMV.out _ A1.ow.rd).mono ?_
          intro e u3 h3
          obtain ⟨ka, kn, kc, kd, km, ke, rfl, oZ, hb3⟩ := h3.open
          have hapz : ∀ j ∈ oneB (.slice ca k cc), j ∉ bkB ⟨.slice ka kn kc, .slice kd km ke, movM ymon ycnt R, movC ymon ycnt R⟩ := fun j hj e => by
            have h1 := (World.ownsRow.lt A1.codes j (mem_oneB.1 hj)).2
            have h2 := (oZ.bound e).1
            omega
          have hlz : w.heap.size + 2 ≤ (u1.alloc (.cells #[.int .i64 R.fr, .int .i64 R.to', .int .i64 R.sum, .int .i64 R.cou] 28)).heap.size := by have := A1.bx.lt; have := A1.ne; omega
          generalize (u1.alloc (.cells #[.int .i64 R.fr, .int .i64 R.to', .int .i64 R.sum, .int .i64 R.cou] 28)).heap.size = lz at oZ hlz
          have A2 := A1.on hb3
          clear h3 hb3 A1 g0 g1 g2 g3 x0 x1 x2 x3 HMV
          obtain ⟨g0, g1, g2, g3⟩ := A2.bx.facts
          have glt := A2.bx.lt
          simp only at g0 g1 g2 g3
          have A3 := A2.fill oZ hlz hapz
          simp only at A3
          have A4 := A3
          have hone := (ownI_one ((u3.setCell ⟨ob, 0, none⟩ (.slice ka kn kc)).setCell ⟨ob, 1, none⟩ (.slice kd km ke)) kk).rd
          rw [show ((u3.setCell ⟨ob, 0, none⟩ (.slice ka kn kc)).setCell ⟨ob, 1, none⟩ (.slice kd km ke)).heap.size = u3.heap.size from by simp] at hone
          have oc := A4.codes.below (below1 _ (.cells #[.int .i64 kk] 2))
          have hsz2 : w.heap.size + 2 ≤ (((u3.setCell ⟨ob, 0, none⟩ (.slice ka kn kc)).setCell ⟨ob, 1, none⟩ (.slice kd km ke)).alloc (.cells #[.int .i64 kk] 2)).heap.size := by have := A2.ne; simp; omega
          clear A2 A3 oZ hapz hlz
          go_wp2_with (at_builtin; (refine wpList_intsK_at rfl _ _ rfl (w.heap.size + 2) _ _ (nthA ⟨X.mon, X.cnt, []⟩ rs k).cod [kk] rfl rfl oc hone (by rw [HLN.out.2]; simp; omega) hsz2 ?_))
          intro v' w3 ow3 hg hat
          have A5 := A4.grow hg ow3 (by simpa using hat)
          clear oc hone hsz2 hg hat ow3 A4 g0 g1 g2 g3 glt
          rw [HC2.out] at A5
          clear HLN
          go_wp2
          go_roundw
          case rel => exact ⟨k + 1, lz, _, by go_num, by omega, A5, HY2⟩
          case measure => simp [intOf]; omega
      · have hke : k = n := by omega
        subst hke
        have HFN : Hid (allR X.mon X.cnt rs = nthA ⟨X.mon, X.cnt, []⟩ rs k) := by
          unfold Hid
          rw [HA.out, ← nthA_all]
          congr 1
          rw [HR.out.1, ← HN.out]
        have HF : Hid (AllRes _ _ _ _) := all_end A HY.out.1 HY.out.2
        rw [← HFN.out] at HF
        obtain ⟨z0, z1, z2, z3⟩ := A.out.facts
        obtain ⟨g0, g1, -, -⟩ := A.bx.facts
        have zz := (A.out.set0 (u := .slice pa yml pc)).set1 (u := .slice qa ycl qc)
        obtain ⟨f0, f1, -, -⟩ := zz.facts
        simp only at g0 g1 HF
        clear A zz HY HLN HFN HA
        go_wp2
        exact bodyPost_ret (v := .tuple #[.agg #[.slice pa yml pc, .slice qa ycl qc], .slice ca k cc]) (by simp [results, Tryd.results8, go_sem, f0, f1]) rfl HF.out
end Go.Proofs.YtdleolgkbkoekaaDoor
