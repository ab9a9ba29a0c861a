/- What a small tree leaves room for. A table that came in as an argument of a law: what is read of it. A tree that came in as an argument of a law: what is read of it. From a plain walk to one inside a round of a range over a function: no function of the program is walked here. The contract of the program's iterator over a tree's tables. -/
import Derived.Test.YtjnhhdnfncfedaaGreatTreMark
import Derived.Test.YtjnhhdnfncfedaaGreatG16
import Derived.OpenShut
import Derived.SliceStrings
import Derived.ChangeArms
import Derived.Test.YtjnhhdnfncfedaaGreatG38
import Derived.Test.YtjnhhdnfncfedaaGreatG00
import Derived.RangeFuncNested
import Derived.RangeFuncBound
import Derived.RangeFuncCalls
import Derived.RangeFuncLeaves
import Derived.RangeFuncBox
import Derived.Shelf.Abstract
import Derived.Shelf.RegionOpen
import Derived.OwnWalkIn
import Derived.TacticsInMore
import Derived.LoopNIn
import Derived.LoopIn
import Derived.Deep.RegionHeld3
import Derived.Test.YtjnhhdnfncfedaaGreatG27
namespace Go.Proofs.YtjnhhdnfncfedaaGreat
open Go.RowKit
theorem cntT_two (ts : List TV) : cntT ts ≤ 2 * tsz ts ∧ (ts ≠ [] → 0 < tsz ts) := by
  induction ts with
  | nil => exact ⟨Nat.le_refl _, fun h => absurd rfl h⟩
  | cons a r ih =>
    have e1 : cntT (a :: r) = (2 + a.T.bits.length + a.T.blocks.length) + cntT r := by simp [cntT]
    have e2 : tsz (a :: r) = (1 + a.T.bits.length + a.T.blocks.length) + tsz r := by simp [tsz]
    have := ih.1
    exact ⟨by omega, fun _ => by omega⟩
theorem SmallTr.room {X : TrX} (h : SmallTr X) : Room 1 X := by
  have hs := h.sum
  obtain ⟨y1, y2⟩ := cntT_two X.ys
  obtain ⟨o1, o2⟩ := cntT_two X.os
  refine ⟨by omega, ?_, ?_, by unfold cntTr; omega⟩
  · by_cases hy : X.ys = []
    · exact .inl hy
    · have := y2 hy
      exact .inr (by omega)
  · by_cases hy : X.os = []
    · exact .inl hy
    · have := o2 hy
      exact .inr (by omega)
theorem tsz_same {us vs : List TV} (h : us.map (·.T) = vs.map (·.T)) : tsz us = tsz vs := by
  have e : ∀ ts : List TV, tsz ts = ((ts.map (·.T)).map (fun T : Tbl => 1 + T.bits.length + T.blocks.length)).sum := fun ts => by unfold tsz; rw [List.map_map]; rfl
  rw [e, e, h]
theorem small_same {X Y : TrX} (h : Y.tre = X.tre) (hf : SmallTr X) : SmallTr Y := by
  have hmem : Y.mem = X.mem := congrArg Tre.mem h
  have hyo : Y.ys.map (·.T) = X.ys.map (·.T) := congrArg Tre.young h
  have hol : Y.os.map (·.T) = X.os.map (·.T) := congrArg Tre.old h
  have hsn : Y.snaps = X.snaps := congrArg Tre.snaps h
  refine ⟨by rw [hmem, hsn, tsz_same hyo, tsz_same hol]; exact hf.sum, by rw [hmem]; exact hf.mem, fun t ht => ?_, fun t ht => ?_⟩
  · have : t.T ∈ X.ys.map (·.T) := by rw [← hyo]; exact List.mem_map_of_mem ht
    obtain ⟨u, hu, e⟩ := List.mem_map.1 this
    rw [← e]; exact hf.young u hu
  · have : t.T ∈ X.os.map (·.T) := by rw [← hol]; exact List.mem_map_of_mem ht
    obtain ⟨u, hu, e⟩ := List.mem_map.1 this
    rw [← e]; exact hf.old u hu
/-- A tree's box outside what turned. -/
theorem Touch.tre {bs : List Nat} {w w' : World} {b : Nat} {X : TrX} (h : Touch bs w w') (ht : TreAt w b X) (hn : b ∉ bs) : TreAt w' b X := ht.of_block (h.block b ht.lt hn)
end Go.Proofs.YtjnhhdnfncfedaaGreat
namespace Go.Proofs.YtjnhhdnfncfedaaGreat
open Go.RowKit Go.ChangeShapes Go.WideShapes
theorem cellsT9 : Tryz.prog.cellsOf 9 = 1 := by kernel_rfl
theorem cellsT24 : Tryz.prog.cellsOf 24 = 1 := by kernel_rfl
theorem cellsT80 : Tryz.prog.cellsOf 80 = 1 := by kernel_rfl
theorem cellsT82 : Tryz.prog.cellsOf 82 = 4 := by kernel_rfl
theorem rdI_of {w : World} {x : Addr} {len cap : Nat} {zs : List Int} (hl : len ≤ cap) (hm : cap ≤ maxLen) (hz : zs.length = cap) (hcell : ∀ i, i < zs.length → w.cell? (x.add i) = some (.int .i64 (zs.getD i 0))) :
    ∃ ns, RdI w (.slice (some x) len cap) ns := by
  refine ⟨zs.take len, some x, cap, ?_, ?_, hm, (fun h => by cases h), ?_⟩
  · congr 1; rw [List.length_take]; omega
  · rw [List.length_take]; omega
  · by_cases h0 : len = 0
    · left; subst h0; simp
    · right
      obtain ⟨b, off, spot⟩ := x
      have hc := hcell 0 (by omega)
      have hspot : spot = none := by simpa [Addr.add] using World.cell?_spot hc
      subst hspot
      refine ⟨b, off, rfl, fun i hi => ?_⟩
      have hi' : i < len := by rw [List.length_take] at hi; omega
      have h := hcell i (by omega)
      have hg : zs.getD i 0 = zs[i]'(by omega) := by simp [List.getD, List.getElem?_eq_getElem (show i < zs.length by omega)]
      rw [Addr.add_lit] at h
      rw [h, hg]
      simp only [List.getElem_take]
set_option maxRecDepth 100000 in
theorem open_table {H : Type} {enc : TypeId × Value → H} {w : World} {fuel : Nat} {cs : List Value} {x : DataW H × List MemPlace} (h : DataW.trod enc Tryz.prog w 0 (fun _ => true) true fuel 82 cs = some x) :
    ∃ (T : Tbl) (vb vk : Value), cs = [.string T.first, .string T.last, vb, vk] ∧ RdI w vb T.bits ∧ RdS w vk T.blocks ∧ T.first.size ≤ maxLen ∧ T.last.size ≤ maxLen ∧ ∀ s ∈ T.blocks, s.size ≤ maxLen := by
  obtain ⟨xs, n, _, _, hl, hxl, hf⟩ := DataW.trod_struct Tryz.underlying82 h
  rw [cellsT82] at hl
  match xs, hxl, cs, hl with
  | [y0, y1, y2, y3], _, [v0, v1, v2, v3], _ =>
    have g0 := hf 0 _ rfl
    have g1 := hf 1 _ rfl
    have g2 := hf 2 _ rfl
    have g3 := hf 3 _ rfl
    simp [cellsT9, cellsT24, cellsT80] at g0 g1 g2 g3
    obtain ⟨s0, h0, _, z0⟩ := DataW.trod_string Tryz.underlying9 g0
    obtain ⟨s1, h1, _, z1⟩ := DataW.trod_string Tryz.underlying9 g1
    simp only [List.cons.injEq, and_true] at h0 h1
    subst h0 h1
    obtain ⟨ns, hi⟩ : ∃ ns, RdI w v2 ns := by
      rcases open_ints Tryz.underlying24 Tryz.underlying2 (by kernel_rfl) g2 with ⟨hcs, _⟩ | ⟨x, l, c, zs, hcs, _, hl, hm, hz, _, hcell, _⟩
      · simp at hcs
        subst hcs
        exact ⟨[], rdI_nil w⟩
      · simp at hcs
        subst hcs
        exact rdI_of hl hm (by simpa using hz) hcell
    obtain ⟨ss, hk, hz⟩ : ∃ ss, RdS w v3 ss ∧ ∀ s ∈ ss, s.size ≤ maxLen := by
      rcases open_strings Tryz.underlying80 Tryz.underlying9 (by kernel_rfl) g3 with ⟨hcs, _⟩ | ⟨x, l, c, zs, hcs, _, hl, hm, hz, _, hcell, hwz⟩
      · simp at hcs
        subst hcs
        exact ⟨[], rdS_nil w, fun s hs => by cases hs⟩
      · simp at hcs
        subst hcs
        exact rdS_of hl hm (by simpa using hz) hcell hwz
    exact ⟨⟨s0, s1, ns, ss⟩, v2, v3, rfl, hi, hk, z0, z1, hz⟩
end Go.Proofs.YtjnhhdnfncfedaaGreat
namespace Go.Proofs.YtjnhhdnfncfedaaGreat
open Go.RowKit Go.ChangeShapes Go.WideShapes
theorem cellsR22 : Tryz.prog.cellsOf 22 = 1 := by kernel_rfl
theorem cellsR23 : Tryz.prog.cellsOf 23 = 1 := by kernel_rfl
theorem cellsR2 : Tryz.prog.cellsOf 2 = 1 := by kernel_rfl
theorem cellsR26 : Tryz.prog.cellsOf 26 = 5 := by kernel_rfl
instance : Inhabited TV := ⟨zeroTV⟩
set_option maxRecDepth 100000 in
theorem open_tabs {H : Type} {enc : TypeId × Value → H} {w : World} {v : Value} {d : DataW H} {pl : List MemPlace} (h : DataW.Trod enc Tryz.prog w 0 (fun _ => true) true 23 v d pl) (hv : ∃ a len cap, v = .slice a len cap) :
    ∃ ts, RdTs w v ts ∧ ∀ t ∈ ts, HeldT t.T := by
  obtain ⟨fuel, hf⟩ := h
  obtain ⟨a0, len0, cap0, rfl⟩ := hv
  rcases Deep.open_slice Tryz.underlying23 hf with ⟨hcs, _⟩ | ⟨a, len, cap, m, n, D, Pl, hcs, _, hl, hm, hmm, _, hx⟩
  · simp [Value.cells] at hcs
    obtain ⟨rfl, rfl, rfl⟩ := hcs
    exact ⟨[], ⟨none, 0, rfl, Nat.le_refl _, Nat.zero_le _, .inl rfl, fun t ht => by cases ht⟩, fun t ht => by cases ht⟩
  · simp [Value.cells] at hcs
    obtain ⟨rfl, rfl, rfl⟩ := hcs
    simp only [if_true] at hmm
    subst hmm
    have each : ∀ i, i < m → ∃ t : TV, w.cells? 0 (a.add (i * 4)) 4 = some (TC t) ∧ RdI w t.vb t.T.bits ∧ RdS w t.vk t.T.blocks ∧ HeldT t.T := by
      intro i hi
      obtain ⟨cs', h1, h2⟩ := hx i hi
      rw [cellsT82] at h1
      obtain ⟨T, vb, vk, hcs, hi', hk', g1, g2, g3⟩ := open_table h2
      subst hcs
      exact ⟨⟨T, vb, vk⟩, h1, hi', hk', g1, g2, g3⟩
    obtain ⟨q, hq⟩ := Deep.choose_lt each
    obtain ⟨b, off, spot⟩ := a
    refine ⟨(List.range len0).map q, ⟨some ⟨b, off, spot⟩, m, by simp, by simpa using hl, hm, ?_, fun t ht => ?_⟩, fun t ht => ?_⟩
    · by_cases h0 : len0 = 0
      · left; simp [h0]
      · right
        obtain ⟨_, _, hc0⟩ := World.cells?_some (hq 0 (by omega)).1
        have hc00 := hc0 0 (by omega)
        rw [Deep.add_add] at hc00
        have hspot : spot = none := by
          have := World.cell?_spot hc00
          cases spot with
          | none => rfl
          | some sp => simp [Addr.add] at this
        subst hspot
        refine ⟨b, off, rfl, fun i hi => ?_⟩
        have hi' : i < len0 := by simpa using hi
        obtain ⟨_, _, hc⟩ := World.cells?_some (hq i (by omega)).1
        have k0 := hc 0 (by omega)
        have k1 := hc 1 (by omega)
        have k2 := hc 2 (by omega)
        have k3 := hc 3 (by omega)
        rw [Deep.add_add, Addr.add_lit] at k0 k1 k2 k3
        rw [nthT_eq (by simpa using hi')]
        simp only [List.getElem_map, List.getElem_range]
        exact ⟨by simpa [TC] using k0, by simpa [TC, Nat.add_assoc] using k1, by simpa [TC, Nat.add_assoc] using k2, by simpa [TC, Nat.add_assoc] using k3⟩
    · simp only [List.mem_map, List.mem_range] at ht
      obtain ⟨i, hi, rfl⟩ := ht
      exact ⟨(hq i (by omega)).2.1, (hq i (by omega)).2.2.1⟩
    · simp only [List.mem_map, List.mem_range] at ht
      obtain ⟨i, hi, rfl⟩ := ht
      exact (hq i (by omega)).2.2.2
set_option maxRecDepth 100000 in
theorem open_tree {H : Type} {enc : TypeId × Value → H} {w : World} {fuel : Nat} {cs : List Value} {x : DataW H × List MemPlace} (h : DataW.trod enc Tryz.prog w 0 (fun _ => true) true fuel 26 cs = some x) :
    ∃ X : TrX, cs = [X.vm, X.vy, X.vo, .int .i64 X.seq, X.vs] ∧ RdTr w X ∧ HeldTr X := by
  obtain ⟨xs, n, _, _, hl, hxl, hf⟩ := DataW.trod_struct Tryz.underlying26 h
  rw [cellsR26] at hl
  match xs, hxl, cs, hl with
  | [y0, y1, y2, y3, y4], _, [v0, v1, v2, v3, v4], _ =>
    have g0 := hf 0 _ rfl
    have g1 := hf 1 _ rfl
    have g2 := hf 2 _ rfl
    have g3 := hf 3 _ rfl
    have g4 := hf 4 _ rfl
    simp [cellsR22, cellsR23, cellsR2, cellsT24] at g0 g1 g2 g3 g4
    have sl0 : ∃ a len cap, v0 = .slice a len cap := by
      rcases DataW.trod_slice Tryz.underlying22 g0 with ⟨e, _⟩ | ⟨a', len', cap', _, _, _, _, e, _⟩
      · simp at e; exact ⟨none, 0, 0, e⟩
      · simp at e; exact ⟨some a', len', cap', e⟩
    have sl1 : ∃ a len cap, v1 = .slice a len cap := by
      rcases DataW.trod_slice Tryz.underlying23 g1 with ⟨e, _⟩ | ⟨a', len', cap', _, _, _, _, e, _⟩
      · simp at e; exact ⟨none, 0, 0, e⟩
      · simp at e; exact ⟨some a', len', cap', e⟩
    have sl2 : ∃ a len cap, v2 = .slice a len cap := by
      rcases DataW.trod_slice Tryz.underlying23 g2 with ⟨e, _⟩ | ⟨a', len', cap', _, _, _, _, e, _⟩
      · simp at e; exact ⟨none, 0, 0, e⟩
      · simp at e; exact ⟨some a', len', cap', e⟩
    obtain ⟨i3, h3, _⟩ := DataW.trod_int Tryz.underlying2 g3
    simp only [List.cons.injEq, and_true] at h3
    subst h3
    obtain ⟨es, hr0, hh0⟩ : ∃ es, RdE w v0 es ∧ ∀ e ∈ es, Held e := by
      obtain ⟨a, len, cap, rfl⟩ := sl0
      exact open_ents (H := H) (enc := enc) (held := true) (v := .slice a len cap) ⟨n, g0⟩ ⟨a, len, cap, rfl⟩
    obtain ⟨ts, hr1, hh1⟩ : ∃ ts, RdTs w v1 ts ∧ ∀ t ∈ ts, HeldT t.T := by
      obtain ⟨a, len, cap, rfl⟩ := sl1
      exact open_tabs (H := H) (enc := enc) (v := .slice a len cap) ⟨n, g1⟩ ⟨a, len, cap, rfl⟩
    obtain ⟨us, hr2, hh2⟩ : ∃ ts, RdTs w v2 ts ∧ ∀ t ∈ ts, HeldT t.T := by
      obtain ⟨a, len, cap, rfl⟩ := sl2
      exact open_tabs (H := H) (enc := enc) (v := .slice a len cap) ⟨n, g2⟩ ⟨a, len, cap, rfl⟩
    obtain ⟨ns, hr4⟩ : ∃ ns, RdI w v4 ns := by
      rcases open_ints Tryz.underlying24 Tryz.underlying2 (by kernel_rfl) g4 with ⟨hcs, _⟩ | ⟨x, l, c, zs, hcs, _, hl, hm, hz, _, hcell, _⟩
      · simp at hcs
        subst hcs
        exact ⟨[], rdI_nil w⟩
      · simp at hcs
        subst hcs
        exact rdI_of hl hm (by simpa using hz) hcell
    exact ⟨⟨v0, v1, v2, v4, es, ts, us, i3, ns⟩, rfl, ⟨hr0, hr1, hr2, hr4⟩, hh0, hh1, hh2⟩
end Go.Proofs.YtjnhhdnfncfedaaGreat
namespace Go.Proofs.YtjnhhdnfncfedaaGreat
open Go.RowKit
/-- The fence that asks nothing, in whatever round. -/
def FW (r : Option Nat) : Fence := { Fence.wide with round := r }
theorem fw_none : FW none = Fence.wide := rfl
theorem fw_some (l : Nat) : FW (some l) = Fence.wide.inRound l := rfl
theorem callsFW {P : Program} {f : FuncId} {args : Array Value} {w : World} {R : Ending → World → Prop} {n : Nat} {r : Option Nat} (h : Calls P f args w R) : CallsIn (FW r) n P f args w R := (callsIn_wide (n := n)).2 h
theorem rowsFW {P : Program} {row : String} {args : Array Value} {w : World} {R : Value → World → Prop} {n : Nat} {r : Option Nat} (h : Rows P row args w R) : RowsIn (FW r) n P row args w R :=
  fun c cs _ => let ⟨v, w', hr, s⟩ := h c cs; ⟨v, w', hr, stepsIn_wide.2 s⟩
theorem uponFW {P : Program} {o : Oper} {a : Act} {next : Act → World → Prop} {Q : Exit → Act → World → Prop} {r : Option Nat} {n : Nat} : ∀ x : Result Next, o.upon P a next Q x → o.uponIn (FW r) n P a next Q x := by
  intro x h
  cases x with
  | ok y w' =>
    cases y with
    | value v => exact h
    | skip => exact h
    | defer d => exact h
    | enter f args => exact ⟨fun hd => by simp [FW, Fence.wide] at hd, callsFW h⟩
    | row row args => exact ⟨fun hd => by simp [FW, Fence.wide] at hd, rowsFW h⟩
    | round l f tmps assign body => exact (h : False).elim
    | _ => exact (h : False).elim
  | halt y w' => cases y <;> first | exact h | exact (h : False).elim
def noDefer (o : Oper) : Bool := match o.op with
  | .defer _ => false
  | _ => true
theorem noDefer_ne {o : Oper} (h : noDefer o = true) : ∀ c, o.op ≠ .defer c := by
  intro c e
  unfold noDefer at h
  rw [e] at h
  cases h
theorem operFW {P : Program} {o : Oper} {a : Act} {w : World} {next : Act → World → Prop} {Q : Exit → Act → World → Prop} {r : Option Nat} {n : Nat} (hd : noDefer o = true) (h : o.wp P a w next Q) : o.wpIn (FW r) n P a w next Q := by
  refine ⟨fun _ _ => trivial, ?_⟩
  have e : o.semAt (FW r).round a.eval = execOp a.eval o := by
    cases r with
    | none => rfl
    | some l => exact Oper.semAt_some l _ o (noDefer_ne hd)
  rw [e]
  exact uponFW _ h
theorem wpOpFW {P : Program} {ops : Array Oper} {Q : Exit → Act → World → Prop} {i : Nat} {K : Act → World → Prop} {a : Act} {w : World} {r : Option Nat} {n : Nat} (hd : ops.all noDefer = true) (hQ : ¬ LetsOut Q) (h : wpOp P ops Q i K a w) : wpOpIn (FW r) n P ops Q i K a w := by
  unfold wpOp at h
  unfold wpOpIn
  cases ho : ops[i]? with
  | none => rw [ho] at h; exact h
  | some o =>
    rw [ho] at h
    simp only at h ⊢
    by_cases hw : Region.wanted o (yielded ops a.tmps) = true
    · rw [if_pos hw] at h ⊢
      rcases h with h | h
      · refine operFW ?_ h
        obtain ⟨hi, he⟩ := Array.getElem?_eq_some_iff.1 ho
        rw [← he]
        exact Array.all_eq_true.1 hd i hi
      · exact absurd h.2 hQ
    · rw [if_neg hw] at h ⊢
      exact ⟨fun _ _ => trivial, h⟩
theorem wpAnyFW {P : Program} {md : Region.Mode} {ops : Array Oper} {Q : Exit → Act → World → Prop} {r : Option Nat} {n : Nat} (hd : ops.all noDefer = true) (hQ : ¬ LetsOut Q) : ∀ (fuel : Nat) (listed : Array Bool) (a : Act) (w : World), wpAny P md ops Q fuel listed a w → wpAnyIn (FW r) n P md ops Q fuel listed a w
  | 0, _, _, _, h => h
  | fuel + 1, _, _, _, h => ⟨h.1, fun i hi => wpOpIn_mono (fun a' w' h' => wpAnyFW hd hQ fuel _ a' w' h') (wpOpFW hd hQ (h.2 i hi))⟩
theorem wpOpsFW {P : Program} {ops : Array Oper} {Q : Exit → Act → World → Prop} {r : Option Nat} {n : Nat} (hd : ops.all noDefer = true) (hQ : ¬ LetsOut Q) : ∀ (l : List Nat) (a : Act) (w : World), wpOps P ops Q l a w → wpOpsIn (FW r) n P ops Q l a w
  | [], _, _, h => h
  | i :: rest, a, w, h => by
    rw [wpOps_cons] at h
    rw [wpOpsIn_cons]
    exact wpOpIn_mono (fun a' w' h' => wpOpsFW hd hQ rest a' w' h') (wpOpFW hd hQ h)
/-- A region that draws its order, in a round: by the plain walk. -/
theorem regionFW {P : Program} {id : Nat} {ops : Array Oper} {Q : Exit → Act → World → Prop} {S : World → Prop} {a : Act} {w : World} {r : Option Nat} {n : Nat} (hm : P.follows .mixedOrders = true) (hd : ops.all noDefer = true) (hQ : ¬ LetsOut Q) (hS : S w.drew)
    (h : S w.drew → wpAnyH P .any ops (NoPanic Q) S ops.size (Array.replicate ops.size false) a w.drew) : (Code.region id ops true).wpIn (FW r) n P Q a w := by
  refine wpIn_mono (wpIn_region_any (Q := NoPanic Q) hm (wpAnyFW hd ?_ _ _ _ _ (wpAny_of_held _ _ _ _ (h hS)))) NoPanic.imp
  rintro ⟨a', w', h'⟩
  exact hQ ⟨a', w', h'⟩
/-- One that does not. -/
theorem plainFW {P : Program} {id : Nat} {ops : Array Oper} {Q : Exit → Act → World → Prop} {a : Act} {w : World} {r : Option Nat} {n : Nat} (l : List Oper) (hl : ops = l.toArray) (hd : ops.all noDefer = true) (hQ : ¬ LetsOut Q)
    (h : wpList P ops Q l a w) : (Code.region id ops false).wpIn (FW r) n P Q a w := by
  refine wpIn_region (wpOpsFW hd hQ _ a w ?_)
  have e := wpOps_eq_wpList (P := P) (ops := ops) (Q := Q) l 0 (fun j => by rw [hl]; simp)
  rw [show List.range ops.size = List.range' 0 l.length by rw [hl, List.range_eq_range']; simp, e]
  exact h
end Go.Proofs.YtjnhhdnfncfedaaGreat
namespace Go.Proofs.YtjnhhdnfncfedaaGreat
open Go.RowKit Go.Shelf
attribute [local go_sem] Oper.semAt_some
/-- A table that can be read in w. -/
abbrev RT (w : World) := { t : TV // RdI w t.vb t.T.bits ∧ RdS w t.vk t.T.blocks ∧ ∀ s ∈ t.T.blocks, s.size ≤ 1000000000 }
/-- What a round that goes on keeps. -/
def KpT (n₀ : Nat) (W W' : World) : Prop := Below n₀ W W' ∧ ∀ (k : Nat) (cs : Array Value) (fz : Nat × Nat), W.heap[k]? = some (.cells cs 31 fz) → W'.heap[k]? = W.heap[k]?
theorem KpT.trans {n₀ : Nat} {A B C : World} (h : KpT n₀ A B) (k : KpT n₀ B C) : KpT n₀ A C :=
  ⟨h.1.trans k.1, fun i cs fz hi => (k.2 i cs fz ((h.2 i cs fz hi).trans hi)).trans (h.2 i cs fz hi)⟩
theorem KpT.putObj {n₀ : Nat} {w : World} (hB : n₀ ≤ w.heap.size) (W : World) (l : Nat) (o o' : Obj) (hl : w.heap.size ≤ l) (ho : W.heap[l]? = some o) (hc : o.isCells = false) (hw : o.isWalk = false) : KpT n₀ W (W.putObj l o') := by
  refine ⟨belowK_b hB W l o o' hl ho hc hw, fun k cs fz hk => World.putObj_heap_other (fun e => ?_)⟩
  subst e; rw [ho] at hk; cases hk; cases hc
theorem KpT.alloc {n₀ : Nat} {W : World} (h : n₀ ≤ W.heap.size) (o : Obj) : KpT n₀ W (W.alloc o) :=
  ⟨(Below.refl n₀ W).alloc h o, fun k _ _ hk => Below.heap_alloc W o k (Array.getElem?_eq_some_iff.1 hk).1⟩
theorem rt_nth {w : World} {zs : List (RT w)} {k : Nat} (h : k < zs.length) : nthT (zs.map (·.1)) k = (zs[k]).1 := by rw [nthT_eq (by simpa using h)]; simp
theorem lv_cells {w : World} {G : Nat} {vy vo : Value} (h : w.heap[G]? = some (.cells #[vy, vo] 31 (0, 0))) : w.cell? ⟨G, 0, none⟩ = some vy ∧ w.cell? ⟨G, 1, none⟩ = some vo := by
  constructor <;> simp [World.cell?, h]
theorem take_snoc2 {α : Type} {zs : List α} {k : Nat} (h : k < zs.length) (pre : List α) : pre ++ zs.take (k + 1) = (pre ++ zs.take k) ++ [zs[k]] := by
  rw [List.take_succ_eq_append_getElem h, List.append_assoc]
theorem take_snoc1 {α : Type} {zs : List α} {k : Nat} (h : k < zs.length) (_ : List α) : zs.take (k + 1) = zs.take k ++ [zs[k]] := List.take_succ_eq_append_getElem h
set_option maxHeartbeats 8000000 in
set_option maxRecDepth 100000 in
theorem tables1_in (w0 : World) (n : Nat) (hn : 1 ≤ n) (l Bn : Nat) (vy vo : Value) (ys os : List (RT w0)) (J Jx : List (RT w0) → World → Prop)
    (hY : ∀ pre x W, J pre W → pre.length < ys.length + os.length → YieldAt Fence.wide (n - 1) Tryz.prog l #[.agg #[.string x.1.T.first, .string x.1.T.last, x.1.vb, x.1.vk]] W fun e W' =>
      (e = .returned (.bool true) ∧ J (pre ++ [x]) W' ∧ KpT w0.heap.size W W') ∨ (e = .returned (.bool false) ∧ Jx (pre ++ [x]) W'))
    (W : World) (hJ : AbidesFrom W.heap.size J) (h1 : W.cell? ⟨Bn, 1, none⟩ = some vy) (h2 : W.cell? ⟨Bn, 2, none⟩ = some vo) (hry : RdTs w0 vy (ys.map (·.1))) (hro : RdTs w0 vo (os.map (·.1))) (hb : Below w0.heap.size w0 W) (h0 : J [] W) :
    CallsIn Fence.wide n Tryz.prog 89 #[.func (.yield l) #[] #[], .pointer (some ⟨Bn, 0, none⟩)] W fun e W' => (∃ v, e = .returned v) ∧
      ((∃ zs, zs = ys ++ os ∧ J zs W') ∨ (∃ pre, pre <+: ys ++ os ∧ Jx pre W')) := by
  obtain ⟨ay, cy, hvy, hly, hmy, -⟩ := id hry
  obtain ⟨ao, co, hvo, hlo, hmo, -⟩ := id hro
  rw [List.length_map] at hvy hly hvo hlo
  obtain ⟨yn, hyn⟩ : ∃ yn, yn = ys.length := ⟨_, rfl⟩
  obtain ⟨on, hon⟩ : ∃ on, on = os.length := ⟨_, rfl⟩
  have HYN : Hid (yn = ys.length) := hyn
  have HON : Hid (on = os.length) := hon
  rw [← hyn] at hvy hly hY
  rw [← hon] at hvo hlo hY
  subst hvy
  subst hvo
  unfold maxLen at hmy hmo
  have HY : Hid (∀ pre x W, J pre W → pre.length < yn + on → _) := hY
  have HJ : Hid (AbidesFrom W.heap.size J) := hJ
  have hJ1 : J [] (W.alloc (.cells #[.slice ay yn cy, .slice ao on co] 31)) := hJ [] W _ none h0 (World.grownBy_alloc W _ none) (fun r e => by cases e)
  have hb1 : Below w0.heap.size w0 (W.alloc (.cells #[.slice ay yn cy, .slice ao on co] 31)) := hb.alloc hb.size _
  have hG : (W.alloc (.cells #[.slice ay yn cy, .slice ao on co] 31)).heap[W.heap.size]? = some (.cells #[.slice ay yn cy, .slice ao on co] 31 (0, 0)) := World.alloc_heap_new W _
  clear hyn hon hY hJ h0
  refine callsIn_of_wp Tryz.func89 rfl trivial ?_ rfl
  simp only [Tryz.ntmps89, List.size_toArray, List.length_cons, List.length_nil, Nat.reduceAdd, Nat.reduceSub, Array.replicate_succ, Array.replicate_zero, List.push_toArray, List.append_toArray, List.nil_append, List.cons_append]
  gi_wp2
  gi_loopw [13] (fun i wr => ∃ j : Nat, j ≤ 2 ∧ i = .int .i64 j ∧ J (if j = 0 then [] else if j = 1 then ys else ys ++ os) wr ∧ wr.heap[W.heap.size]? = some (.cells #[.slice ay yn cy, .slice ao on co] 31 (0, 0)) ∧ Below w0.heap.size w0 wr ∧ W.heap.size ≤ wr.heap.size) (fun i _ => 2 - (intOf i).toNat)
  case atStart => exact ⟨0, Nat.zero_le _, rfl, hJ1, hG, hb1, by simp⟩
  case round =>
    obtain ⟨j, hj, rfl, hJs, hGs, hbs, hWs⟩ := hrel
    clear hJ1 hb1 hG hb h1 h2
    obtain ⟨g0, g1⟩ := lv_cells hGs
    obtain rfl | rfl | rfl : j = 0 ∨ j = 1 ∨ j = 2 := by omega
    · gi_wp2
      gi_loopw [19] (fun i wr => ∃ k : Nat, k ≤ yn ∧ i = .int .i64 k ∧ J (ys.take k) wr ∧ wr.heap[W.heap.size]? = some (.cells #[.slice ay yn cy, .slice ao on co] 31 (0, 0)) ∧ Below w0.heap.size w0 wr ∧ W.heap.size ≤ wr.heap.size) (fun i _ => yn - (intOf i).toNat)
      case atStart => exact ⟨0, Nat.zero_le _, rfl, by simpa using hJs, hGs, hbs, hWs⟩
      case round =>
        clear hJs hGs hbs g0 g1 hWs
        obtain ⟨k, hk, rfl, hJs, hGs, hbs, hWs⟩ := hrel
        by_cases hlt : k < yn
        · have hkl : k < ys.length := by rw [← HYN.out]; exact hlt
          obtain ⟨b, off, rfl, hc, -, -⟩ := (hry.below hbs).at k (by rw [List.length_map]; exact hkl)
          rw [rt_nth hkl] at hc
          obtain ⟨x, hx⟩ : ∃ x, x = ys[k] := ⟨_, rfl⟩
          rw [← hx] at hc
          have HTK : Hid (ys.take (k + 1) = (ys.take k) ++ [x]) := by rw [hx]; exact take_snoc1 hkl []
          have hlen : (ys.take k).length < yn + on := by
            have h1 := HYN.out
            have h2 := HON.out
            simp
            omega
          have HPF : Hid ((ys.take k) ++ [x] <+: ys ++ os) := by
            rw [← HTK.out]
            exact (List.take_prefix _ _).trans (List.prefix_append _ _)
          obtain ⟨c0, c1, c2, c3⟩ := id hc
          have hkc : k < cy := by omega
          have hYx := fun W hJ => HY.out (ys.take k) x W hJ hlen
          obtain ⟨ab, cb, hvb, -⟩ := id x.2.1
          obtain ⟨ak, ck, hvk, -⟩ := id x.2.2.1
          generalize x.1.T.bits.length = bn at hvb
          generalize x.1.T.blocks.length = kn at hvk
          rw [hvb] at c2 hYx
          rw [hvk] at c3 hYx
          have hJ2 := HJ.out _ wr _ none hJs (World.grownBy_alloc wr (.cells #[.string x.1.T.first, .string x.1.T.last, .slice ab bn cb, .slice ak kn ck] 85) none) (fun r e => by cases e)
          have hb2 := hbs.alloc hbs.size (.cells #[.string x.1.T.first, .string x.1.T.last, .slice ab bn cb, .slice ak kn ck] 85)
          have hG2 := (Below.heap_alloc wr (.cells #[.string x.1.T.first, .string x.1.T.last, .slice ab bn cb, .slice ak kn ck] 85) _ (Array.getElem?_eq_some_iff.1 hGs).1).trans hGs
          have hs2 : W.heap.size ≤ (wr.alloc (.cells #[.string x.1.T.first, .string x.1.T.last, .slice ab bn cb, .slice ak kn ck] 85)).heap.size := by simp; omega
          obtain ⟨fn, tmps, assign, body, hy, hR⟩ := hYx _ hJ2
          have HR : Hid (RoundIn _ _ _ _ _ _ _ _ _ _) := hR
          clear hR hx hkl hJs hGs hbs hWs hJ2 hc hlen hYx hvb hvk
          gi_wp2
          refine HR.out.mono ?_
          rintro e W3 (⟨rfl, hJ3, hk3⟩ | ⟨rfl, hJx3⟩)
          · have hG3 := (hk3.2 _ _ _ hG2).trans hG2
            have hb3 := hb2.trans hk3.1
            have hs3 : W.heap.size ≤ W3.heap.size := Nat.le_trans hs2 (by have := (Array.getElem?_eq_some_iff.1 hG3).1; exact Nat.le_of_lt_succ (Nat.lt_succ_of_le (Nat.le_trans (Nat.le_refl _) hk3.1.size)))
            rw [← HTK.out] at hJ3
            clear HR hy hk3 hG2 hb2 hs2 c0 c1 c2 c3
            gi_wp2
            go_roundw
            case rel => exact ⟨k + 1, by omega, by go_num, hJ3, hG3, hb3, hs3⟩
            case measure => simp [intOf]; omega
          · clear HR hy
            gi_wp2
            refine bodyPost_ret (results_none rfl _ _ _) rfl ?_
            exact ⟨⟨_, rfl⟩, .inr ⟨_, HPF.out, hJx3⟩⟩
        · have hke : k = yn := by omega
          rw [hke, HYN.out, List.take_length] at hJs
          clear hke
          gi_wp2
          go_roundw
          case rel => exact ⟨1, by omega, by go_num, hJs, hGs, hbs, hWs⟩
          case measure => simp [intOf]
    · gi_wp2
      gi_loopw [19] (fun i wr => ∃ k : Nat, k ≤ on ∧ i = .int .i64 k ∧ J (ys ++ os.take k) wr ∧ wr.heap[W.heap.size]? = some (.cells #[.slice ay yn cy, .slice ao on co] 31 (0, 0)) ∧ Below w0.heap.size w0 wr ∧ W.heap.size ≤ wr.heap.size) (fun i _ => on - (intOf i).toNat)
      case atStart => exact ⟨0, Nat.zero_le _, rfl, by simpa using hJs, hGs, hbs, hWs⟩
      case round =>
        clear hJs hGs hbs g0 g1 hWs
        obtain ⟨k, hk, rfl, hJs, hGs, hbs, hWs⟩ := hrel
        by_cases hlt : k < on
        · have hkl : k < os.length := by rw [← HON.out]; exact hlt
          obtain ⟨b, off, rfl, hc, -, -⟩ := (hro.below hbs).at k (by rw [List.length_map]; exact hkl)
          rw [rt_nth hkl] at hc
          obtain ⟨x, hx⟩ : ∃ x, x = os[k] := ⟨_, rfl⟩
          rw [← hx] at hc
          have HTK : Hid (ys ++ os.take (k + 1) = (ys ++ os.take k) ++ [x]) := by rw [hx]; exact take_snoc2 hkl ys
          have hlen : (ys ++ os.take k).length < yn + on := by
            have h1 := HYN.out
            have h2 := HON.out
            simp
            omega
          have HPF : Hid ((ys ++ os.take k) ++ [x] <+: ys ++ os) := by
            rw [← HTK.out]
            exact List.prefix_append_right_inj ys |>.2 (List.take_prefix _ _)
          obtain ⟨c0, c1, c2, c3⟩ := id hc
          have hkc : k < co := by omega
          have hYx := fun W hJ => HY.out (ys ++ os.take k) x W hJ hlen
          obtain ⟨ab, cb, hvb, -⟩ := id x.2.1
          obtain ⟨ak, ck, hvk, -⟩ := id x.2.2.1
          generalize x.1.T.bits.length = bn at hvb
          generalize x.1.T.blocks.length = kn at hvk
          rw [hvb] at c2 hYx
          rw [hvk] at c3 hYx
          have hJ2 := HJ.out _ wr _ none hJs (World.grownBy_alloc wr (.cells #[.string x.1.T.first, .string x.1.T.last, .slice ab bn cb, .slice ak kn ck] 85) none) (fun r e => by cases e)
          have hb2 := hbs.alloc hbs.size (.cells #[.string x.1.T.first, .string x.1.T.last, .slice ab bn cb, .slice ak kn ck] 85)
          have hG2 := (Below.heap_alloc wr (.cells #[.string x.1.T.first, .string x.1.T.last, .slice ab bn cb, .slice ak kn ck] 85) _ (Array.getElem?_eq_some_iff.1 hGs).1).trans hGs
          have hs2 : W.heap.size ≤ (wr.alloc (.cells #[.string x.1.T.first, .string x.1.T.last, .slice ab bn cb, .slice ak kn ck] 85)).heap.size := by simp; omega
          obtain ⟨fn, tmps, assign, body, hy, hR⟩ := hYx _ hJ2
          have HR : Hid (RoundIn _ _ _ _ _ _ _ _ _ _) := hR
          clear hR hx hkl hJs hGs hbs hWs hJ2 hc hlen hYx hvb hvk
          gi_wp2
          refine HR.out.mono ?_
          rintro e W3 (⟨rfl, hJ3, hk3⟩ | ⟨rfl, hJx3⟩)
          · have hG3 := (hk3.2 _ _ _ hG2).trans hG2
            have hb3 := hb2.trans hk3.1
            have hs3 : W.heap.size ≤ W3.heap.size := Nat.le_trans hs2 (by have := (Array.getElem?_eq_some_iff.1 hG3).1; exact Nat.le_of_lt_succ (Nat.lt_succ_of_le (Nat.le_trans (Nat.le_refl _) hk3.1.size)))
            rw [← HTK.out] at hJ3
            clear HR hy hk3 hG2 hb2 hs2 c0 c1 c2 c3
            gi_wp2
            go_roundw
            case rel => exact ⟨k + 1, by omega, by go_num, hJ3, hG3, hb3, hs3⟩
            case measure => simp [intOf]; omega
          · clear HR hy
            gi_wp2
            refine bodyPost_ret (results_none rfl _ _ _) rfl ?_
            exact ⟨⟨_, rfl⟩, .inr ⟨_, HPF.out, hJx3⟩⟩
        · have hke : k = on := by omega
          rw [hke, HON.out, List.take_length] at hJs
          clear hke
          gi_wp2
          go_roundw
          case rel => exact ⟨2, by omega, by go_num, hJs, hGs, hbs, hWs⟩
          case measure => simp [intOf]
    · gi_wp2
      go_end0
      exact ⟨⟨_, rfl⟩, .inl ⟨_, rfl, hJs⟩⟩
theorem tables_any (X : TrX) (w : World) :
    Calls Tryz.prog 62 #[.agg #[X.vm, X.vy, X.vo, .int .i64 X.seq, X.vs]] w fun e w' => e = .returned (.func (.func 89) #[] #[.pointer (some ⟨w.heap.size, 0, none⟩)]) ∧ w' = w.alloc (.cells #[X.vm, X.vy, X.vo, .int .i64 X.seq, X.vs] 33) := by
  go_enter Tryz.func62, Tryz.ntmps62
  go_wp2
  go_ret
  exact ⟨rfl, rfl⟩
theorem tables_stops (w0 : World) (n : Nat) (hn : 1 ≤ n) (Bn : Nat) (vy vo : Value) (ys os : List (RT w0)) (w : World) (hBn : Bn < w.heap.size) (h0 : w0.heap.size ≤ w.heap.size) (c1 : w.cell? ⟨Bn, 1, none⟩ = some vy) (c2 : w.cell? ⟨Bn, 2, none⟩ = some vo) (hry : RdTs w0 vy (ys.map (·.1))) (hro : RdTs w0 vo (os.map (·.1))) (hb : Below w0.heap.size w0 w) :
    SeqStopsK Fence.wide n Tryz.prog 89 #[.pointer (some ⟨Bn, 0, none⟩)] (fun x : RT w0 => #[.agg #[.string x.1.T.first, .string x.1.T.last, x.1.vb, x.1.vk]]) (KpT w0.heap.size) (fun zs => zs = ys ++ os) (fun pre => pre <+: ys ++ os) (ys.length + os.length) w := fun l J Jx W hW hJ _ hY h1 =>
  tables1_in w0 n hn l Bn vy vo ys os J Jx hY W hJ ((hW.cell (p := ⟨Bn, 1, none⟩) hBn).trans c1) ((hW.cell (p := ⟨Bn, 2, none⟩) hBn).trans c2) hry hro (hb.trans (hW.mono h0)) h1
end Go.Proofs.YtjnhhdnfncfedaaGreat
