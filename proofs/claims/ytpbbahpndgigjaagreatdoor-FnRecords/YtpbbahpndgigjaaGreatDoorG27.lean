/- The contracts of the law's marking of a slice of entries, and of finding the marks again. The contract of the program's question whether an entry is the newest of its key. The contract of the program's Shown. Plain facts on taking the first of what is left of some lists, again and again: no function of the program is walked here. The heap in memory: a row of what is left of some lists, behind a variable; its methods through an interface value. The contracts of the heap's order and of its exchange. The contract of the heap's exchange. The contracts of container/heap's up and down at this heap. The contracts of the heap's own Push and Pop. The contracts of container/heap's Push and Pop at this heap, and of the program's add and take. The contract of the program's take. The contract of the program's merging by a heap. The contracts of both Merged. The contracts of the laws' own helpers over slices of slices of entries: measured, copied, alike, marked. Entries that came in as an argument of a law: what is read of them. The contracts of the laws' own helpers over rows of tables and trees: measured, copied, alike. -/
import Derived.RegionTactic
import Derived.ChangeAlike
import Derived.WalkMore
import Derived.Deep.LoopGhost
import Derived.Deep.DeepCutAuto
import Derived.Maps.AppendAt
import Derived.OpenShut
import Derived.Deep.Slices
import Derived.ChangeArms
import Derived.Test.YtpbbahpndgigjaaGreatDoorTreSpec6
namespace Go.Proofs.YtpbbahpndgigjaaGreatDoor
set_option maxHeartbeats 16000000
set_option maxRecDepth 100000
open Go.RowKit
open Go.RowKit
open Go.RowKit
def OwnP (w : World) (base : Nat) (v : Value) (ps : List (Value × List Ent)) : Prop := w.ownsRow base 45 1 v ps.length (ps.map (·.1))
theorem OwnP.pieces {w : World} {base : Nat} {v : Value} {ps : List (Value × List Ent)} (h : OwnP w base v ps) (hp : ∀ p ∈ ps, RdE w p.1 p.2) : Pieces w v ps := by
  have h' := h
  rcases h.2 with ⟨rfl, h0⟩ | ⟨g, cap, cur, rfl, hb, hg, hn, hc, hs, ht⟩
  · exact .inl ⟨rfl, List.length_eq_zero_iff.1 h0⟩
  · refine .inr ⟨g, 0, cap, rfl, hn, hc, fun i hi => ⟨?_, hp _ (List.getElem_mem hi)⟩⟩
    have := World.ownsRow.cellAt h' i (by omega)
    rw [Nat.zero_add, this]
    simp [hi]
theorem OwnP.below {w w' : World} {base : Nat} {v : Value} {ps : List (Value × List Ent)} (h : OwnP w base v ps) (hb : Below w.heap.size w w') : OwnP w' base v ps := own_below h hb
theorem OwnP.mono {w : World} {base base' : Nat} {v : Value} {ps : List (Value × List Ent)} (h : OwnP w base v ps) (hb : base' ≤ base) : OwnP w base' v ps := by
  refine ⟨h.1, ?_⟩
  rcases h.2 with h2 | ⟨g, cap, cur, hv, hg, r⟩
  · exact .inl h2
  · exact .inr ⟨g, cap, cur, hv, Nat.le_trans hb hg, r⟩
def rest (hs1 : List Src) (v : Value) (r : List Ent) (no : Nat) : List Src := if r.length = 0 then hs1 else hs1 ++ [⟨v, r, no⟩]
open Go.RowKit
def HCs (s : Src) : List Value := [s.v, .int .i64 s.no]
def HV (hs : List Src) : List Value := hs.flatMap HCs
def SrcAt (w : World) (b o : Nat) (s : Src) : Prop := w.cell? ⟨b, o, none⟩ = some s.v ∧ w.cell? ⟨b, o + 1, none⟩ = some (.int .i64 s.no)
theorem SrcAt.lt {w : World} {b o : Nat} {s : Src} (h : SrcAt w b o s) : b < w.heap.size := World.block_lt_of_cell? w _ h.1
theorem SrcAt.of_block {w w' : World} {b o : Nat} {s : Src} (h : SrcAt w b o s) (hb : w'.heap[b]? = w.heap[b]?) : SrcAt w' b o s :=
  ⟨(World.cell?_of_block (a := ⟨b, o, none⟩) hb).trans h.1, (World.cell?_of_block (a := ⟨b, o + 1, none⟩) hb).trans h.2⟩
theorem SrcAt.below {w w' : World} {b o : Nat} {s : Src} (h : SrcAt w b o s) (hb : Below w.heap.size w w') : SrcAt w' b o s := h.of_block (hb.block b h.lt)
structure Hop (w : World) (v : Value) (sb : Nat) (w' : World) (v' : Value) : Prop where
  size : w.heap.size ≤ w'.heap.size
  block : ∀ k, k < w.heap.size → k ≠ sb → v.ownBlock ≠ some k → w'.heap[k]? = w.heap[k]?
  row : ∀ k, v'.ownBlock = some k → v.ownBlock = some k ∨ w.heap.size ≤ k
theorem Hop.refl (w : World) (v : Value) (sb : Nat) : Hop w v sb w v := ⟨Nat.le_refl _, fun _ _ _ _ => rfl, fun _ h => .inl h⟩
theorem Hop.trans {w w1 w2 : World} {v v1 v2 : Value} {sb : Nat} (h : Hop w v sb w1 v1) (k : Hop w1 v1 sb w2 v2) : Hop w v sb w2 v2 :=
  ⟨Nat.le_trans h.size k.size, fun i hi hs hv => (k.block i (Nat.lt_of_lt_of_le hi h.size) hs (fun e => by
      rcases h.row i e with e | e
      · exact hv e
      · omega)).trans (h.block i hi hs hv),
   fun i hi => by
      rcases k.row i hi with e | e
      · exact h.row i e
      · exact .inr (Nat.le_trans h.size e)⟩
theorem Hop.below {w w' : World} {v : Value} {sb : Nat} (h : Below w.heap.size w w') : Hop w v sb w' v := ⟨h.size, fun k hk _ _ => h.block k hk, fun _ h => .inl h⟩
open Go.RowKit
open Go.RowKit
open Go.RowKit
open Go.RowKit
open Go.RowKit
open Go.RowKit
theorem Hop.set {w w1 : World} {v v1 : Value} {sb : Nat} (h : Hop w v sb w1 v1) {b : Nat} (o : Nat) (u : Value) (hb : w.heap.size ≤ b) : Hop w v sb (w1.setCell ⟨b, o, none⟩ u) v1 :=
  ⟨by simpa using h.size, fun k hk hs hv => (heap_setCell_other w1 ⟨b, o, none⟩ k u (fun e => by simp at e; omega)).trans (h.block k hk hs hv), h.row⟩
open Go.RowKit
open Go.RowKit
theorem Pieces.at {w : World} {v : Value} {ps : List (Value × List Ent)} (hp : Pieces w v ps) : ∃ a cap, v = .slice a ps.length cap ∧ ps.length ≤ cap ∧ cap ≤ maxLen ∧
    ∀ k, k < ps.length → ∀ w', Below w.heap.size w w' → ∃ b off aa zn cc zs, a = some ⟨b, off, none⟩ ∧ w'.cell? ⟨b, off + k, none⟩ = some (.slice aa zn cc) ∧ RdE w' (.slice aa zn cc) zs ∧ (ps.map (·.2))[k]? = some zs := by
  have hp' := hp
  rcases hp with ⟨rfl, rfl⟩ | ⟨b, off, cap, rfl, h1, h2, hc⟩
  · exact ⟨none, 0, rfl, Nat.le_refl _, Nat.zero_le _, fun k hk => by simp at hk⟩
  · refine ⟨_, cap, rfl, h1, h2, fun k hk w' hb => ?_⟩
    obtain ⟨aa, cc, hu, _⟩ := id (hc k hk).2
    have e1 := (hc k hk).1
    have e2 := (hc k hk).2
    rw [hu] at e1 e2
    exact ⟨b, off, aa, _, cc, _, rfl, (hb.cell (World.block_lt_of_cell? w _ e1)).trans e1, e2.below hb, by simp [hk]⟩
open Go.RowKit
structure OwnLL (w : World) (lo mid hi : Nat) (v : Value) (us : List (Value × List Ent)) : Prop where
  row : OwnP w lo v us
  rowlt : ∀ k, v.ownBlock = some k → k < mid
  ins : ∀ p ∈ us, OwnE w mid p.1 p.2 ∧ ∀ k, p.1.ownBlock = some k → k < hi
  apart : us.Pairwise (fun p q => ∀ k, p.1.ownBlock = some k → q.1.ownBlock ≠ some k)
  le : lo ≤ mid
theorem OwnLL.below {w w' : World} {lo mid hi : Nat} {v : Value} {us : List (Value × List Ent)} (h : OwnLL w lo mid hi v us) (hb : Below w.heap.size w w') : OwnLL w' lo mid hi v us :=
  ⟨h.row.below hb, h.rowlt, fun p hp => ⟨(h.ins p hp).1.below hb, (h.ins p hp).2⟩, h.apart, h.le⟩
theorem OwnLL.pieces {w : World} {lo mid hi : Nat} {v : Value} {us : List (Value × List Ent)} (h : OwnLL w lo mid hi v us) : Pieces w v us := h.row.pieces (fun p hp => (h.ins p hp).1.rd)
def Lists (w : World) (v : Value) (ps : List (Value × List Ent)) : Prop :=
  ∃ a cap, v = .slice a ps.length cap ∧ ps.length ≤ cap ∧ cap ≤ maxLen ∧ (ps = [] ∨ ∃ b off, a = some ⟨b, off, none⟩ ∧ ∀ i (h : i < ps.length), w.cell? ⟨b, off + i, none⟩ = some (ps[i].1) ∧ RdE w ps[i].1 ps[i].2)
theorem Lists.below {w w' : World} {v : Value} {ps : List (Value × List Ent)} (h : Lists w v ps) (hb : Below w.heap.size w w') : Lists w' v ps := by
  obtain ⟨a, cap, hv, h1, h2, h3⟩ := h
  refine ⟨a, cap, hv, h1, h2, ?_⟩
  rcases h3 with h3 | ⟨b, off, ha, hc⟩
  · exact .inl h3
  · exact .inr ⟨b, off, ha, fun i hi => ⟨by rw [hb.cell (World.block_lt_of_cell? w _ (hc i hi).1)]; exact (hc i hi).1, (hc i hi).2.below hb⟩⟩
theorem Lists.at {w : World} {v : Value} {ps : List (Value × List Ent)} (hp : Lists w v ps) : ∃ a cap, v = .slice a ps.length cap ∧ ps.length ≤ cap ∧ cap ≤ maxLen ∧
    ∀ k, k < ps.length → ∀ w', Below w.heap.size w w' → ∃ b off aa zn cc zs, a = some ⟨b, off, none⟩ ∧ w'.cell? ⟨b, off + k, none⟩ = some (.slice aa zn cc) ∧ RdE w' (.slice aa zn cc) zs ∧ (ps.map (·.2))[k]? = some zs := by
  obtain ⟨a, cap, hv, h1, h2, h3⟩ := hp
  refine ⟨a, cap, hv, h1, h2, fun k hk w' hb => ?_⟩
  rcases h3 with h3 | ⟨b, off, ha, hc⟩
  · subst h3; simp at hk
  · obtain ⟨aa, cc, hu, _⟩ := id (hc k hk).2
    have e1 := (hc k hk).1
    have e2 := (hc k hk).2
    rw [hu] at e1 e2
    exact ⟨b, off, aa, _, cc, _, ha, (hb.cell (World.block_lt_of_cell? w _ e1)).trans e1, e2.below hb, by simp [hk]⟩
open Go.RowKit Go.ChangeShapes Go.WideShapes
def Held (e : Ent) : Prop := e.key.size ≤ maxLen ∧ e.val.size ≤ maxLen ∧ -9223372036854775808 ≤ e.seq ∧ e.seq ≤ 9223372036854775807
open Go.RowKit
def HeldT (T : Tbl) : Prop := T.first.size ≤ maxLen ∧ T.last.size ≤ maxLen ∧ ∀ s ∈ T.blocks, s.size ≤ maxLen
def SmallT (T : Tbl) : Prop := T.first.size ≤ 1048576 ∧ T.last.size ≤ 1048576 ∧ ∀ s ∈ T.blocks, s.size ≤ 1048576
def tsz (ts : List TV) : Nat := (ts.map (fun t => 1 + t.T.bits.length + t.T.blocks.length)).sum
structure HeldTr (X : TrX) : Prop where
  mem : ∀ e ∈ X.mem, Held e
  young : ∀ t ∈ X.ys, HeldT t.T
  old : ∀ t ∈ X.os, HeldT t.T
structure SmallTr (X : TrX) : Prop where
  sum : X.mem.length + tsz X.ys + tsz X.os + X.snaps.length ≤ 1048576
  mem : ∀ x ∈ X.mem, x.key.size ≤ 1048576 ∧ x.val.size ≤ 1048576
  young : ∀ t ∈ X.ys, SmallT t.T
  old : ∀ t ∈ X.os, SmallT t.T
theorem SmallTr.fit {X : TrX} (h : SmallTr X) (hh : HeldTr X) : FitTr X :=
  ⟨fun e he => ⟨by have := (h.mem e he).1; omega, by have := (h.mem e he).2; omega, (hh.mem e he).2.2.1, (hh.mem e he).2.2.2⟩, fun t ht s hs => by have := (h.young t ht).2.2 s hs; omega, fun t ht s hs => by have := (h.old t ht).2.2 s hs; omega⟩
end Go.Proofs.YtpbbahpndgigjaaGreatDoor
