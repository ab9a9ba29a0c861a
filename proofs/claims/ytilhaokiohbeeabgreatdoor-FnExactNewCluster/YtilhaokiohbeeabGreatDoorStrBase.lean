/- Plain facts on rows of texts that a call owns or reads. -/
import Derived.Test.YtilhaokiohbeeabGreatDoorBase
namespace Go.Proofs.YtilhaokiohbeeabGreatDoor
open Go.RowKit
theorem Tryz.info9 : (Tryz.prog.info? 9).map (fun i => (i.zero, i.size, i.bytes)) = some (some (.string ⟨#[]⟩), 1, 16) := by kernel_rfl
def SV (ss : List ByteArray) : List Value := ss.map Value.string
theorem SV_length (ss : List ByteArray) : (SV ss).length = ss.length := by simp [SV]
theorem SV_append (a b : List ByteArray) : SV (a ++ b) = SV a ++ SV b := by simp [SV]
theorem SV_get (ss : List ByteArray) (i : Nat) (h : i < ss.length) : (SV ss)[i]? = some (.string ss[i]) := by simp [SV, h]
theorem SV_set (ss : List ByteArray) (i : Nat) (s : ByteArray) : SV (ss.set i s) = (SV ss).set i (.string s) := by simp [SV, List.map_set]
/-- The slice v is the call's own (its block is at least number base) and holds the texts ss. -/
def OwnS (w : World) (base : Nat) (v : Value) (ss : List ByteArray) : Prop := w.ownsRow base 9 1 v ss.length (SV ss)
/-- The slice v can be read and holds the texts ss. -/
def RdS (w : World) (v : Value) (ss : List ByteArray) : Prop :=
  ∃ a cap, v = .slice a ss.length cap ∧ ss.length ≤ cap ∧ cap ≤ maxLen ∧
    (ss = [] ∨ ∃ b off, a = some ⟨b, off, none⟩ ∧ ∀ i (h : i < ss.length), w.cell? ⟨b, off + i, none⟩ = some (.string ss[i]))
theorem OwnS.rd {w : World} {base : Nat} {v : Value} {ss : List ByteArray} (h : OwnS w base v ss) : RdS w v ss := by
  have h' := h
  rcases h.2 with ⟨rfl, h0⟩ | ⟨g, cap, cur, rfl, hb, hg, hn, hc, hs, ht⟩
  · have : ss = [] := List.length_eq_zero_iff.1 h0
    subst this
    exact ⟨none, 0, rfl, Nat.le_refl _, Nat.zero_le _, .inl rfl⟩
  · refine ⟨some ⟨g, 0, none⟩, cap, rfl, hn, hc, .inr ⟨g, 0, rfl, fun i hi => ?_⟩⟩
    have := h'.cellAt i (by omega)
    rw [SV_get ss i hi] at this
    simpa using this
theorem OwnS.below {w w' : World} {base : Nat} {v : Value} {ss : List ByteArray} (h : OwnS w base v ss) (hb : Below w.heap.size w w') : OwnS w' base v ss := own_below h hb
theorem OwnS.drewN {w : World} {base : Nat} {v : Value} {ss : List ByteArray} (h : OwnS w base v ss) (q : Nat) : OwnS (w.drewN q) base v ss := h
theorem OwnS.mono {w : World} {base base' : Nat} {v : Value} {ss : List ByteArray} (h : OwnS w base v ss) (hb : base' ≤ base) : OwnS w base' v ss := by
  refine ⟨h.1, ?_⟩
  rcases h.2 with h2 | ⟨g, cap, cur, hv, hg, r⟩
  · exact .inl h2
  · exact .inr ⟨g, cap, cur, hv, Nat.le_trans hb hg, r⟩
theorem RdS.below {w w' : World} {v : Value} {ss : List ByteArray} (h : RdS w v ss) (hb : Below w.heap.size w w') : RdS w' v ss := by
  obtain ⟨a, cap, hv, h1, h2, h3⟩ := h
  refine ⟨a, cap, hv, h1, h2, ?_⟩
  rcases h3 with h3 | ⟨b, off, ha, hc⟩
  · exact .inl h3
  · exact .inr ⟨b, off, ha, fun i hi => by rw [hb.cell (World.block_lt_of_cell? w _ (hc i hi))]; exact hc i hi⟩
theorem RdS.drewN {w : World} {v : Value} {ss : List ByteArray} (h : RdS w v ss) (q : Nat) : RdS (w.drewN q) v ss := h
theorem rdS_nil (w : World) : RdS w (.slice none 0 0) [] := ⟨none, 0, rfl, Nat.le_refl _, Nat.zero_le _, .inl rfl⟩
/-- A slice of texts that came in. -/
theorem rdS_of {w : World} {x : Addr} {len cap : Nat} {zs : List ByteArray} (hl : len ≤ cap) (hm : cap ≤ maxLen) (hz : zs.length = cap) (hcell : ∀ i, i < zs.length → w.cell? (x.add i) = some (.string (zs.getD i ByteArray.empty))) (hwz : ∀ s ∈ zs, s.size ≤ maxLen) :
    ∃ ss, RdS w (.slice (some x) len cap) ss ∧ ∀ s ∈ ss, s.size ≤ maxLen := by
  refine ⟨zs.take len, ⟨some x, cap, ?_, ?_, hm, ?_⟩, fun s hs => hwz s (List.mem_of_mem_take hs)⟩
  · congr 1; rw [List.length_take]; omega
  · rw [List.length_take]; omega
  · by_cases h0 : len = 0
    · left; subst h0; simp
    · right
      obtain ⟨b, off, spot⟩ := x
      have hc := hcell 0 (by omega)
      have hspot : spot = none := by simpa [Addr.add] using World.cell?_spot hc
      subst hspot
      refine ⟨b, off, rfl, fun i hi => ?_⟩
      have hi' : i < len := by rw [List.length_take] at hi; omega
      have h := hcell i (by omega)
      have hg : zs.getD i ByteArray.empty = zs[i]'(by omega) := by simp [List.getD, List.getElem?_eq_getElem (show i < zs.length by omega)]
      rw [Addr.add_lit] at h
      rw [h, hg]
      simp only [List.getElem_take]
theorem ownS_none (w : World) : OwnS (w.alloc (.cells #[] 9)) w.heap.size (.slice (some ⟨w.heap.size, 0, none⟩) 0 0) [] := World.ownsRow_lit w #[] 0 (Nat.le_refl _) (Nat.zero_le _) rfl
theorem ownS_push {w1 : World} {B : Nat} {v' : Value} {ys : List ByteArray} {x : ByteArray} (h : w1.ownsRow B 9 1 v' (ys.length + 1) (SV ys ++ [.string x])) : OwnS w1 B v' (ys ++ [x]) := by
  have e : SV (ys ++ [x]) = SV ys ++ [.string x] := by simp [SV]
  unfold OwnS
  rw [e, List.length_append]
  exact h
theorem pushS_below {w wr w1 : World} {B B' : Nat} {v : Value} {o : Obj} {ys : List ByteArray} (hown : OwnS wr B' v ys) (hBB : B ≤ B') (hb : Below B w wr) (hB : B ≤ wr.heap.size) (hg : (wr.alloc o).grownBy w1 v.ownBlock) : Below B w w1 :=
  (hb.alloc hB o).grown hg (by simp; omega) (fun k hk => Nat.le_trans hBB (World.ownsRow.lt hown k hk).1)
theorem ownS_lt {w : World} {B : Nat} {v : Value} {ss : List ByteArray} (h : OwnS w B v ss) : ∀ k, v.ownBlock = some k → k < w.heap.size := fun k hk => (World.ownsRow.lt h k hk).2
/-- Two rows that lie apart: the one of the elder call stays as the younger one is written. -/
theorem ownS_other {w w' : World} {B1 B2 : Nat} {v1 v2 : Value} {ss ss2 : List ByteArray} (h1 : OwnS w B1 v1 ss) (hlt : ∀ k, v1.ownBlock = some k → k < B2) (h2 : OwnS w B2 v2 ss2) (hg : w.grownBy w' v2.ownBlock) : OwnS w' B1 v1 ss := by
  refine World.ownsRow.kept h1 hg ?_
  cases h : v1.ownBlock with
  | none => exact .inl rfl
  | some k => exact .inr fun e => by have := (World.ownsRow.lt h2 k e.symm).1; have := hlt k h; omega
theorem belowS_marked {a w w' : World} {B B2 : Nat} {v2 : Value} {ss2 : List ByteArray} (hb : Below B a w) (h2 : OwnS w B2 v2 ss2) (hB : B ≤ B2) (hg : w.grownBy w' v2.ownBlock) (hs : B ≤ w.heap.size) : Below B a w' :=
  hb.grown hg hs (fun k hk => by have := (World.ownsRow.lt h2 k hk).1; omega)
/-- A row that lies apart from the one that is written stays. -/
theorem row_kept {w w' : World} {B : Nat} {e : TypeId} {s : Nat} {v : Value} {n : Nat} {xs : List Value} {row : Option Nat} (h : w.ownsRow B e s v n xs) (hg : w.grownBy w' row) (hd : ∀ k, v.ownBlock = some k → row ≠ some k) : w'.ownsRow B e s v n xs := by
  refine World.ownsRow.kept h hg ?_
  cases hu : v.ownBlock with
  | none => exact .inl rfl
  | some k => exact .inr fun e => hd k hu e.symm
end Go.Proofs.YtilhaokiohbeeabGreatDoor
