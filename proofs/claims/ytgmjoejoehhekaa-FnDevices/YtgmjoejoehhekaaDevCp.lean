/- The contracts of the laws' own helpers over patches and devices: measured, copied, alike. -/
-- UNF Gen
import Derived.Test.YtgmjoejoehhekaaDevBase
import Derived.Test.YtgmjoejoehhekaaPatCp
import Derived.Test.YtgmjoejoehhekaaStrCp
import Derived.Test.YtgmjoejoehhekaaStrMark
namespace Go.Proofs.Ytgmjoejoehhekaa
open Go.RowKit
/-- What the measure of a row of patches leaves. -/
def SzPs (w : World) (es : List Pat) (l : Int) (e : Ending) (w' : World) : Prop :=
  Below w.heap.size w w' ∧ ∃ z : Int, e = .returned (.int .i64 z) ∧ (z = -1 ∨ 0 ≤ z ∧ z + es.length ≤ l)
/-- What a device that comes in can be; what the measure leaves. -/
structure HeldDv (X : DvX) : Prop where
  secs : ∀ s ∈ X.secs, s.size ≤ maxLen
  late : ∀ p ∈ X.late, p.text.size ≤ maxLen
def SmallDv (X : DvX) : Prop := X.secs.length + X.late.length ≤ 1048576
def SzDv (w : World) (X : DvX) (e : Ending) (w' : World) : Prop := Below w.heap.size w w' ∧ ∃ z : Int, e = .returned (.int .i64 z) ∧ (z = -1 ∨ 0 ≤ z ∧ SmallDv X)
/-- A device in rows of the call's own. -/
structure OwnDv (w : World) (B : Nat) (X : DvX) : Prop where
  secs : OwnS w B X.vs X.secs
  late : OwnPt w B X.vl X.late
theorem OwnDv.below {w w' : World} {B : Nat} {X : DvX} (h : OwnDv w B X) (hb : Below w.heap.size w w') : OwnDv w' B X := ⟨h.secs.below hb, h.late.below hb⟩
theorem OwnDv.rd {w : World} {B : Nat} {X : DvX} (h : OwnDv w B X) : RdDv w X := ⟨h.secs.rd, own_nil h.secs, h.late.rd⟩
theorem OwnDv.mono {w : World} {B B' : Nat} {X : DvX} (h : OwnDv w B X) (hb : B' ≤ B) : OwnDv w B' X := ⟨h.secs.mono hb, h.late.mono hb⟩
/-- The blocks of a device's rows. -/
def dvB (X : DvX) : List Nat := oneB X.vs ++ oneB X.vl
theorem OwnDv.bound {w : World} {B : Nat} {X : DvX} (h : OwnDv w B X) {k : Nat} (hk : k ∈ dvB X) : B ≤ k ∧ k < w.heap.size := by
  rcases List.mem_append.1 hk with hk | hk
  · exact World.ownsRow.lt h.secs k (mem_oneB.1 hk)
  · exact World.ownsRow.lt h.late k (mem_oneB.1 hk)
theorem OwnDv.touch {bs : List Nat} {w w' : World} {B : Nat} {X : DvX} (h : OwnDv w B X) (ht : Touch bs w w') (hn : ∀ k ∈ dvB X, k ∉ bs) : OwnDv w' B X :=
  ⟨ht.row h.secs (fun k hk => hn k (List.mem_append_left _ (mem_oneB.2 hk))), ht.row h.late (fun k hk => hn k (List.mem_append_right _ (mem_oneB.2 hk)))⟩
theorem Touch.dv {bs : List Nat} {w w' : World} {b : Nat} {X : DvX} (h : Touch bs w w') (ht : DvAt w b X) (hn : b ∉ bs) : DvAt w' b X := ht.of_block (h.block b ht.lt hn)
/-- A device of the call's own, with these sectors and patches. -/
def ToDv (w : World) (ss : List ByteArray) (ps : List Pat) (e : Ending) (w' : World) : Prop := ∃ Y : DvX, e = .returned (.agg #[Y.vs, Y.vl]) ∧ Y.secs = ss ∧ Y.late = ps ∧ OwnDv w' w.heap.size Y ∧ Below w.heap.size w w'
theorem own_slice {w : World} {B t z n : Nat} {v : Value} {xs : List Value} (h : w.ownsRow B t z v n xs) : ∃ a c, v = .slice a n c := by
  rcases h.2 with ⟨hv, h0⟩ | ⟨g, cap, cur, hv, _⟩
  · exact ⟨none, 0, by rw [hv, h0]⟩
  · exact ⟨_, _, hv⟩
/-- A device's box. -/
def BoxDv (w : World) (b : Nat) (u0 u1 : Value) : Prop := w.heap[b]? = some (.cells #[u0, u1] 27 (0, 0))
theorem BoxDv.lt {w : World} {b : Nat} {u0 u1 : Value} (h : BoxDv w b u0 u1) : b < w.heap.size := (Array.getElem?_eq_some_iff.1 h).1
theorem BoxDv.of_block {w w' : World} {b : Nat} {u0 u1 : Value} (h : BoxDv w b u0 u1) (hb : w'.heap[b]? = w.heap[b]?) : BoxDv w' b u0 u1 := hb.trans h
theorem BoxDv.below {w w' : World} {b : Nat} {u0 u1 : Value} (h : BoxDv w b u0 u1) (hb : Below w.heap.size w w') : BoxDv w' b u0 u1 := h.of_block (hb.block b h.lt)
theorem BoxDv.facts {w : World} {b : Nat} {u0 u1 : Value} (h : BoxDv w b u0 u1) : w.cell? ⟨b, 0, none⟩ = some u0 ∧ w.cell? ⟨b, 1, none⟩ = some u1 ∧ w.frozen? ⟨b, 0, none⟩ = false ∧ w.frozen? ⟨b, 1, none⟩ = false := by
  unfold BoxDv at h
  refine ⟨?_, ?_, ?_, ?_⟩ <;> simp [World.cell?, World.frozen?, h]
theorem boxDv_new (w : World) (u0 u1 : Value) : BoxDv (w.alloc (.cells #[u0, u1] 27)) w.heap.size u0 u1 := heap_alloc_new w _
theorem boxDv_row {w : World} {B b t s n : Nat} {u0 u1 v : Value} {xs : List Value} (h : BoxDv w b u0 u1) (ho : w.ownsRow B t s v n xs) (ht : t ≠ 27) : ∀ k, v.ownBlock = some k → b = k → False := by
  intro k hk e
  subst e
  rcases ho.2 with ⟨rfl, _⟩ | ⟨g, cap, cur, rfl, _, hg, _⟩
  · simp [Value.ownBlock] at hk
  · obtain rfl : g = b := by simpa [Value.ownBlock] using hk
    unfold BoxDv at h
    rw [h] at hg
    injection hg with hg
    injection hg with _ h2
    exact ht h2.symm
theorem BoxDv.set0 {w : World} {b : Nat} {u0 u1 u : Value} (h : BoxDv w b u0 u1) : BoxDv (w.setCell ⟨b, 0, none⟩ u) b u u1 := by
  unfold BoxDv at h ⊢
  exact heap_setCell_same w b 0 _ _ u h
theorem BoxDv.set1 {w : World} {b : Nat} {u0 u1 u : Value} (h : BoxDv w b u0 u1) : BoxDv (w.setCell ⟨b, 1, none⟩ u) b u0 u := by
  unfold BoxDv at h ⊢
  exact heap_setCell_same w b 1 _ _ u h
theorem BoxDv.at {w : World} {b : Nat} {X : DvX} (h : BoxDv w b X.vs X.vl) : DvAt w b X := ⟨h.facts.1, h.facts.2.1⟩
theorem block_set {w : World} {b c j : Nat} {u : Value} (h : c ≠ b) : (w.setCell ⟨c, j, none⟩ u).heap[b]? = w.heap[b]? := heap_setCell_other w ⟨c, j, none⟩ b u (fun e => h e.symm)
theorem below_drewN' {W : World} (n : Nat) : Below W.heap.size W (W.drewN n) := below_drewN (Below.refl _ _) n
end Go.Proofs.Ytgmjoejoehhekaa
