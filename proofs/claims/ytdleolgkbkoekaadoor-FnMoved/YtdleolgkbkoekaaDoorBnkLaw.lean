/- Where the walk of a law over banks stands: boxes that hold banks whose rows are the call's own, one behind the other. -/
import Derived.Test.YtdleolgkbkoekaaDoorBnkCp
namespace Go.Proofs.YtdleolgkbkoekaaDoor
open Go.RowKit
/-- A box (number b) that holds a bank whose rows are from number lo on. -/
structure BI where
  b : Nat
  lo : Nat
  Y : BkX
theorem BoxBk.out {w : World} {b B : Nat} {u0 u1 : Value} {G : BkX} (h : BoxBk w b u0 u1) (ho : OwnBk w B G) : b ∉ bkB G := fun e => by
  rcases List.mem_append.1 e with e | e
  · exact boxBk_row h ho.mon (by decide) _ (mem_oneB.1 e) rfl
  · exact boxBk_row h ho.cnt (by decide) _ (mem_oneB.1 e) rfl
/-- A box of four numbers. -/
def Box4 (w : World) (b : Nat) (t : TypeId) (m : Mov) : Prop := w.heap[b]? = some (.cells #[.int .i64 m.fr, .int .i64 m.to', .int .i64 m.sum, .int .i64 m.cou] t (0, 0))
theorem Box4.lt {w : World} {b : Nat} {t : TypeId} {m : Mov} (h : Box4 w b t m) : b < w.heap.size := (Array.getElem?_eq_some_iff.1 h).1
theorem Box4.facts {w : World} {b : Nat} {t : TypeId} {m : Mov} (h : Box4 w b t m) : w.cell? ⟨b, 0, none⟩ = some (.int .i64 m.fr) ∧ w.cell? ⟨b, 1, none⟩ = some (.int .i64 m.to') ∧ w.cell? ⟨b, 2, none⟩ = some (.int .i64 m.sum) ∧ w.cell? ⟨b, 3, none⟩ = some (.int .i64 m.cou) := by
  unfold Box4 at h
  refine ⟨?_, ?_, ?_, ?_⟩ <;> simp [World.cell?, h]
structure QB (w W : World) (xa : Option BkX) (mt : Option (TypeId × Mov)) (l : List BI) : Prop where
  bel : Below w.heap.size w W
  arg : ∀ X, xa = some X → BkAt W w.heap.size X
  mov : ∀ t m, mt = some (t, m) → Box4 W (w.heap.size + 1) t m
  bx : ∀ i ∈ l, BoxBk W i.b i.Y.vm i.Y.vc
  ow : ∀ i ∈ l, OwnBk W i.lo i.Y
theorem QB.on {w W W' : World} {xa : Option BkX} {mt : Option (TypeId × Mov)} {l : List BI} (h : QB w W xa mt l) (hb : Below W.heap.size W W') : QB w W' xa mt l :=
  ⟨h.bel.trans (hb.mono h.bel.size), fun X e => (h.arg X e).below hb, fun t m e => (hb.block _ (h.mov t m e).lt).trans (h.mov t m e), fun i hi => (h.bx i hi).below hb, fun i hi => (h.ow i hi).below hb⟩
theorem QB.put {w W : World} {xa : Option BkX} {mt : Option (TypeId × Mov)} {l : List BI} (h : QB w W xa mt l) {b lo : Nat} {Y : BkX} (hb : BoxBk W b Y.vm Y.vc) (ho : OwnBk W lo Y) : QB w W xa mt (⟨b, lo, Y⟩ :: l) :=
  ⟨h.bel, h.arg, h.mov, fun i hi => by rcases List.mem_cons.1 hi with rfl | hi; exact hb; exact h.bx i hi, fun i hi => by rcases List.mem_cons.1 hi with rfl | hi; exact ho; exact h.ow i hi⟩
theorem QB.drop {w W : World} {xa : Option BkX} {mt : Option (TypeId × Mov)} {i : BI} {l : List BI} (h : QB w W xa mt (i :: l)) : QB w W xa mt l :=
  ⟨h.bel, h.arg, h.mov, fun j hj => h.bx j (List.mem_cons_of_mem _ hj), fun j hj => h.ow j (List.mem_cons_of_mem _ hj)⟩
theorem QB.touch {bs : List Nat} {w W W' : World} {xa : Option BkX} {mt : Option (TypeId × Mov)} {l : List BI} (h : QB w W xa mt l) (ht : Touch bs W W') (hl : ∀ k ∈ bs, w.heap.size ≤ k) (ha : ∀ X, xa = some X → w.heap.size ∉ bs) (hm : ∀ t m, mt = some (t, m) → w.heap.size + 1 ∉ bs) (hb : ∀ i ∈ l, i.b ∉ bs) (ho : ∀ i ∈ l, ∀ k ∈ bkB i.Y, k ∉ bs) : QB w W' xa mt l :=
  ⟨ht.below h.bel hl, fun X e => (h.arg X e).of_block (ht.block _ (h.arg X e).lt (ha X e)), fun t m e => (ht.block _ (h.mov t m e).lt (hm t m e)).trans (h.mov t m e), fun i hi => (h.bx i hi).of_block (ht.block _ (h.bx i hi).lt (hb i hi)), fun i hi => (h.ow i hi).touch ht (ho i hi)⟩
/-- A bank that was made: its rows written out. -/
theorem ToBk.open {w w' : World} {ms cs : List Int} {e : Ending} (h : ToBk w ms cs e w') : ∃ (a : Option Addr) (n c : Nat) (a' : Option Addr) (n' c' : Nat), e = .returned (.agg #[.slice a n c, .slice a' n' c']) ∧ OwnBk w' w.heap.size ⟨.slice a n c, .slice a' n' c', ms, cs⟩ ∧ Below w.heap.size w w' := by
  obtain ⟨⟨vm, vc, m, c⟩, rfl, h1, h2, ho, hb⟩ := h
  simp only at h1 h2
  subst h1
  subst h2
  obtain ⟨a, n, e1⟩ := ownSl ho.mon
  obtain ⟨a', n', e2⟩ := ownSl ho.cnt
  simp only at e1 e2
  subst e1
  subst e2
  exact ⟨_, _, _, _, _, _, rfl, ho, hb⟩
end Go.Proofs.YtdleolgkbkoekaaDoor
