/- Proofs (who voted for a view and a name): plain notions, and proofs in memory. -/
import Derived.Test.YtckidhcknibceaaBxGen
import Derived.Test.YtckidhcknibceaaVotBase
namespace Go.Proofs.Ytckidhcknibceaa
open Go.RowKit
/-- A proof: its view, its name, the servers, their tags. -/
structure Prf where
  vw : Int
  nm : Int
  sv : List Int
  tg : List Int
deriving DecidableEq
def prfZ : Prf := ⟨0, 0, [], []⟩
/-- A proof with the values of its two rows. -/
structure PrX where
  p : Prf
  vs : Value
  vt : Value
def PrX.cs (X : PrX) : List Value := [.int .i64 X.p.vw, .int .i64 X.p.nm, X.vs, X.vt]
/-- A proof that can be read. -/
structure RdPr (w : World) (X : PrX) : Prop where
  sv : RdI w X.vs X.p.sv
  tg : RdI w X.vt X.p.tg
theorem RdPr.below {w w' : World} {X : PrX} (h : RdPr w X) (hb : Below w.heap.size w w') : RdPr w' X := ⟨h.sv.below hb, h.tg.below hb⟩
/-- Its numbers are numbers of a program. -/
structure FitPr (p : Prf) : Prop where
  vw : -9223372036854775808 ≤ p.vw ∧ p.vw ≤ 9223372036854775807
  nm : -9223372036854775808 ≤ p.nm ∧ p.nm ≤ 9223372036854775807
  sv : ∀ s ∈ p.sv, -9223372036854775808 ≤ s ∧ s ≤ 9223372036854775807
  tg : ∀ s ∈ p.tg, -9223372036854775808 ≤ s ∧ s ≤ 9223372036854775807
theorem fitPr_zero : FitPr prfZ := ⟨by decide, by decide, fun s hs => (by cases hs), fun s hs => (by cases hs)⟩
/-- A proof in rows of the call's own, which are two. -/
structure OwnPr (w : World) (B : Nat) (X : PrX) : Prop where
  sv : OwnI w B X.vs X.p.sv
  tg : OwnI w B X.vt X.p.tg
  two : ∀ q, X.vs.ownBlock = some q → X.vt.ownBlock = some q → False
theorem OwnPr.below {w w' : World} {B : Nat} {X : PrX} (h : OwnPr w B X) (hb : Below w.heap.size w w') : OwnPr w' B X := ⟨h.sv.below hb, h.tg.below hb, h.two⟩
theorem OwnPr.rd {w : World} {B : Nat} {X : PrX} (h : OwnPr w B X) : RdPr w X := ⟨h.sv.rd, h.tg.rd⟩
theorem OwnPr.mono {w : World} {B B' : Nat} {X : PrX} (h : OwnPr w B X) (hb : B' ≤ B) : OwnPr w B' X := ⟨h.sv.mono hb, h.tg.mono hb, h.two⟩
def prxZ : PrX := ⟨prfZ, .slice none 0 0, .slice none 0 0⟩
theorem ownPr_zero (w : World) (B : Nat) (v n : Int) : OwnPr w B ⟨⟨v, n, [], []⟩, .slice none 0 0, .slice none 0 0⟩ := ⟨ownI_nil w B, ownI_nil w B, fun q h => by simp [Value.ownBlock] at h⟩
/-- The blocks of a proof's rows. -/
def prB (X : PrX) : List Nat := oneB X.vs ++ oneB X.vt
theorem OwnPr.bound {w : World} {B : Nat} {X : PrX} (h : OwnPr w B X) {k : Nat} (hk : k ∈ prB X) : B ≤ k ∧ k < w.heap.size := by
  rcases List.mem_append.1 hk with hk | hk
  · exact World.ownsRow.lt h.sv k (mem_oneB.1 hk)
  · exact World.ownsRow.lt h.tg k (mem_oneB.1 hk)
theorem OwnPr.touch {bs : List Nat} {w w' : World} {B : Nat} {X : PrX} (h : OwnPr w B X) (ht : Touch bs w w') (hn : ∀ k ∈ prB X, k ∉ bs) : OwnPr w' B X :=
  ⟨ht.row h.sv (fun k hk => hn k (List.mem_append_left _ (mem_oneB.2 hk))), ht.row h.tg (fun k hk => hn k (List.mem_append_right _ (mem_oneB.2 hk))), h.two⟩
/-- A box at g, made behind w0, that holds the cells cs; and a proof's rows, the call's own. -/
structure PrBx (w0 w : World) (g : Nat) (cs : Array Value) (X : PrX) : Prop where
  ge : w0.heap.size ≤ g
  box : Bx w g 30 cs
  own : OwnPr w w0.heap.size X
  bel : Below w0.heap.size w0 w
def prA (X : PrX) : Array Value := #[.int .i64 X.p.vw, .int .i64 X.p.nm, X.vs, X.vt]
theorem PrBx.below {w0 w w' : World} {g : Nat} {cs : Array Value} {X : PrX} (h : PrBx w0 w g cs X) (hb : Below w.heap.size w w') : PrBx w0 w' g cs X :=
  ⟨h.ge, h.box.below hb, h.own.below hb, h.bel.trans (hb.mono h.bel.size)⟩
theorem PrBx.drew {w0 w : World} {g : Nat} {cs : Array Value} {X : PrX} (h : PrBx w0 w g cs X) : PrBx w0 w.drew g cs X := h.below (Below.refl _ _).drew
theorem PrBx.ne {w0 w : World} {g : Nat} {cs : Array Value} {X : PrX} (h : PrBx w0 w g cs X) : ∀ k ∈ prB X, g ≠ k := by
  intro k hk
  rcases List.mem_append.1 hk with hk | hk
  · exact h.box.row h.own.sv (by decide) k (mem_oneB.1 hk)
  · exact h.box.row h.own.tg (by decide) k (mem_oneB.1 hk)
theorem PrBx.set {w0 w : World} {g : Nat} {cs : Array Value} {X : PrX} (h : PrBx w0 w g cs X) (i : Nat) (u : Value) : PrBx w0 (w.setCell ⟨g, i, none⟩ u) g (cs.setIfInBounds i u) X := by
  refine ⟨h.ge, h.box.set i u, h.own.touch (bs := [g]) (Touch.set (List.mem_singleton.2 rfl)) (fun k hk e => h.ne k hk (List.mem_singleton.1 e).symm), h.bel.setCell h.ge _⟩
/-- Behind an append onto the servers. -/
theorem PrBx.app {w0 w w' : World} {g : Nat} {cs : Array Value} {X : PrX} (h : PrBx w0 w g cs X) {v' : Value} {zs : List Int} (ho : OwnI w' w0.heap.size v' (X.p.sv ++ zs)) (hg : w.grownBy w' X.vs.ownBlock) (ha : v'.ownBlock = X.vs.ownBlock ∨ v'.ownBlock = some w.heap.size) :
    PrBx w0 w' g cs ⟨⟨X.p.vw, X.p.nm, X.p.sv ++ zs, X.p.tg⟩, v', X.vt⟩ := by
  have hgo : ∀ k, X.vs.ownBlock = some k → w0.heap.size ≤ k ∧ k < w.heap.size := fun k hk => World.ownsRow.lt h.own.sv k hk
  refine ⟨h.ge, h.box.of_block (hg.block g h.box.lt (fun e => h.box.row h.own.sv (by decide) g e.symm rfl)), ⟨ho, row_kept h.own.tg hg (fun k hk e => h.own.two k e hk), fun q h1 h2 => ?_⟩, h.bel.grown hg h.bel.size (fun k hk => (hgo k hk).1)⟩
  simp only at h1 h2
  rcases ha with ha | ha
  · exact h.own.two q (by rw [← ha]; exact h1) h2
  · rw [ha] at h1
    have e : w.heap.size = q := Option.some.inj h1
    have := (World.ownsRow.lt h.own.tg q h2).2
    omega
/-- Behind an append onto the tags. -/
theorem PrBx.apt {w0 w w' : World} {g : Nat} {cs : Array Value} {X : PrX} (h : PrBx w0 w g cs X) {v' : Value} {zs : List Int} (ho : OwnI w' w0.heap.size v' (X.p.tg ++ zs)) (hg : w.grownBy w' X.vt.ownBlock) (ha : v'.ownBlock = X.vt.ownBlock ∨ v'.ownBlock = some w.heap.size) :
    PrBx w0 w' g cs ⟨⟨X.p.vw, X.p.nm, X.p.sv, X.p.tg ++ zs⟩, X.vs, v'⟩ := by
  have hgo : ∀ k, X.vt.ownBlock = some k → w0.heap.size ≤ k ∧ k < w.heap.size := fun k hk => World.ownsRow.lt h.own.tg k hk
  refine ⟨h.ge, h.box.of_block (hg.block g h.box.lt (fun e => h.box.row h.own.tg (by decide) g e.symm rfl)), ⟨row_kept h.own.sv hg (fun k hk e => h.own.two k hk e), ho, fun q h1 h2 => ?_⟩, h.bel.grown hg h.bel.size (fun k hk => (hgo k hk).1)⟩
  simp only at h1 h2
  rcases ha with ha | ha
  · exact h.own.two q h1 (by rw [← ha]; exact h2)
  · rw [ha] at h2
    have e : w.heap.size = q := Option.some.inj h2
    have := (World.ownsRow.lt h.own.sv q h1).2
    omega
theorem prBx_new {w0 w : World} (v n : Int) (hb : Below w0.heap.size w0 w) : PrBx w0 (w.alloc (.cells #[.int .i64 v, .int .i64 n, .slice none 0 0, .slice none 0 0] 30)) w.heap.size #[.int .i64 v, .int .i64 n, .slice none 0 0, .slice none 0 0] ⟨⟨v, n, [], []⟩, .slice none 0 0, .slice none 0 0⟩ :=
  ⟨hb.size, bx_new w _ _, ownPr_zero _ _ v n, hb.alloc hb.size _⟩
/-- The rows of a proof are slices. -/
theorem OwnPr.slices {w : World} {B : Nat} {X : PrX} (h : OwnPr w B X) : ∃ (a : Option Addr) (c : Nat) (b : Option Addr) (d : Nat), X.vs = .slice a X.p.sv.length c ∧ X.vt = .slice b X.p.tg.length d := by
  obtain ⟨a, c, h1⟩ := ownSlX h.sv
  obtain ⟨b, d, h2⟩ := ownSlX h.tg
  exact ⟨a, c, b, d, h1, h2⟩
end Go.Proofs.Ytckidhcknibceaa
