/- Banks in memory: two rows of numbers; what their functions tell, in plain words. -/
import Derived.Test.YtdleolgkbkoekaaDoorNumBase
import Derived.Test.YtdleolgkbkoekaaDoorGen
namespace Go.Proofs.YtdleolgkbkoekaaDoor
open Go.RowKit
/-- A bank with the values of its two rows. -/
structure BkX where
  vm : Value
  vc : Value
  mon : List Int
  cnt : List Int
/-- A bank that can be read. -/
structure RdBk (w : World) (X : BkX) : Prop where
  mon : RdI w X.vm X.mon
  cnt : RdI w X.vc X.cnt
theorem RdBk.below {w w' : World} {X : BkX} (h : RdBk w X) (hb : Below w.heap.size w w') : RdBk w' X := ⟨h.mon.below hb, h.cnt.below hb⟩
/-- The two cells of a bank in a box. -/
def BkAt (w : World) (b : Nat) (X : BkX) : Prop := w.cell? ⟨b, 0, none⟩ = some X.vm ∧ w.cell? ⟨b, 1, none⟩ = some X.vc
theorem BkAt.lt {w : World} {b : Nat} {X : BkX} (h : BkAt w b X) : b < w.heap.size := World.block_lt_of_cell? w _ h.1
theorem BkAt.of_block {w w' : World} {b : Nat} {X : BkX} (h : BkAt w b X) (hb : w'.heap[b]? = w.heap[b]?) : BkAt w' b X :=
  ⟨(World.cell?_of_block (a := ⟨b, 0, none⟩) hb).trans h.1, (World.cell?_of_block (a := ⟨b, 1, none⟩) hb).trans h.2⟩
theorem BkAt.below {w w' : World} {b : Nat} {X : BkX} (h : BkAt w b X) (hb : Below w.heap.size w w') : BkAt w' b X := h.of_block (hb.block b h.lt)
theorem bkAt_new (w : World) (X : BkX) (t : TypeId) : BkAt (w.alloc (.cells #[X.vm, X.vc] t)) w.heap.size X := by
  constructor <;> simp [World.cell?_alloc_at]
/-- A bank in rows of the call's own, which are two. -/
structure OwnBk (w : World) (B : Nat) (X : BkX) : Prop where
  mon : OwnI w B X.vm X.mon
  cnt : OwnI w B X.vc X.cnt
  two : ∀ q, X.vm.ownBlock = some q → X.vc.ownBlock = some q → False
theorem OwnBk.below {w w' : World} {B : Nat} {X : BkX} (h : OwnBk w B X) (hb : Below w.heap.size w w') : OwnBk w' B X := ⟨h.mon.below hb, h.cnt.below hb, h.two⟩
theorem OwnBk.rd {w : World} {B : Nat} {X : BkX} (h : OwnBk w B X) : RdBk w X := ⟨h.mon.rd, h.cnt.rd⟩
theorem OwnBk.mono {w : World} {B B' : Nat} {X : BkX} (h : OwnBk w B X) (hb : B' ≤ B) : OwnBk w B' X := ⟨h.mon.mono hb, h.cnt.mono hb, h.two⟩
theorem ownBk_zero (w : World) (B : Nat) : OwnBk w B ⟨.slice none 0 0, .slice none 0 0, [], []⟩ := ⟨ownI_nil w B, ownI_nil w B, fun q h => by simp [Value.ownBlock] at h⟩
/-- The blocks of a bank's rows. -/
def bkB (X : BkX) : List Nat := oneB X.vm ++ oneB X.vc
theorem OwnBk.bound {w : World} {B : Nat} {X : BkX} (h : OwnBk w B X) {k : Nat} (hk : k ∈ bkB X) : B ≤ k ∧ k < w.heap.size := by
  rcases List.mem_append.1 hk with hk | hk
  · exact World.ownsRow.lt h.mon k (mem_oneB.1 hk)
  · exact World.ownsRow.lt h.cnt k (mem_oneB.1 hk)
theorem OwnBk.touch {bs : List Nat} {w w' : World} {B : Nat} {X : BkX} (h : OwnBk w B X) (ht : Touch bs w w') (hn : ∀ k ∈ bkB X, k ∉ bs) : OwnBk w' B X :=
  ⟨ht.row h.mon (fun k hk => hn k (List.mem_append_left _ (mem_oneB.2 hk))), ht.row h.cnt (fun k hk => hn k (List.mem_append_right _ (mem_oneB.2 hk))), h.two⟩
theorem Touch.bk {bs : List Nat} {w w' : World} {b : Nat} {X : BkX} (h : Touch bs w w') (ht : BkAt w b X) (hn : b ∉ bs) : BkAt w' b X := ht.of_block (h.block b ht.lt hn)
theorem ownSl {w : World} {B t z n : Nat} {v : Value} {xs : List Value} (h : w.ownsRow B t z v n xs) : ∃ a c, v = .slice a n c := by
  rcases h.2 with ⟨hv, h0⟩ | ⟨g, cap, cur, hv, _⟩
  · exact ⟨none, 0, by rw [hv, h0]⟩
  · exact ⟨_, _, hv⟩
theorem rdI_slice {w : World} {v : Value} {ns : List Int} (h : RdI w v ns) : ∃ a c, v = .slice a ns.length c ∧ ns.length ≤ c ∧ c ≤ 9223372036854775807 := by
  obtain ⟨a, c, hv, h1, h2, _⟩ := h
  unfold maxLen at h2
  exact ⟨a, c, hv, h1, by omega⟩
/-- A bank of the call's own, with these numbers. -/
def ToBk (w : World) (ms cs : List Int) (e : Ending) (w' : World) : Prop := ∃ Y : BkX, e = .returned (.agg #[Y.vm, Y.vc]) ∧ Y.mon = ms ∧ Y.cnt = cs ∧ OwnBk w' w.heap.size Y ∧ Below w.heap.size w w'
/-- A bank's box. -/
def BoxBk (w : World) (b : Nat) (u0 u1 : Value) : Prop := w.heap[b]? = some (.cells #[u0, u1] 26 (0, 0))
theorem BoxBk.lt {w : World} {b : Nat} {u0 u1 : Value} (h : BoxBk w b u0 u1) : b < w.heap.size := (Array.getElem?_eq_some_iff.1 h).1
theorem BoxBk.of_block {w w' : World} {b : Nat} {u0 u1 : Value} (h : BoxBk w b u0 u1) (hb : w'.heap[b]? = w.heap[b]?) : BoxBk w' b u0 u1 := hb.trans h
theorem BoxBk.below {w w' : World} {b : Nat} {u0 u1 : Value} (h : BoxBk w b u0 u1) (hb : Below w.heap.size w w') : BoxBk w' b u0 u1 := h.of_block (hb.block b h.lt)
theorem BoxBk.facts {w : World} {b : Nat} {u0 u1 : Value} (h : BoxBk w b u0 u1) : w.cell? ⟨b, 0, none⟩ = some u0 ∧ w.cell? ⟨b, 1, none⟩ = some u1 ∧ w.frozen? ⟨b, 0, none⟩ = false ∧ w.frozen? ⟨b, 1, none⟩ = false := by
  unfold BoxBk at h
  refine ⟨?_, ?_, ?_, ?_⟩ <;> simp [World.cell?, World.frozen?, h]
theorem boxBk_new (w : World) (u0 u1 : Value) : BoxBk (w.alloc (.cells #[u0, u1] 26)) w.heap.size u0 u1 := heap_alloc_new w _
theorem boxBk_row {w : World} {B b t s n : Nat} {u0 u1 v : Value} {xs : List Value} (h : BoxBk w b u0 u1) (ho : w.ownsRow B t s v n xs) (ht : t ≠ 26) : ∀ k, v.ownBlock = some k → b = k → False := by
  intro k hk e
  subst e
  rcases ho.2 with ⟨rfl, _⟩ | ⟨g, cap, cur, rfl, _, hg, _⟩
  · simp [Value.ownBlock] at hk
  · obtain rfl : g = b := by simpa [Value.ownBlock] using hk
    unfold BoxBk at h
    rw [h] at hg
    injection hg with hg
    injection hg with _ h2
    exact ht h2.symm
theorem BoxBk.set0 {w : World} {b : Nat} {u0 u1 u : Value} (h : BoxBk w b u0 u1) : BoxBk (w.setCell ⟨b, 0, none⟩ u) b u u1 := by
  unfold BoxBk at h ⊢
  exact heap_setCell_same w b 0 _ _ u h
theorem BoxBk.set1 {w : World} {b : Nat} {u0 u1 u : Value} (h : BoxBk w b u0 u1) : BoxBk (w.setCell ⟨b, 1, none⟩ u) b u0 u := by
  unfold BoxBk at h ⊢
  exact heap_setCell_same w b 1 _ _ u h
theorem BoxBk.at {w : World} {b : Nat} {X : BkX} (h : BoxBk w b X.vm X.vc) : BkAt w b X := ⟨h.facts.1, h.facts.2.1⟩
theorem blkSet {w : World} {b c j : Nat} {u : Value} (h : c ≠ b) : (w.setCell ⟨c, j, none⟩ u).heap[b]? = w.heap[b]? := heap_setCell_other w ⟨c, j, none⟩ b u (fun e => h e.symm)
theorem belowDrw {W : World} (n : Nat) : Below W.heap.size W (W.drewN n) := below_drewN (Below.refl _ _) n
/-- The number at a place. -/
def nthI (ns : List Int) (i : Nat) : Int := ns.getD i 0
theorem nthI_eq {ns : List Int} {i : Nat} (h : i < ns.length) : nthI ns i = ns[i] := by simp [nthI, h]
theorem RdI.nth {w : World} {a : Option Addr} {n cap : Nat} {ns : List Int} (h : RdI w (.slice a n cap) ns) (i : Nat) (hi : i < ns.length) : ∃ b off, a = some ⟨b, off, none⟩ ∧ w.cell? ⟨b, off + i, none⟩ = some (.int .i64 (nthI ns i)) := by
  rw [nthI_eq hi]; exact h.at i hi
/-- The sum of the first k numbers. -/
def sumTo (ns : List Int) : Nat → Int
  | 0 => 0
  | k + 1 => sumTo ns k + nthI ns k
/-- All numbers from 0 to m. -/
def RowOk (ns : List Int) (m : Int) : Prop := ns.length = 8 ∧ ∀ i, i < 8 → 0 ≤ nthI ns i ∧ nthI ns i ≤ m
instance (ns : List Int) (m : Int) : Decidable (RowOk ns m) := by unfold RowOk; infer_instance
theorem sumTo_bd {ns : List Int} {m : Int} (h : ∀ i, i < 8 → 0 ≤ nthI ns i ∧ nthI ns i ≤ m) : ∀ k, k ≤ 8 → 0 ≤ sumTo ns k ∧ sumTo ns k ≤ m * k
  | 0, _ => by simp [sumTo]
  | k + 1, hk => by
    have ih := sumTo_bd h k (by omega)
    have := h k (by omega)
    unfold sumTo
    rw [Int.natCast_add, Int.mul_add]
    omega
/-- A right bank. -/
def BankP (ms cs : List Int) : Prop := RowOk ms 1000000000 ∧ RowOk cs 1000000 ∧ sumTo ms 8 ≤ 1000000000
instance (ms cs : List Int) : Decidable (BankP ms cs) := by unfold BankP; infer_instance
def bankOk (ms cs : List Int) : Bool := decide (BankP ms cs)
def totR (ms cs : List Int) : Int := if BankP ms cs then sumTo ms 8 else -1
/-- A right move. -/
structure Mov where
  fr : Int
  to' : Int
  sum : Int
  cou : Int
def MovP (m : Mov) : Prop := (0 ≤ m.fr ∧ m.fr ≤ 7) ∧ (0 ≤ m.to' ∧ m.to' ≤ 7) ∧ (1 ≤ m.sum ∧ m.sum ≤ 1000000000) ∧ (0 ≤ m.cou ∧ m.cou ≤ 999999)
instance (m : Mov) : Decidable (MovP m) := by unfold MovP; infer_instance
def movOk (m : Mov) : Bool := decide (MovP m)
def moC (m : Mov) : Array Value := #[.int .i64 m.fr, .int .i64 m.to', .int .i64 m.sum, .int .i64 m.cou]
end Go.Proofs.YtdleolgkbkoekaaDoor
