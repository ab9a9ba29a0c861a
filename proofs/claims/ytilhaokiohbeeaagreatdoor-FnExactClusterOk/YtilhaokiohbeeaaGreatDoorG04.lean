/- Blocks (a view, the name ahead, who voted, moves as texts, by whom): plain notions, and blocks in memory. Plain facts on rows of Blocks (8 cells each) that a call owns or reads. The contract of the law's own mark of a number, as a text. The contract of the model's EntriesOk. The contracts of the laws' own helpers over slices of numbers: copied, alike, marked, held. The law's marks of numbers, from any number on. -/
import Derived.Test.YtilhaokiohbeeaaGreatDoorG03
import Derived.Test.YtilhaokiohbeeaaGreatDoorG00
import Derived.Deep.RegionHeld3
import Derived.Test.YtilhaokiohbeeaaGreatDoorG02
namespace Go.Proofs.YtilhaokiohbeeaaGreatDoor
open Go.RowKit
/-- A block: its view, the name of the one ahead, the proof, its moves, the server. -/
structure Blk where
  vw : Int
  pa : Int
  p : Prf
  mo : List ByteArray
  sv : Int
deriving DecidableEq
/-- A block with the values of its three rows. -/
structure BlX where
  b : Blk
  vs : Value
  vt : Value
  vm : Value
def BlX.cs (X : BlX) : List Value := [.int .i64 X.b.vw, .int .i64 X.b.pa, .int .i64 X.b.p.vw, .int .i64 X.b.p.nm, X.vs, X.vt, X.vm, .int .i64 X.b.sv]
def BlX.pr (X : BlX) : PrX := ⟨X.b.p, X.vs, X.vt⟩
/-- A block that can be read. -/
structure RdBl (w : World) (X : BlX) : Prop where
  pr : RdPr w X.pr
  mo : RdS w X.vm X.b.mo
theorem RdBl.below {w w' : World} {X : BlX} (h : RdBl w X) (hb : Below w.heap.size w w') : RdBl w' X := ⟨h.pr.below hb, h.mo.below hb⟩
/-- Its numbers are numbers of a program, its texts no longer than a text can be. -/
structure FitBl (b : Blk) : Prop where
  vw : -9223372036854775808 ≤ b.vw ∧ b.vw ≤ 9223372036854775807
  pa : -9223372036854775808 ≤ b.pa ∧ b.pa ≤ 9223372036854775807
  pr : FitPr b.p
  mo : ∀ s ∈ b.mo, s.size ≤ maxLen
  sv : -9223372036854775808 ≤ b.sv ∧ b.sv ≤ 9223372036854775807
/-- A block in rows of the call's own, which are three. -/
structure OwnBl (w : World) (B : Nat) (X : BlX) : Prop where
  pr : OwnPr w B X.pr
  mo : OwnS w B X.vm X.b.mo
  apS : ∀ q, X.vs.ownBlock = some q → X.vm.ownBlock = some q → False
  apT : ∀ q, X.vt.ownBlock = some q → X.vm.ownBlock = some q → False
theorem OwnBl.below {w w' : World} {B : Nat} {X : BlX} (h : OwnBl w B X) (hb : Below w.heap.size w w') : OwnBl w' B X := ⟨h.pr.below hb, h.mo.below hb, h.apS, h.apT⟩
theorem OwnBl.rd {w : World} {B : Nat} {X : BlX} (h : OwnBl w B X) : RdBl w X := ⟨h.pr.rd, h.mo.rd⟩
theorem OwnBl.mono {w : World} {B B' : Nat} {X : BlX} (h : OwnBl w B X) (hb : B' ≤ B) : OwnBl w B' X := ⟨h.pr.mono hb, h.mo.mono hb, h.apS, h.apT⟩
/-- The memory blocks of a block's rows. -/
def blB (X : BlX) : List Nat := prB X.pr ++ oneB X.vm
theorem OwnBl.bound {w : World} {B : Nat} {X : BlX} (h : OwnBl w B X) {k : Nat} (hk : k ∈ blB X) : B ≤ k ∧ k < w.heap.size := by
  rcases List.mem_append.1 hk with hk | hk
  · exact h.pr.bound hk
  · exact World.ownsRow.lt h.mo k (mem_oneB.1 hk)
theorem OwnBl.touch {bs : List Nat} {w w' : World} {B : Nat} {X : BlX} (h : OwnBl w B X) (ht : Touch bs w w') (hn : ∀ k ∈ blB X, k ∉ bs) : OwnBl w' B X :=
  ⟨h.pr.touch ht (fun k hk => hn k (List.mem_append_left _ hk)), ht.row h.mo (fun k hk => hn k (List.mem_append_right _ (mem_oneB.2 hk))), h.apS, h.apT⟩
end Go.Proofs.YtilhaokiohbeeaaGreatDoor
namespace Go.Proofs.YtilhaokiohbeeaaGreatDoor
open Go.RowKit
def zeroBs : BlX := ⟨⟨0, 0, ⟨0, 0, [], []⟩, [], 0⟩, .slice none 0 0, .slice none 0 0, .slice none 0 0⟩
def nthBs (xs : List BlX) (i : Nat) : BlX := xs.getD i zeroBs
theorem nthBs_eq {xs : List BlX} {i : Nat} (h : i < xs.length) : nthBs xs i = xs[i] := by simp [nthBs, List.getD, List.getElem?_eq_getElem h]
theorem nthBs_zero (a : BlX) (r : List BlX) : nthBs (a :: r) 0 = a := by simp [nthBs]
instance : Inhabited BlX := ⟨zeroBs⟩
theorem nthBs_succ (a : BlX) (r : List BlX) (i : Nat) : nthBs (a :: r) (i + 1) = nthBs r i := by simp [nthBs, List.getD]
theorem Tryz.infoBs34 : (Tryz.prog.info? 34).map (fun i => (i.zero, i.size, i.bytes)) = some (some (.agg #[.int .i64 0, .int .i64 0, .int .i64 0, .int .i64 0, .slice none 0 0, .slice none 0 0, .slice none 0 0, .int .i64 0]), 8, 112) := by kernel_rfl
/-- The cells of a Block. -/
def BsC (e : BlX) : List Value := [.int .i64 e.b.vw, .int .i64 e.b.pa, .int .i64 e.b.p.vw, .int .i64 e.b.p.nm, e.vs, e.vt, e.vm, .int .i64 e.b.sv]
def BsA (e : BlX) : Value := .agg #[.int .i64 e.b.vw, .int .i64 e.b.pa, .int .i64 e.b.p.vw, .int .i64 e.b.p.nm, e.vs, e.vt, e.vm, .int .i64 e.b.sv]
def BsV (es : List BlX) : List Value := es.flatMap BsC
theorem BsV_length : ∀ es : List BlX, (BsV es).length = es.length * 8
  | [] => rfl
  | a :: r => by
    have := BsV_length r
    unfold BsV at this ⊢
    rw [List.flatMap_cons, List.length_append, this, List.length_cons]
    simp [BsC]; omega
theorem BsV_append (a b : List BlX) : BsV (a ++ b) = BsV a ++ BsV b := by simp [BsV]
theorem BsV_one (e : BlX) : BsV [e] = BsC e := by simp [BsV]
theorem BsV_cons (a : BlX) (r : List BlX) : BsV (a :: r) = BsC a ++ BsV r := by simp [BsV]
theorem BsV_get : ∀ (es : List BlX) (i : Nat), i < es.length → ∀ j, j < 8 → (BsV es)[i * 8 + j]? = (BsC (nthBs es i))[j]?
  | [], i, h, _, _ => by simp at h
  | a :: r, 0, _, j, hj => by
    rw [BsV_cons, nthBs_zero, Nat.zero_mul, Nat.zero_add, List.getElem?_append_left (by simp [BsC]; exact hj)]
  | a :: r, i + 1, h, j, hj => by
    rw [BsV_cons, nthBs_succ, ← BsV_get r i (by simpa using h) j hj, List.getElem?_append_right (by simp [BsC]; omega)]
    congr 1
    simp [BsC]; omega
/-- Its three rows are slices. -/
def SlB (X : BlX) : Prop := X.vs.oneCell' = true ∧ X.vt.oneCell' = true ∧ X.vm.oneCell' = true
theorem BsV_oneCell (es : List BlX) (hsl : ∀ X ∈ es, SlB X) : ∀ u ∈ BsV es, u.oneCell' = true := by
  intro u hu
  simp only [BsV, List.mem_flatMap] at hu
  obtain ⟨e, hel, he⟩ := hu
  obtain ⟨s1, s2, s3⟩ := hsl e hel
  simp only [BsC, List.mem_cons, List.not_mem_nil, or_false] at he
  rcases he with rfl | rfl | rfl | rfl | rfl | rfl | rfl | rfl <;> first | rfl | assumption
/-- The entry e lies at offset o of block b. -/
def BlkAt (w : World) (b o : Nat) (e : BlX) : Prop :=
  w.cell? ⟨b, o, none⟩ = some (.int .i64 e.b.vw) ∧ w.cell? ⟨b, o + 1, none⟩ = some (.int .i64 e.b.pa) ∧ w.cell? ⟨b, o + 2, none⟩ = some (.int .i64 e.b.p.vw) ∧ w.cell? ⟨b, o + 3, none⟩ = some (.int .i64 e.b.p.nm) ∧ w.cell? ⟨b, o + 4, none⟩ = some (e.vs) ∧ w.cell? ⟨b, o + 5, none⟩ = some (e.vt) ∧ w.cell? ⟨b, o + 6, none⟩ = some (e.vm) ∧ w.cell? ⟨b, o + 7, none⟩ = some (.int .i64 e.b.sv)
/-- The slice v is the call's own (its block is at least number base) and holds the entries es. -/
def OwnBs (w : World) (base : Nat) (v : Value) (es : List BlX) : Prop := w.ownsRow base 34 8 v es.length (BsV es)
/-- The slice v can be read and holds the entries es. -/
def RdBs (w : World) (v : Value) (es : List BlX) : Prop :=
  ∃ a cap, v = .slice a es.length cap ∧ es.length ≤ cap ∧ cap ≤ maxLen ∧ (a = none → cap = 0) ∧
    (es = [] ∨ ∃ b off, a = some ⟨b, off, none⟩ ∧ ∀ i, i < es.length → BlkAt w b (off + i * 8) (nthBs es i))
theorem BlkAt.lt {w : World} {b o : Nat} {e : BlX} (h : BlkAt w b o e) : b < w.heap.size := World.block_lt_of_cell? w _ h.1
theorem BlkAt.of_block {w w' : World} {b o : Nat} {e : BlX} (h : BlkAt w b o e) (hb : w'.heap[b]? = w.heap[b]?) : BlkAt w' b o e :=
  ⟨(World.cell?_of_block (a := ⟨b, o, none⟩) hb).trans h.1, (World.cell?_of_block (a := ⟨b, o + 1, none⟩) hb).trans h.2.1, (World.cell?_of_block (a := ⟨b, o + 2, none⟩) hb).trans h.2.2.1, (World.cell?_of_block (a := ⟨b, o + 3, none⟩) hb).trans h.2.2.2.1, (World.cell?_of_block (a := ⟨b, o + 4, none⟩) hb).trans h.2.2.2.2.1, (World.cell?_of_block (a := ⟨b, o + 5, none⟩) hb).trans h.2.2.2.2.2.1, (World.cell?_of_block (a := ⟨b, o + 6, none⟩) hb).trans h.2.2.2.2.2.2.1, (World.cell?_of_block (a := ⟨b, o + 7, none⟩) hb).trans h.2.2.2.2.2.2.2⟩
theorem BlkAt.below {w w' : World} {b o : Nat} {e : BlX} (h : BlkAt w b o e) (hb : Below w.heap.size w w') : BlkAt w' b o e := h.of_block (hb.block b h.lt)
theorem ownBs_cell {w : World} {base g cap n : Nat} {es : List BlX} (h : w.ownsRow base 34 8 (.slice (some ⟨g, 0, none⟩) n cap) n (BsV es)) (hn : n = es.length) (i : Nat) (hi : i < n) : BlkAt w g (i * 8) (nthBs es i) := by
  subst hn
  have c : ∀ j, j < 8 → w.cell? ⟨g, i * 8 + j, none⟩ = (BsC (nthBs es i))[j]? := fun j hj => (h.cellAt (i * 8 + j) (by omega)).trans (BsV_get es i hi j hj)
  exact ⟨c 0 (by omega), c 1 (by omega), c 2 (by omega), c 3 (by omega), c 4 (by omega), c 5 (by omega), c 6 (by omega), c 7 (by omega)⟩
theorem OwnBs.rd {w : World} {base : Nat} {v : Value} {es : List BlX} (h : OwnBs w base v es) : RdBs w v es := by
  have h' := h
  rcases h.2 with ⟨rfl, h0⟩ | ⟨g, cap, cur, rfl, hb, hg, hn, hc, hs, ht⟩
  · have : es = [] := List.length_eq_zero_iff.1 h0
    subst this
    exact ⟨none, 0, rfl, Nat.le_refl _, Nat.zero_le _, fun _ => rfl, .inl rfl⟩
  · refine ⟨some ⟨g, 0, none⟩, cap, rfl, hn, hc, (fun h => by cases h), .inr ⟨g, 0, rfl, fun i hi => ?_⟩⟩
    rw [Nat.zero_add]
    exact ownBs_cell h' rfl i hi
theorem OwnBs.below {w w' : World} {base : Nat} {v : Value} {es : List BlX} (h : OwnBs w base v es) (hb : Below w.heap.size w w') : OwnBs w' base v es := own_below h hb
theorem OwnBs.drewN {w : World} {base : Nat} {v : Value} {es : List BlX} (h : OwnBs w base v es) (q : Nat) : OwnBs (w.drewN q) base v es := h
theorem OwnBs.mono {w : World} {base base' : Nat} {v : Value} {es : List BlX} (h : OwnBs w base v es) (hb : base' ≤ base) : OwnBs w base' v es := by
  refine ⟨h.1, ?_⟩
  rcases h.2 with h2 | ⟨g, cap, cur, hv, hg, r⟩
  · exact .inl h2
  · exact .inr ⟨g, cap, cur, hv, Nat.le_trans hb hg, r⟩
theorem RdBs.below {w w' : World} {v : Value} {es : List BlX} (h : RdBs w v es) (hb : Below w.heap.size w w') : RdBs w' v es := by
  obtain ⟨a, cap, hv, h1, h2, h0, h3⟩ := h
  refine ⟨a, cap, hv, h1, h2, h0, ?_⟩
  rcases h3 with h3 | ⟨b, off, ha, hc⟩
  · exact .inl h3
  · exact .inr ⟨b, off, ha, fun i hi => (hc i hi).below hb⟩
theorem RdBs.drewN {w : World} {v : Value} {es : List BlX} (h : RdBs w v es) (q : Nat) : RdBs (w.drewN q) v es := h
theorem rdBs_nil (w : World) : RdBs w (.slice none 0 0) [] := ⟨none, 0, rfl, Nat.le_refl _, Nat.zero_le _, fun _ => rfl, .inl rfl⟩
theorem ownBs_none (w : World) : OwnBs (w.alloc (.cells #[] 34)) w.heap.size (.slice (some ⟨w.heap.size, 0, none⟩) 0 0) [] := World.ownsRow_lit w #[] 0 (Nat.le_refl _) (Nat.zero_le _) rfl
theorem ownBs_lt {w : World} {B : Nat} {v : Value} {es : List BlX} (h : OwnBs w B v es) : ∀ k, v.ownBlock = some k → k < w.heap.size := fun k hk => (World.ownsRow.lt h k hk).2
theorem ownBs_more {w1 : World} {B : Nat} {v' : Value} {ys zs : List BlX} (h : w1.ownsRow B 34 8 v' (ys.length + zs.length) (BsV ys ++ BsV zs)) : OwnBs w1 B v' (ys ++ zs) := by
  unfold OwnBs
  rw [BsV_append, List.length_append]
  exact h
/-- Where an entry of a slice lies. -/
theorem RdBs.at {w : World} {a : Option Addr} {n cap : Nat} {es : List BlX} (h : RdBs w (.slice a n cap) es) (hn : n = es.length) (i : Nat) (hi : i < es.length) : ∃ b off, a = some ⟨b, off, none⟩ ∧ BlkAt w b (off + i * 8) (nthBs es i) := by
  obtain ⟨a', cap', hv, _, _, _, h3⟩ := h
  simp only [Value.slice.injEq] at hv
  obtain ⟨rfl, _, _⟩ := hv
  rcases h3 with rfl | ⟨b, off, ha, hc⟩
  · simp at hi
  · exact ⟨b, off, ha, hc i hi⟩
theorem BsV_nth {es : List BlX} {j : Nat} {u : Value} (h : (BsV es)[j]? = some u) : j / 8 < es.length ∧ (BsC (nthBs es (j / 8)))[j % 8]? = some u := by
  have hj : j < (BsV es).length := (List.getElem?_eq_some_iff.1 h).1
  rw [BsV_length] at hj
  have h1 : j / 8 < es.length := by omega
  refine ⟨h1, ?_⟩
  have h2 := BsV_get es (j / 8) h1 (j % 8) (by omega)
  rw [show j / 8 * 8 + j % 8 = j by omega] at h2
  rw [← h2]; exact h
theorem BlkAt.cellAt {w : World} {b o : Nat} {e : BlX} (h : BlkAt w b o e) {j : Nat} {u : Value} (hu : (BsC e)[j]? = some u) : w.cell? ⟨b, o + j, none⟩ = some u := by
  obtain ⟨h0, h1, h2, h3, h4, h5, h6, h7⟩ := h
  match j, hu with
  | 0, hu => simp [BsC] at hu; subst hu; exact h0
  | 1, hu => simp [BsC] at hu; subst hu; exact h1
  | 2, hu => simp [BsC] at hu; subst hu; exact h2
  | 3, hu => simp [BsC] at hu; subst hu; exact h3
  | 4, hu => simp [BsC] at hu; subst hu; exact h4
  | 5, hu => simp [BsC] at hu; subst hu; exact h5
  | 6, hu => simp [BsC] at hu; subst hu; exact h6
  | 7, hu => simp [BsC] at hu; subst hu; exact h7
/-- The cells of a slice of entries, in a row. -/
theorem blocksAt_cells {w : World} {b off : Nat} {es : List BlX} (h : ∀ i, i < es.length → BlkAt w b (off + i * 8) (nthBs es i)) : ∀ j u, (BsV es)[j]? = some u → w.cell? ((⟨b, off, none⟩ : Addr).add j) = some u := by
  intro j u hu
  obtain ⟨h1, h2⟩ := BsV_nth hu
  have := (h _ h1).cellAt h2
  rw [Addr.add_lit]
  rw [show off + j / 8 * 8 + j % 8 = off + j by omega] at this
  exact this
/-- append of entries that can be read onto a row of the call's own. -/
theorem run_append_blocks (ty : TypeId) {w : World} {base : Nat} {v u : Value} {ys zs : List BlX} (hown : OwnBs w base v ys) (hr : RdBs w u zs) (hsl : ∀ X ∈ zs, SlB X) (hl : ys.length + zs.length ≤ 1000000000) (hbase : base ≤ w.heap.size) :
    ∃ v' w', (Builtin.append_ #[27, 27] ty #[v, u]).run Tryz.prog w = .ok v' w' ∧ OwnBs w' base v' (ys ++ zs) ∧ w.grownBy w' v.ownBlock := by
  obtain ⟨i0, hi, hz0, hz1, hz2⟩ := info_parts Tryz.infoBs34
  obtain ⟨a, cap, rfl, h1, h2, h0, h3⟩ := hr
  have row : ∀ ad news, news = BsV zs → (∀ j u, news[j]? = some u → w.cell? (ad.add j) = some u) → ∃ v' w', (Builtin.append_ #[27, 27] ty #[v, .slice (some ad) zs.length cap]).run Tryz.prog w = .ok v' w' ∧ OwnBs w' base v' (ys ++ zs) ∧ w.grownBy w' v.ownBlock := by
    intro ad news hn hc
    subst hn
    obtain ⟨v', w', hrun, r1, r2, _⟩ := run_append_own (P := Tryz.prog) w base 27 ty 34 i0 _ 8 112 Tryz.underlying27 hi hz0 hz1 hz2 rfl (by decide) v ys.length (BsV ys) hown ad zs.length cap (BsV zs) (BsV_length zs) hc (BsV_oneCell zs hsl) (by unfold maxLen; omega) (by omega) hbase
    exact ⟨v', w', hrun, ownBs_more r1, r2⟩
  cases a with
  | some ad =>
    refine row ad (BsV zs) rfl ?_
    rcases h3 with rfl | ⟨b, off, ha, hc⟩
    · intro j u hj; simp [BsV] at hj
    · cases ha; exact blocksAt_cells hc
  | none =>
    have hc0 := h0 rfl
    subst hc0
    rcases h3 with rfl | ⟨b, off, ha, hc⟩
    · refine ⟨v, w, run_append_owned_none (P := Tryz.prog) w base 27 ty 34 i0 8 Tryz.underlying27 hi v ys.length (BsV ys) hown, by simpa using hown, ⟨rfl, rfl, rfl, Nat.le_refl _, fun _ _ _ => rfl⟩⟩
    · cases ha
theorem wpList_append_blocks {w : World} {ops : Array Oper} {rest : List Oper} {o : Oper} {a : Act} {Q : Exit → Act → World → Prop} (hgd : o.guard = none) (s x : Operand)
    (ho : o.op = .call { callee := .builtin .append, args := #[s, x], argTypes := #[27, 27] }) (base : Nat) (v u : Value) (ys zs : List BlX) (hs : a.eval s = v) (hx : a.eval x = u) (hown : OwnBs w base v ys) (hr : RdBs w u zs) (hsl : ∀ X ∈ zs, SlB X) (hl : ys.length + zs.length ≤ 1000000000) (hbase : base ≤ w.heap.size)
    (h : ∀ v' w', OwnBs w' base v' (ys ++ zs) → w.grownBy w' v.ownBlock → wpList Tryz.prog ops Q rest (a.put o.dst v') w') : wpList Tryz.prog ops Q (o :: rest) a w := by
  refine wpList_plain hgd fun K hK => ?_
  obtain ⟨v', w', hrun, r1, r2⟩ := run_append_blocks o.type hown hr hsl hl hbase
  unfold Oper.wp
  simp [execOp, ho, resolve, invoke, builtin, hs, hx, hrun, Result.andThen]
  exact hK _ _ (h v' w' r1 r2)
theorem step_append_blocks {w : World} {ops : Array Oper} {o : Oper} {a : Act} {K : Act → World → Prop} {Q : Exit → Act → World → Prop} {E : Prop} (hgd : o.guard = none) (d : Nat) (hd : o.dst = some d) (s x : Operand)
    (ho : o.op = .call { callee := .builtin .append, args := #[s, x], argTypes := #[27, 27] }) (base : Nat) (v u : Value) (ys zs : List BlX) (hs : a.eval s = v) (hx : a.eval x = u) (hown : OwnBs w base v ys) (hr : RdBs w u zs) (hsl : ∀ X ∈ zs, SlB X) (hl : ys.length + zs.length ≤ 1000000000) (hbase : base ≤ w.heap.size)
    (h : ∀ v' w', OwnBs w' base v' (ys ++ zs) → w.grownBy w' v.ownBlock → K (a.put (some d) v') w') :
    if Region.wanted o (yielded ops a.tmps) = true then Oper.wp Tryz.prog o a w K Q else E := by
  have hw : Region.wanted o (yielded ops a.tmps) = true := by simp [Region.wanted, hgd]
  rw [if_pos hw]
  obtain ⟨v', w', hrun, r1, r2⟩ := run_append_blocks o.type hown hr hsl hl hbase
  unfold Oper.wp
  simp [execOp, ho, resolve, invoke, builtin, hs, hx, hrun, Result.andThen]
  have h' := h v' w' r1 r2
  rw [← hd] at h'
  exact h'
theorem OwnPr.sl {w : World} {X : PrX} (h : RdPr w X) : X.vs.oneCell' = true ∧ X.vt.oneCell' = true := by
  obtain ⟨a, c, hv, -⟩ := h.sv
  obtain ⟨b, d, hw, -⟩ := h.tg
  exact ⟨by rw [hv]; rfl, by rw [hw]; rfl⟩
theorem RdBl.sl {w : World} {X : BlX} (h : RdBl w X) : SlB X := by
  obtain ⟨h1, h2⟩ := OwnPr.sl h.pr
  obtain ⟨a, c, hv, -⟩ := h.mo
  exact ⟨h1, h2, by rw [hv]; rfl⟩
/-- Each of the Blocks can be read. -/
def InBs (w : World) (Xs : List BlX) : Prop := ∀ X ∈ Xs, RdBl w X
theorem InBs.below {w w' : World} {Xs : List BlX} (h : InBs w Xs) (hb : Below w.heap.size w w') : InBs w' Xs := fun X hX => (h X hX).below hb
theorem InBs.sl {w : World} {Xs : List BlX} (h : InBs w Xs) : ∀ X ∈ Xs, SlB X := fun X hX => (h X hX).sl
theorem InBs.nth {w : World} {Xs : List BlX} (h : InBs w Xs) {i : Nat} (hi : i < Xs.length) : RdBl w (nthBs Xs i) := by rw [nthBs_eq hi]; exact h _ (List.getElem_mem hi)
end Go.Proofs.YtilhaokiohbeeaaGreatDoor
namespace Go.Proofs.YtilhaokiohbeeaaGreatDoor
open Go.RowKit
/-- The digits of k ahead of acc. -/
def digs (k : Nat) (acc : List UInt8) : List UInt8 := if h : k = 0 then acc else digs (k / 10) (UInt8.ofNat (48 + k % 10) :: acc)
theorem digs_zero (acc : List UInt8) : digs 0 acc = acc := by rw [digs, dif_pos rfl]
theorem digs_step (k : Nat) (h : 0 < k) (acc : List UInt8) : digs k acc = digs (k / 10) (UInt8.ofNat (48 + k % 10) :: acc) := by rw [digs, dif_neg (by omega)]
/-- The law's mark number k. -/
def mk (k : Nat) : ByteArray := ⟨((109 : UInt8) :: digs k []).toArray⟩
set_option maxHeartbeats 400000 in
set_option maxRecDepth 100000 in
theorem markText_any (k : Nat) (w : World) (h0 : 0 < k) (h1 : k ≤ 4194304) :
    Calls Tryz.prog 190 #[.int .i64 (k : Int)] w fun e w' => e = .returned (.string (mk k)) ∧ Below w.heap.size w w' := by
  go_enter Tryz.func190, Tryz.ntmps190
  go_wp2
  go_loopw [0, 3] (fun n v wr => ∃ (m : Nat) (ys : List UInt8), n = .int .i64 m ∧ m ≤ 4194304 ∧ v = .string ⟨ys.toArray⟩ ∧ ys.length + m ≤ 4194304 ∧ Hid (digs m ys = digs k []) ∧ Below w.heap.size w wr) (fun n _ _ => (intOf n).toNat)
  case atStart => exact ⟨k, [], rfl, h1, rfl, by simp; omega, rfl, Below.refl _ _⟩
  case round =>
    obtain ⟨m, ys, rfl, hm, rfl, hy, he, hb⟩ := hrel
    have hs := hb.size
    by_cases hlt : 0 < m
    · have hcv := conv_one wr (UInt8.ofNat (48 + m % 10)) (48 + (m : Int) % 10) (dig_toNat m)
      generalize hd : UInt8.ofNat (48 + m % 10) = d at hcv
      have hadd : ∀ w', (Op.stringOp .add ⟨#[d]⟩ ⟨ys.toArray⟩).run Tryz.prog w' = .ok (.string ⟨(d :: ys).toArray⟩) w' := fun w' => run_string_add_lists w' [d] ys (by simp) (by omega)
      have HE : Hid (digs (m / 10) (d :: ys) = digs k []) := by show _ = _; rw [← hd, ← digs_step m hlt]; exact he.out
      have R2 : Below w.heap.size w (wr.alloc (.cells #[.int .u8 (48 + (m : Int) % 10)] 5)) := hb.alloc hs _
      clear hd he hb
      go_wp2
      go_roundw
      case rel => exact ⟨m / 10, d :: ys, by go_num, by omega, by simp, by simp only [List.length_cons]; omega, HE, R2⟩
      case measure => simp [intOf]; omega
    · have hm0 : m = 0 := by omega
      subst hm0
      have HE : Hid (ys = digs k []) := by show _ = _; rw [← he.out, digs_zero]
      have hadd : ∀ w', (Op.stringOp .add ⟨#[109]⟩ ⟨ys.toArray⟩).run Tryz.prog w' = .ok (.string ⟨((109 : UInt8) :: ys).toArray⟩) w' := fun w' => run_string_add_lists w' [109] ys (by simp) (by omega)
      clear he
      go_wp2
      go_ret
      refine ⟨?_, hb⟩
      unfold mk
      rw [← HE.out]
      simp
theorem markText_at (x : Int) (k : Nat) (w : World) (hx : x = (k : Int)) (h0 : 0 < k) (h1 : k ≤ 4194304) :
    Calls Tryz.prog 190 #[.int .i64 x] w fun e w' => e = .returned (.string (mk k)) ∧ Below w.heap.size w w' := by
  subst hx; exact markText_any k w h0 h1

end Go.Proofs.YtilhaokiohbeeaaGreatDoor
namespace Go.Proofs.YtilhaokiohbeeaaGreatDoor
open Go.RowKit
theorem tkA (i d : Nat) {P : Program} {ops : Array Oper} {Q : Exit → Act → World → Prop} {md : Region.Mode} {S : World → Prop} {oi : Oper} {v : Value} {fuel : Nat} {listed : Array Bool} {a : Act} {w : World} (hS : S w)
    (h : wpAnyH P md ops (NoPanic Q) S fuel (listed.setIfInBounds i true) (a.put (some d) v) w) (hi : ops[i]? = some oi := by rfl) (hd : oi.dst = some d := by rfl)
    (hs : Region.noSelect ops = true := by kernel_rfl) (hf : Region.free md ops listed i = true := by kernel_rfl) (hr : (Region.ready md ops listed).contains i = true := by kernel_rfl) (hw : Region.wanted oi (yielded ops a.tmps) = true := by kernel_rfl)
    (hy : ∀ w, S w → (execOp a.eval oi).run P w = .ok (.value v) w := by intro w hS; (try dsimp only [EntAt, Nat.zero_add] at hS); go_simp; (try with_reducible rfl)) : wpAnyH P md ops (NoPanic Q) S (fuel + 1) listed a w :=
  takeH hi hd hs hf hr (fun _ _ _ h => h) (Or.inl ⟨hw, hy⟩) hS h
end Go.Proofs.YtilhaokiohbeeaaGreatDoor
namespace Go.Proofs.YtilhaokiohbeeaaGreatDoor
open Go.RowKit
theorem ret_i64 {a b : Int} (h : a = b) : Ending.returned (.int .i64 a) = .returned (.int .i64 b) := by rw [h]
theorem made_IV (n : Nat) : (madeCells #[Value.int .i64 0] n).toList = IV (List.replicate n 0) := by
  rw [toList_madeCells_one]
  simp [IV]
theorem cpI_step (bs : List Int) (k : Nat) (h : k < bs.length) : (bs.take k ++ List.replicate (bs.length - k) 0).set k bs[k] = bs.take (k + 1) ++ List.replicate (bs.length - (k + 1)) 0 := by
  have hl : (bs.take k).length = k := by rw [List.length_take]; omega
  rw [List.set_append_right _ _ (by omega), hl, Nat.sub_self]
  obtain ⟨m, hm⟩ : ∃ m, bs.length - k = m + 1 := ⟨bs.length - k - 1, by omega⟩
  have hm2 : bs.length - (k + 1) = m := by omega
  rw [hm, hm2, List.replicate_succ, List.set_cons_zero, List.take_succ_eq_append_getElem h, List.append_assoc, List.singleton_append]
theorem cpI_len (bs : List Int) (k : Nat) (h : k ≤ bs.length) : (bs.take k ++ List.replicate (bs.length - k) 0).length = bs.length := by
  rw [List.length_append, List.length_take, List.length_replicate]; omega
set_option maxHeartbeats 400000 in
set_option maxRecDepth 100000 in
theorem toInts_any (v : Value) (bs : List Int) (w : World) (hr : RdI w v bs) (hs : bs.length ≤ 1073741824) :
    Calls Tryz.prog 110 #[v] w fun e w' => ∃ u, e = .returned u ∧ OwnI w' w.heap.size u bs ∧ Below w.heap.size w w' := by
  obtain ⟨i0, hi, hz0, hz1, hz2⟩ := info_parts Tryz.info2
  obtain ⟨a, cap, hv, hl, hm, _, hA⟩ := hr
  subst hv
  go_enter Tryz.func110, Tryz.ntmps110
  go_wp2_with (at_make; (refine wpList_make_full _ rfl _ _ 24 rfl w.heap.size 2 i0 (.int .i64 0) 1 Tryz.underlying24 hi hz0 hz1 .i64 .i64 (bs.length : Int) (bs.length : Int) bs.length rfl rfl rfl rfl ?c1 ?c2 ?c3 ?_))
  case c1 => rw [hz2]; omega
  case c2 => unfold maxLen; omega
  case c3 => omega
  intro w1 ho1 hg1
  rw [made_IV] at ho1
  have hb1 : Below w.heap.size w w1 := (Below.refl _ _).grown hg1 (Nat.le_refl _) (fun k hk => by cases hk)
  clear hg1
  go_wp2
  go_loopw [4] (fun i wr => ∃ k : Nat, k ≤ bs.length ∧ i = .int .i64 k ∧ wr.ownsRow w.heap.size 2 1 (.slice (some ⟨w.heap.size, 0, none⟩) bs.length bs.length) bs.length (IV (bs.take k ++ List.replicate (bs.length - k) 0)) ∧ Below w.heap.size w wr) (fun i _ => bs.length - (intOf i).toNat)
  case atStart => exact ⟨0, Nat.zero_le _, rfl, by simpa using ho1, hb1⟩
  case round =>
    obtain ⟨k, hk, rfl, ho, hb⟩ := hrel
    clear ho1 hb1
    by_cases hlt : k < bs.length
    · obtain ⟨b, off, ha, hc⟩ : ∃ b off, a = some ⟨b, off, none⟩ ∧ wr.cell? ⟨b, off + k, none⟩ = some (.int .i64 bs[k]) := by
        rcases hA with h | ⟨b, off, ha, hc⟩
        · subst h; simp at hlt
        · exact ⟨b, off, ha, by rw [hb.cell (World.block_lt_of_cell? w _ (hc k hlt))]; exact hc k hlt⟩
      rw [ha]
      have hc2 := (ho.cellAt k (by omega)).trans (IV_get _ k (by rw [cpI_len bs k hk]; exact hlt))
      have hf := ho.frozenAt k
      have R1 := (ho.stored k (.int .i64 bs[k])).1
      rw [← IV_set, cpI_step bs k hlt] at R1
      have R2 : Below w.heap.size w (wr.setCell ⟨w.heap.size, k, none⟩ (.int .i64 bs[k])) := hb.setCell (Nat.le_refl _) _
      have H1 : Hid (World.ownsRow _ _ _ _ _ _ _) := R1
      clear ho hA hb R1
      go_wp2
      go_roundw
      case rel => exact ⟨k + 1, by omega, by go_num, H1.out, R2⟩
      case measure => simp [intOf]; omega
    · have hke : k = bs.length := by omega
      subst hke
      have H1 : OwnI wr w.heap.size (.slice (some ⟨w.heap.size, 0, none⟩) bs.length bs.length) bs := by unfold OwnI; simpa using ho
      clear ho
      go_wp2
      go_ret
      exact ⟨_, rfl, H1, hb⟩
set_option maxHeartbeats 1000000 in
set_option maxRecDepth 100000 in
theorem eqInts_same (va vb : Value) (xs : List Int) (w : World) (ha : RdI w va xs) (hb : RdI w vb xs) :
    Calls Tryz.prog 117 #[va, vb] w fun e w' => e = .returned (.bool true) ∧ ∃ n, w' = w.drewN n := by
  obtain ⟨aa, ca, hva, hla, hma, _⟩ := id ha
  obtain ⟨ab, cb, hvb, hlb, hmb, _⟩ := id hb
  subst hva
  subst hvb
  unfold maxLen at hma hmb
  have hne : ((xs.length : Int) != (xs.length : Int)) = false := by simp
  go_enter Tryz.func117, Tryz.ntmps117
  go_wp2
  go_loopw [5] (fun i wr => ∃ k : Nat, k ≤ xs.length ∧ i = .int .i64 k ∧ ∃ n, wr = w.drewN n) (fun i _ => xs.length - (intOf i).toNat)
  case atStart => exact ⟨0, Nat.zero_le _, rfl, 0, rfl⟩
  case round =>
    obtain ⟨k, hk, rfl, n, rfl⟩ := hrel
    by_cases hlt : k < xs.length
    · obtain ⟨b1, o1, rfl, c1⟩ := (ha.drewN n).at k hlt
      obtain ⟨b2, o2, rfl, c2⟩ := (hb.drewN n).at k hlt
      generalize xs[k] = x at c1 c2
      have hd : (x != x) = false := by simp
      go_wp2_with fail
      refine wp_region_noPanic ?_
      refine wp_region_held_drew (S := fun w' => w'.cell? ⟨b1, o1 + k, none⟩ = some (.int .i64 x) ∧ w'.cell? ⟨b2, o2 + k, none⟩ = some (.int .i64 x)) (by kernel_rfl) ⟨c1, c2⟩ (fun hH => ?_)
      refine tkA 0 17 hH ?_
      try simp only [Act.put, List.setIfInBounds_toArray, List.set_cons_zero, List.set_cons_succ]
      refine tkA 1 18 hH ?_
      try simp only [Act.put, List.setIfInBounds_toArray, List.set_cons_zero, List.set_cons_succ]
      refine tkA 2 19 hH ?_
      try simp only [Act.put, List.setIfInBounds_toArray, List.set_cons_zero, List.set_cons_succ]
      refine tkA 3 20 hH ?_
      try simp only [Act.put, List.setIfInBounds_toArray, List.set_cons_zero, List.set_cons_succ]
      refine tkA 4 21 hH ?_
      try simp only [Act.put, List.setIfInBounds_toArray, List.set_cons_zero, List.set_cons_succ]
      refine tkA 5 22 hH ?_
      try simp only [Act.put, List.setIfInBounds_toArray, List.set_cons_zero, List.set_cons_succ]
      refine tkA 6 23 hH ?_
      try simp only [Act.put, List.setIfInBounds_toArray, List.set_cons_zero, List.set_cons_succ]
      refine tkA 7 24 hH ?_
      try simp only [Act.put, List.setIfInBounds_toArray, List.set_cons_zero, List.set_cons_succ]
      refine tkA 8 25 hH ?_
      try simp only [Act.put, List.setIfInBounds_toArray, List.set_cons_zero, List.set_cons_succ]
      refine wpAnyH_done (by kernel_rfl) ?_ _
      refine NoPanic.normal ?_
      go_wp2
      go_roundw
      case rel => exact ⟨k + 1, by omega, by go_num, n + 1, rfl⟩
      case measure => simp [intOf]; omega
    · have hlt2 : ¬ (k : Int) < (xs.length : Int) := by omega
      go_wp2
      go_ret
      exact ⟨rfl, n, rfl⟩
/-- The marks that are laid from number k on. -/
def imarks (k n : Nat) : List Int := (List.range n).map fun i => ((k + i : Nat) : Int)
theorem imarks_length (k n : Nat) : (imarks k n).length = n := by simp [imarks]
theorem imarks_succ (k n : Nat) : imarks k (n + 1) = imarks k n ++ [((k + n : Nat) : Int)] := by simp [imarks, List.range_succ]
theorem imarks_get (k n i : Nat) (h : i < (imarks k n).length) : (imarks k n)[i] = ((k + i : Nat) : Int) := by simp [imarks]
theorem imark_step (k i : Nat) (bs : List Int) (h : i < bs.length) : (imarks k i ++ bs.drop i).set i ((k + i : Nat) : Int) = imarks k (i + 1) ++ bs.drop (i + 1) := by
  have hl := imarks_length k i
  rw [List.set_append_right _ _ (by omega), hl, Nat.sub_self, List.drop_eq_getElem_cons h, List.set_cons_zero, imarks_succ, List.append_assoc, List.singleton_append]
set_option maxHeartbeats 1000000 in
set_option maxRecDepth 100000 in
theorem imark_any (v : Value) (bs : List Int) (base k : Nat) (w : World) (hk : k + bs.length ≤ 1073741824) (hown : OwnI w base v bs) :
    Calls Tryz.prog 124 #[v, .int .i64 (k : Int)] w fun e w' => e = .returned (.int .i64 ((k + bs.length : Nat) : Int)) ∧ OwnI w' base v (imarks k bs.length) ∧ w.grownBy w' v.ownBlock := by
  rcases hown.2 with ⟨rfl, h0⟩ | ⟨g, cap, cur, hv, hb, hg, hn, hc, _⟩
  · have : bs = [] := List.length_eq_zero_iff.1 h0
    subst this
    go_enter Tryz.func124, Tryz.ntmps124
    go_wp2
    refine wp_loop_rounds 1 ?_
    rw [rounds_succ]
    go_wp2
    go_ret
    exact ⟨by simp, hown, ⟨rfl, rfl, rfl, Nat.le_refl _, fun _ _ _ => rfl⟩⟩
  · subst hv
    unfold maxLen at hc
    have hgr : w.grownBy w (some g) := ⟨rfl, rfl, rfl, Nat.le_refl _, fun _ _ _ => rfl⟩
    have ho0 : w.ownsRow base 2 1 (.slice (some ⟨g, 0, none⟩) bs.length cap) bs.length (IV (imarks k 0 ++ bs.drop 0)) := by have h := hown; unfold OwnI at h; simpa [imarks] using h
    clear hg
    go_enter Tryz.func124, Tryz.ntmps124
    go_wp2
    go_loopw [1, 5] (fun kk i wr => ∃ j : Nat, j ≤ bs.length ∧ i = .int .i64 j ∧ kk = .int .i64 ((k + j : Nat) : Int) ∧ wr.ownsRow base 2 1 (.slice (some ⟨g, 0, none⟩) bs.length cap) bs.length (IV (imarks k j ++ bs.drop j)) ∧ w.grownBy wr (some g)) (fun _ i _ => bs.length - (intOf i).toNat)
    case atStart => exact ⟨0, Nat.zero_le _, rfl, rfl, ho0, hgr⟩
    case round =>
      obtain ⟨j, hj, rfl, rfl, ho, hgw⟩ := hrel
      clear ho0 hgr
      have hll : (imarks k j ++ bs.drop j).length = bs.length := by rw [List.length_append, imarks_length, List.length_drop]; omega
      by_cases hlt : j < bs.length
      · have hc2 := (ho.cellAt j (by omega)).trans (IV_get _ j (by omega))
        have hf := ho.frozenAt j
        have R1 := (ho.stored j (.int .i64 ((k + j : Nat) : Int))).1
        rw [← IV_set, imark_step k j bs hlt] at R1
        have R2 : w.grownBy (wr.setCell ⟨g, j, none⟩ (.int .i64 ((k + j : Nat) : Int))) (some g) := ⟨hgw.os, hgw.tape, hgw.output, by simpa using hgw.size, fun i hi hr => by rw [heap_setCell_other wr ⟨g, j, none⟩ i _ (fun e => hr (by simp [e]))]; exact hgw.block i hi hr⟩
        generalize (imarks k j ++ bs.drop j)[j] = old at hc2
        have H1 : Hid (World.ownsRow _ _ _ _ _ _ _) := R1
        obtain ⟨kj, hkj⟩ : ∃ kj : Nat, kj = k + j := ⟨_, rfl⟩
        rw [← hkj] at H1 R2 ⊢
        have hkj2 : kj ≤ 1073741824 := by omega
        have HKJ : Hid (kj = k + j) := hkj
        clear ho R1 hgw hll hkj
        go_wp2
        go_roundw
        case rel => exact ⟨j + 1, by omega, by go_num, by have := HKJ.out; simp; omega, H1.out, R2⟩
        case measure => simp [intOf]; omega
      · have hje : j = bs.length := by omega
        have hlt2 : ¬ (j : Int) < (bs.length : Int) := by omega
        have H1 : Hid (OwnI wr base (.slice (some ⟨g, 0, none⟩) bs.length cap) (imarks k bs.length)) := by
          rw [hje, List.drop_eq_nil_of_le (Nat.le_refl _), List.append_nil] at ho
          unfold Hid OwnI
          rw [imarks_length]
          exact ho
        have HE : Hid (k + j = k + bs.length) := by rw [hje]; rfl
        clear ho hll hje
        go_wp2
        go_ret
        exact ⟨ret_i64 (by have := HE.out; omega), H1.out, hgw⟩
set_option maxHeartbeats 1000000 in
set_option maxRecDepth 100000 in
theorem iheld_any (v : Value) (n k : Nat) (w : World) (hk : k + n ≤ 1073741824) (hr : RdI w v (imarks k n)) :
    Calls Tryz.prog 131 #[v, .int .i64 (k : Int)] w fun e w' => e = .returned (.int .i64 ((k + n : Nat) : Int)) ∧ w' = w := by
  obtain ⟨a, cap, hv, hl, hm, _⟩ := id hr
  rw [imarks_length] at hv hl
  subst hv
  unfold maxLen at hm
  go_enter Tryz.func131, Tryz.ntmps131
  go_wp2
  go_loopw [1, 5] (fun kk i wr => ∃ j : Nat, j ≤ n ∧ i = .int .i64 j ∧ kk = .int .i64 ((k + j : Nat) : Int) ∧ wr = w) (fun _ i _ => n - (intOf i).toNat)
  case atStart => exact ⟨0, Nat.zero_le _, rfl, rfl, rfl⟩
  case round =>
    obtain ⟨j, hj, rfl, rfl, hwr⟩ := hrel
    obtain rfl := hwr.symm
    by_cases hlt : j < n
    · obtain ⟨b, off, rfl, hc⟩ := hr.at j (by rw [imarks_length]; exact hlt)
      rw [imarks_get] at hc
      obtain ⟨kj, hkj⟩ : ∃ kj : Nat, kj = k + j := ⟨_, rfl⟩
      rw [← hkj] at hc ⊢
      have hkj2 : kj ≤ 1073741824 := by omega
      have hd : ((kj : Int) != (kj : Int)) = false := by simp
      have HKJ : Hid (kj = k + j) := hkj
      clear hkj
      go_wp2
      go_roundw
      case rel => exact ⟨j + 1, by omega, by go_num, by have := HKJ.out; simp; omega, trivial⟩
      case measure => simp [intOf]; omega
    · have hje : j = n := by omega
      have hlt2 : ¬ (j : Int) < (n : Int) := by omega
      have HE : Hid (k + j = k + n) := by rw [hje]; rfl
      clear hje
      go_wp2
      go_ret
      exact ⟨ret_i64 (by have := HE.out; omega), rfl⟩
end Go.Proofs.YtilhaokiohbeeaaGreatDoor
namespace Go.Proofs.YtilhaokiohbeeaaGreatDoor
open Go.RowKit
theorem eqIntsZ (va vb : Value) (xs : List Int) (w : World) (ha : RdI w va xs) (hb : RdI w vb xs) :
    Calls Tryz.prog 117 #[va, vb] w fun e w' => e = .returned (.bool true) ∧ Below w.heap.size w w' :=
  (eqInts_same va vb xs w ha hb).mono fun e w' ⟨a, n, b⟩ => ⟨a, by rw [b]; exact below_drewN (Below.refl _ _) n⟩
theorem imarkZ (v : Value) (bs : List Int) (base k : Nat) (z : Int) (w : World) (hz : z = (k : Int)) (hk : k + bs.length ≤ 1073741824) (hown : OwnI w base v bs) :
    Calls Tryz.prog 124 #[v, .int .i64 z] w fun e w' => e = .returned (.int .i64 (z + (bs.length : Int))) ∧ OwnI w' base v (imarks k bs.length) ∧ w.grownBy w' v.ownBlock := by
  subst hz
  have h := imark_any v bs base k w hk hown
  rwa [show ((k + bs.length : Nat) : Int) = (k : Int) + (bs.length : Int) by omega] at h
theorem iheldZ (v : Value) (n k : Nat) (z : Int) (w : World) (hz : z = (k : Int)) (hk : k + n ≤ 1073741824) (hr : RdI w v (imarks k n)) :
    Calls Tryz.prog 131 #[v, .int .i64 z] w fun e w' => e = .returned (.int .i64 (z + (n : Int))) ∧ Below w.heap.size w w' := by
  subst hz
  have h := iheld_any v n k w hk hr
  rw [show ((k + n : Nat) : Int) = (k : Int) + (n : Int) by omega] at h
  exact h.mono fun e w' ⟨a, b⟩ => ⟨a, by rw [b]; exact Below.refl _ _⟩
end Go.Proofs.YtilhaokiohbeeaaGreatDoor
