/- Plain facts on boxes (a struct's cells in a block of its own), of any type, and on appends of numbers that tell where the row lies. Boxes of fourteen cells. Plain facts on rows of Votes (4 numbers each) that a call owns or reads. Proofs (who voted for a view and a name): plain notions, and proofs in memory. -/
import Derived.Test.YtilhaokiohbeeaaGreatDoorG02
import Derived.Maps.AppendAt
namespace Go.Proofs.YtilhaokiohbeeaaGreatDoor
open Go.RowKit
/-- The block b is a box that holds the cells cs. -/
def Bx (w : World) (b : Nat) (t : TypeId) (cs : Array Value) : Prop := w.heap[b]? = some (.cells cs t (0, 0))
theorem Bx.lt {w : World} {b t : Nat} {cs : Array Value} (h : Bx w b t cs) : b < w.heap.size := (Array.getElem?_eq_some_iff.1 h).1
theorem Bx.of_block {w w' : World} {b t : Nat} {cs : Array Value} (h : Bx w b t cs) (hb : w'.heap[b]? = w.heap[b]?) : Bx w' b t cs := hb.trans h
theorem Bx.below {w w' : World} {b t : Nat} {cs : Array Value} (h : Bx w b t cs) (hb : Below w.heap.size w w') : Bx w' b t cs := h.of_block (hb.block b h.lt)
theorem Bx.base {w w' : World} {b t B : Nat} {cs : Array Value} (h : Bx w b t cs) (hb : Below B w w') (hl : b < B) : Bx w' b t cs := h.of_block (hb.block b hl)
theorem Bx.touch {bs : List Nat} {w w' : World} {b t : Nat} {cs : Array Value} (h : Bx w b t cs) (ht : Touch bs w w') (hn : b ∉ bs) : Bx w' b t cs := h.of_block (ht.block b h.lt hn)
theorem Bx.cell {w : World} {b t : Nat} {cs : Array Value} (h : Bx w b t cs) (i : Nat) {v : Value} (hi : cs[i]? = some v) : w.cell? ⟨b, i, none⟩ = some v := by
  unfold Bx at h
  simp [World.cell?, h, hi]
theorem Bx.c4 {w : World} {b t : Nat} {u0 u1 u2 u3 : Value} (h : Bx w b t #[u0, u1, u2, u3]) : w.cell? ⟨b, 0, none⟩ = some u0 ∧ w.cell? ⟨b, 1, none⟩ = some u1 ∧ w.cell? ⟨b, 2, none⟩ = some u2 ∧ w.cell? ⟨b, 3, none⟩ = some u3 := ⟨h.cell 0 rfl, h.cell 1 rfl, h.cell 2 rfl, h.cell 3 rfl⟩
theorem Bx.c8 {w : World} {b t : Nat} {u0 u1 u2 u3 u4 u5 u6 u7 : Value} (h : Bx w b t #[u0, u1, u2, u3, u4, u5, u6, u7]) : w.cell? ⟨b, 0, none⟩ = some u0 ∧ w.cell? ⟨b, 1, none⟩ = some u1 ∧ w.cell? ⟨b, 2, none⟩ = some u2 ∧ w.cell? ⟨b, 3, none⟩ = some u3 ∧ w.cell? ⟨b, 4, none⟩ = some u4 ∧ w.cell? ⟨b, 5, none⟩ = some u5 ∧ w.cell? ⟨b, 6, none⟩ = some u6 ∧ w.cell? ⟨b, 7, none⟩ = some u7 := ⟨h.cell 0 rfl, h.cell 1 rfl, h.cell 2 rfl, h.cell 3 rfl, h.cell 4 rfl, h.cell 5 rfl, h.cell 6 rfl, h.cell 7 rfl⟩
theorem Bx.f4 {w : World} {b t : Nat} {cs : Array Value} (h : Bx w b t cs) : w.frozen? ⟨b, 0, none⟩ = false ∧ w.frozen? ⟨b, 1, none⟩ = false ∧ w.frozen? ⟨b, 2, none⟩ = false ∧ w.frozen? ⟨b, 3, none⟩ = false := by
  unfold Bx at h
  refine ⟨?_, ?_, ?_, ?_⟩ <;> simp [World.frozen?, h]
theorem Bx.f8 {w : World} {b t : Nat} {cs : Array Value} (h : Bx w b t cs) : w.frozen? ⟨b, 0, none⟩ = false ∧ w.frozen? ⟨b, 1, none⟩ = false ∧ w.frozen? ⟨b, 2, none⟩ = false ∧ w.frozen? ⟨b, 3, none⟩ = false ∧ w.frozen? ⟨b, 4, none⟩ = false ∧ w.frozen? ⟨b, 5, none⟩ = false ∧ w.frozen? ⟨b, 6, none⟩ = false ∧ w.frozen? ⟨b, 7, none⟩ = false := by
  unfold Bx at h
  refine ⟨?_, ?_, ?_, ?_, ?_, ?_, ?_, ?_⟩ <;> simp [World.frozen?, h]
theorem Bx.fz {w : World} {b t : Nat} {cs : Array Value} (h : Bx w b t cs) (i : Nat) : w.frozen? ⟨b, i, none⟩ = false := by
  unfold Bx at h
  simp [World.frozen?, h]
theorem Bx.set {w : World} {b t : Nat} {cs : Array Value} (h : Bx w b t cs) (i : Nat) (u : Value) : Bx (w.setCell ⟨b, i, none⟩ u) b t (cs.setIfInBounds i u) := by
  unfold Bx at h ⊢
  exact heap_setCell_same w b i _ _ u h
theorem Bx.other {w : World} {b t c j : Nat} {cs : Array Value} {u : Value} (h : Bx w b t cs) (hn : b ≠ c) : Bx (w.setCell ⟨c, j, none⟩ u) b t cs := h.of_block (heap_setCell_other w ⟨c, j, none⟩ b u hn)
theorem bx_new (w : World) (t : TypeId) (cs : Array Value) : Bx (w.alloc (.cells cs t)) w.heap.size t cs := heap_alloc_new w _
/-- Four values are stored into a box. -/
def put4B (W : World) (b : Nat) (a0 a1 a2 a3 : Value) : World := (((W.setCell ⟨b, 0, none⟩ a0).setCell ⟨b, 1, none⟩ a1).setCell ⟨b, 2, none⟩ a2).setCell ⟨b, 3, none⟩ a3
theorem Bx.put4 {W : World} {b t : Nat} {u0 u1 u2 u3 : Value} (h : Bx W b t #[u0, u1, u2, u3]) (a0 a1 a2 a3 : Value) : Bx (put4B W b a0 a1 a2 a3) b t #[a0, a1, a2, a3] := by
  have h1 := (((h.set 0 a0).set 1 a1).set 2 a2).set 3 a3
  unfold put4B
  simpa using h1
theorem put4B_below {B : Nat} {a W : World} {b : Nat} {u0 u1 u2 u3 : Value} (h : Below B a W) (hb : B ≤ b) : Below B a (put4B W b u0 u1 u2 u3) := (((h.setCell hb _).setCell hb _).setCell hb _).setCell hb _
theorem put4B_touch {W : World} {b : Nat} {u0 u1 u2 u3 : Value} : Touch [b] W (put4B W b u0 u1 u2 u3) := by
  have hm : b ∈ [b] := List.mem_singleton.2 rfl
  exact (((Touch.set hm).trans (Touch.set hm)).trans (Touch.set hm)).trans (Touch.set hm)
/-- A row of another type lies in another block. -/
theorem Bx.row {w : World} {B b t e s n : Nat} {cs : Array Value} {v : Value} {xs : List Value} (h : Bx w b t cs) (ho : w.ownsRow B e s v n xs) (ht : e ≠ t) : ∀ k, v.ownBlock = some k → b ≠ k := by
  intro k hk he
  subst he
  rcases ho.2 with ⟨rfl, _⟩ | ⟨g, cap, cur, rfl, _, hg, _⟩
  · simp [Value.ownBlock] at hk
  · obtain rfl : g = b := by simpa [Value.ownBlock] using hk
    unfold Bx at h
    rw [h] at hg
    injection hg with hg
    injection hg with _ h2
    exact ht h2.symm
theorem run_intsX (ty : TypeId) {w : World} {base : Nat} {v u : Value} {ys zs : List Int} (hown : OwnI w base v ys) (hr : RdI w u zs) (hl : ys.length + zs.length ≤ 1000000000) (hbase : base ≤ w.heap.size) :
    ∃ v' w', (Builtin.append_ #[24, 24] ty #[v, u]).run Tryz.prog w = .ok v' w' ∧ OwnI w' base v' (ys ++ zs) ∧ w.grownBy w' v.ownBlock ∧ (v'.ownBlock = v.ownBlock ∨ v'.ownBlock = some w.heap.size) := by
  obtain ⟨i0, hi, hz0, hz1, hz2⟩ := info_parts Tryz.info2
  obtain ⟨a, cap, rfl, h1, h2, h0, h3⟩ := hr
  have row : ∀ ad news, news = IV zs → (∀ j u, news[j]? = some u → w.cell? (ad.add j) = some u) → ∃ v' w', (Builtin.append_ #[24, 24] ty #[v, .slice (some ad) zs.length cap]).run Tryz.prog w = .ok v' w' ∧ OwnI w' base v' (ys ++ zs) ∧ w.grownBy w' v.ownBlock ∧ (v'.ownBlock = v.ownBlock ∨ v'.ownBlock = some w.heap.size) := by
    intro ad news hn hc
    subst hn
    obtain ⟨v', w', hrun, r1, r2, _, r3⟩ := run_append_own_at (P := Tryz.prog) (w := w) base 24 ty 2 i0 _ 1 8 Tryz.underlying24 hi hz0 hz1 hz2 rfl (by decide) v ys.length (IV ys) hown ad zs.length cap (IV zs) (by rw [IV_length, Nat.mul_one]) hc (by intro u hu; obtain ⟨z, _, rfl⟩ := List.mem_map.1 hu; rfl) (by unfold maxLen; omega) (by omega) hbase
    exact ⟨v', w', hrun, ownI_more r1, r2, r3⟩
  cases a with
  | some ad =>
    refine row ad (IV zs) rfl ?_
    rcases h3 with rfl | ⟨b, off, ha, hc⟩
    · intro j u hj; simp [IV] at hj
    · cases ha
      intro j u hj
      have hjl : j < zs.length := by have := (List.getElem?_eq_some_iff.1 hj).1; rwa [IV_length] at this
      rw [IV_get zs j hjl] at hj
      cases hj
      rw [Addr.add_lit]
      exact hc j hjl
  | none =>
    have hc0 := h0 rfl
    subst hc0
    rcases h3 with rfl | ⟨b, off, ha, hc⟩
    · refine ⟨v, w, run_append_owned_none (P := Tryz.prog) w base 24 ty 2 i0 1 Tryz.underlying24 hi v ys.length (IV ys) hown, by simpa using hown, ⟨rfl, rfl, rfl, Nat.le_refl _, fun _ _ _ => rfl⟩, .inl rfl⟩
    · cases ha
theorem step_intsX {w : World} {ops : Array Oper} {o : Oper} {a : Act} {K : Act → World → Prop} {Q : Exit → Act → World → Prop} {E : Prop} (hgd : o.guard = none) (d : Nat) (hd : o.dst = some d) (s x : Operand)
    (ho : o.op = .call { callee := .builtin .append, args := #[s, x], argTypes := #[24, 24] }) (base : Nat) (v u : Value) (ys zs : List Int) (hs : a.eval s = v) (hx : a.eval x = u) (hown : OwnI w base v ys) (hr : RdI w u zs) (hl : ys.length + zs.length ≤ 1000000000) (hbase : base ≤ w.heap.size)
    (h : ∀ v' w', OwnI w' base v' (ys ++ zs) → w.grownBy w' v.ownBlock → (v'.ownBlock = v.ownBlock ∨ v'.ownBlock = some w.heap.size) → K (a.put (some d) v') w') :
    if Region.wanted o (yielded ops a.tmps) = true then Oper.wp Tryz.prog o a w K Q else E := by
  have hw : Region.wanted o (yielded ops a.tmps) = true := by simp [Region.wanted, hgd]
  rw [if_pos hw]
  obtain ⟨v', w', hrun, r1, r2, r3⟩ := run_intsX o.type hown hr hl hbase
  unfold Oper.wp
  simp [execOp, ho, resolve, invoke, builtin, hs, hx, hrun, Result.andThen]
  have h' := h v' w' r1 r2 r3
  rw [← hd] at h'
  exact h'
theorem wpList_intsX {w : World} {ops : Array Oper} {rest : List Oper} {o : Oper} {a : Act} {Q : Exit → Act → World → Prop} (hgd : o.guard = none) (s x : Operand)
    (ho : o.op = .call { callee := .builtin .append, args := #[s, x], argTypes := #[24, 24] }) (base : Nat) (v u : Value) (ys zs : List Int) (hs : a.eval s = v) (hx : a.eval x = u) (hown : OwnI w base v ys) (hr : RdI w u zs) (hl : ys.length + zs.length ≤ 1000000000) (hbase : base ≤ w.heap.size)
    (h : ∀ v' w', OwnI w' base v' (ys ++ zs) → w.grownBy w' v.ownBlock → (v'.ownBlock = v.ownBlock ∨ v'.ownBlock = some w.heap.size) → wpList Tryz.prog ops Q rest (a.put o.dst v') w') : wpList Tryz.prog ops Q (o :: rest) a w := by
  refine wpList_plain hgd fun K hK => ?_
  obtain ⟨v', w', hrun, r1, r2, r3⟩ := run_intsX o.type hown hr hl hbase
  unfold Oper.wp
  simp [execOp, ho, resolve, invoke, builtin, hs, hx, hrun, Result.andThen]
  exact hK _ _ (h v' w' r1 r2 r3)
/-- One operation that makes an object, as a step of a region that draws its order. -/
theorem step_objX {w : World} {ops : Array Oper} {o : Oper} {a : Act} {K : Act → World → Prop} {Q : Exit → Act → World → Prop} {E : Prop} (hgd : o.guard = none) (d : Nat) (hd : o.dst = some d) (ob : Obj) (v : Value)
    (hrun : (execOp a.eval o).run Tryz.prog w = .ok (.value v) (w.alloc ob)) (h : K (a.put (some d) v) (w.alloc ob)) :
    if Region.wanted o (yielded ops a.tmps) = true then Oper.wp Tryz.prog o a w K Q else E := by
  have hw : Region.wanted o (yielded ops a.tmps) = true := by simp [Region.wanted, hgd]
  rw [if_pos hw]
  rw [← hd] at h
  unfold Oper.wp
  rw [hrun]
  exact h
theorem rdI_one (V : World) (y : Int) : RdI (V.alloc (.cells #[.int .i64 y] 2)) (.slice (some ⟨V.heap.size, 0, none⟩) 1 1) [y] := (ownI_one V y).rd
theorem ownSlX {w : World} {B t z n : Nat} {v : Value} {xs : List Value} (h : w.ownsRow B t z v n xs) : ∃ a c, v = .slice a n c := by
  rcases h.2 with ⟨hv, h0⟩ | ⟨g, cap, cur, hv, _⟩
  · exact ⟨none, 0, by rw [hv, h0]⟩
  · exact ⟨_, _, hv⟩
theorem listed_asX {P : Program} {md : Region.Mode} {ops : Array Oper} {Q : Exit → Act → World → Prop} {S : World → Prop} {fuel : Nat} {l l' : Array Bool} {a : Act} {w : World} (hl : l = l') (h : wpAnyH P md ops Q S fuel l' a w) : wpAnyH P md ops Q S fuel l a w := by subst hl; exact h
end Go.Proofs.YtilhaokiohbeeaaGreatDoor
namespace Go.Proofs.YtilhaokiohbeeaaGreatDoor
open Go.RowKit
theorem Bx.c14 {w : World} {b t : Nat} {u0 u1 u2 u3 u4 u5 u6 u7 u8 u9 u10 u11 u12 u13 : Value} (h : Bx w b t #[u0, u1, u2, u3, u4, u5, u6, u7, u8, u9, u10, u11, u12, u13]) : w.cell? ⟨b, 0, none⟩ = some u0 ∧ w.cell? ⟨b, 1, none⟩ = some u1 ∧ w.cell? ⟨b, 2, none⟩ = some u2 ∧ w.cell? ⟨b, 3, none⟩ = some u3 ∧ w.cell? ⟨b, 4, none⟩ = some u4 ∧ w.cell? ⟨b, 5, none⟩ = some u5 ∧ w.cell? ⟨b, 6, none⟩ = some u6 ∧ w.cell? ⟨b, 7, none⟩ = some u7 ∧ w.cell? ⟨b, 8, none⟩ = some u8 ∧ w.cell? ⟨b, 9, none⟩ = some u9 ∧ w.cell? ⟨b, 10, none⟩ = some u10 ∧ w.cell? ⟨b, 11, none⟩ = some u11 ∧ w.cell? ⟨b, 12, none⟩ = some u12 ∧ w.cell? ⟨b, 13, none⟩ = some u13 := ⟨h.cell 0 rfl, h.cell 1 rfl, h.cell 2 rfl, h.cell 3 rfl, h.cell 4 rfl, h.cell 5 rfl, h.cell 6 rfl, h.cell 7 rfl, h.cell 8 rfl, h.cell 9 rfl, h.cell 10 rfl, h.cell 11 rfl, h.cell 12 rfl, h.cell 13 rfl⟩
theorem Bx.f14 {w : World} {b t : Nat} {cs : Array Value} (h : Bx w b t cs) : w.frozen? ⟨b, 0, none⟩ = false ∧ w.frozen? ⟨b, 1, none⟩ = false ∧ w.frozen? ⟨b, 2, none⟩ = false ∧ w.frozen? ⟨b, 3, none⟩ = false ∧ w.frozen? ⟨b, 4, none⟩ = false ∧ w.frozen? ⟨b, 5, none⟩ = false ∧ w.frozen? ⟨b, 6, none⟩ = false ∧ w.frozen? ⟨b, 7, none⟩ = false ∧ w.frozen? ⟨b, 8, none⟩ = false ∧ w.frozen? ⟨b, 9, none⟩ = false ∧ w.frozen? ⟨b, 10, none⟩ = false ∧ w.frozen? ⟨b, 11, none⟩ = false ∧ w.frozen? ⟨b, 12, none⟩ = false ∧ w.frozen? ⟨b, 13, none⟩ = false := ⟨h.fz 0, h.fz 1, h.fz 2, h.fz 3, h.fz 4, h.fz 5, h.fz 6, h.fz 7, h.fz 8, h.fz 9, h.fz 10, h.fz 11, h.fz 12, h.fz 13⟩
/-- All fourteen cells written. -/
def put14 (W : World) (b : Nat) (a0 a1 a2 a3 a4 a5 a6 a7 a8 a9 a10 a11 a12 a13 : Value) : World := (((((((((((((W.setCell ⟨b, 0, none⟩ a0).setCell ⟨b, 1, none⟩ a1).setCell ⟨b, 2, none⟩ a2).setCell ⟨b, 3, none⟩ a3).setCell ⟨b, 4, none⟩ a4).setCell ⟨b, 5, none⟩ a5).setCell ⟨b, 6, none⟩ a6).setCell ⟨b, 7, none⟩ a7).setCell ⟨b, 8, none⟩ a8).setCell ⟨b, 9, none⟩ a9).setCell ⟨b, 10, none⟩ a10).setCell ⟨b, 11, none⟩ a11).setCell ⟨b, 12, none⟩ a12).setCell ⟨b, 13, none⟩ a13
theorem Bx.put14 {W : World} {b t : Nat} {u0 u1 u2 u3 u4 u5 u6 u7 u8 u9 u10 u11 u12 u13 : Value} (h : Bx W b t #[u0, u1, u2, u3, u4, u5, u6, u7, u8, u9, u10, u11, u12, u13]) (a0 a1 a2 a3 a4 a5 a6 a7 a8 a9 a10 a11 a12 a13 : Value) : Bx (Go.Proofs.YtilhaokiohbeeaaGreatDoor.put14 W b a0 a1 a2 a3 a4 a5 a6 a7 a8 a9 a10 a11 a12 a13) b t #[a0, a1, a2, a3, a4, a5, a6, a7, a8, a9, a10, a11, a12, a13] := by
  have h0 : Bx _ b t #[a0, u1, u2, u3, u4, u5, u6, u7, u8, u9, u10, u11, u12, u13] := h.set 0 a0
  have h1 : Bx _ b t #[a0, a1, u2, u3, u4, u5, u6, u7, u8, u9, u10, u11, u12, u13] := h0.set 1 a1
  have h2 : Bx _ b t #[a0, a1, a2, u3, u4, u5, u6, u7, u8, u9, u10, u11, u12, u13] := h1.set 2 a2
  have h3 : Bx _ b t #[a0, a1, a2, a3, u4, u5, u6, u7, u8, u9, u10, u11, u12, u13] := h2.set 3 a3
  have h4 : Bx _ b t #[a0, a1, a2, a3, a4, u5, u6, u7, u8, u9, u10, u11, u12, u13] := h3.set 4 a4
  have h5 : Bx _ b t #[a0, a1, a2, a3, a4, a5, u6, u7, u8, u9, u10, u11, u12, u13] := h4.set 5 a5
  have h6 : Bx _ b t #[a0, a1, a2, a3, a4, a5, a6, u7, u8, u9, u10, u11, u12, u13] := h5.set 6 a6
  have h7 : Bx _ b t #[a0, a1, a2, a3, a4, a5, a6, a7, u8, u9, u10, u11, u12, u13] := h6.set 7 a7
  have h8 : Bx _ b t #[a0, a1, a2, a3, a4, a5, a6, a7, a8, u9, u10, u11, u12, u13] := h7.set 8 a8
  have h9 : Bx _ b t #[a0, a1, a2, a3, a4, a5, a6, a7, a8, a9, u10, u11, u12, u13] := h8.set 9 a9
  have h10 : Bx _ b t #[a0, a1, a2, a3, a4, a5, a6, a7, a8, a9, a10, u11, u12, u13] := h9.set 10 a10
  have h11 : Bx _ b t #[a0, a1, a2, a3, a4, a5, a6, a7, a8, a9, a10, a11, u12, u13] := h10.set 11 a11
  have h12 : Bx _ b t #[a0, a1, a2, a3, a4, a5, a6, a7, a8, a9, a10, a11, a12, u13] := h11.set 12 a12
  have h13 : Bx _ b t #[a0, a1, a2, a3, a4, a5, a6, a7, a8, a9, a10, a11, a12, a13] := h12.set 13 a13
  exact h13
theorem put14_below {B : Nat} {a W : World} {b : Nat} {u0 u1 u2 u3 u4 u5 u6 u7 u8 u9 u10 u11 u12 u13 : Value} (h : Below B a W) (hb : B ≤ b) : Below B a (put14 W b u0 u1 u2 u3 u4 u5 u6 u7 u8 u9 u10 u11 u12 u13) := (((((((((((((h.setCell hb _).setCell hb _).setCell hb _).setCell hb _).setCell hb _).setCell hb _).setCell hb _).setCell hb _).setCell hb _).setCell hb _).setCell hb _).setCell hb _).setCell hb _).setCell hb _
theorem put14_touch {W : World} {b : Nat} {u0 u1 u2 u3 u4 u5 u6 u7 u8 u9 u10 u11 u12 u13 : Value} : Touch [b] W (put14 W b u0 u1 u2 u3 u4 u5 u6 u7 u8 u9 u10 u11 u12 u13) := by
  have hin : b ∈ [b] := List.mem_singleton.2 rfl
  exact (((((((((((((Touch.set hin).trans (Touch.set hin)).trans (Touch.set hin)).trans (Touch.set hin)).trans (Touch.set hin)).trans (Touch.set hin)).trans (Touch.set hin)).trans (Touch.set hin)).trans (Touch.set hin)).trans (Touch.set hin)).trans (Touch.set hin)).trans (Touch.set hin)).trans (Touch.set hin)).trans (Touch.set hin)
end Go.Proofs.YtilhaokiohbeeaaGreatDoor
namespace Go.Proofs.YtilhaokiohbeeaaGreatDoor
open Go.RowKit
/-- A Vote. -/
structure Vot where
  vw : Int
  nm : Int
  sv : Int
  tg : Int
deriving DecidableEq
/-- The numbers of a Vote are numbers of a program. -/
structure FitVo (x : Vot) : Prop where
  vw : -9223372036854775808 ≤ x.vw ∧ x.vw ≤ 9223372036854775807
  nm : -9223372036854775808 ≤ x.nm ∧ x.nm ≤ 9223372036854775807
  sv : -9223372036854775808 ≤ x.sv ∧ x.sv ≤ 9223372036854775807
  tg : -9223372036854775808 ≤ x.tg ∧ x.tg ≤ 9223372036854775807
def zeroVo : Vot := ⟨0, 0, 0, 0⟩
def nthVo (xs : List Vot) (i : Nat) : Vot := xs.getD i zeroVo
theorem nthVo_eq {xs : List Vot} {i : Nat} (h : i < xs.length) : nthVo xs i = xs[i] := by simp [nthVo, List.getD, List.getElem?_eq_getElem h]
theorem nthVo_zero (a : Vot) (r : List Vot) : nthVo (a :: r) 0 = a := by simp [nthVo]
instance : Inhabited Vot := ⟨zeroVo⟩
theorem nthVo_succ (a : Vot) (r : List Vot) (i : Nat) : nthVo (a :: r) (i + 1) = nthVo r i := by simp [nthVo, List.getD]
theorem Tryz.infoVo36 : (Tryz.prog.info? 36).map (fun i => (i.zero, i.size, i.bytes)) = some (some (.agg #[.int .i64 0, .int .i64 0, .int .i64 0, .int .i64 0]), 4, 32) := by kernel_rfl
/-- The cells of a Vote. -/
def VoC (e : Vot) : List Value := [.int .i64 e.vw, .int .i64 e.nm, .int .i64 e.sv, .int .i64 e.tg]
def VoA (e : Vot) : Value := .agg #[.int .i64 e.vw, .int .i64 e.nm, .int .i64 e.sv, .int .i64 e.tg]
def VoV (es : List Vot) : List Value := es.flatMap VoC
theorem VoV_length : ∀ es : List Vot, (VoV es).length = es.length * 4
  | [] => rfl
  | a :: r => by
    have := VoV_length r
    unfold VoV at this ⊢
    rw [List.flatMap_cons, List.length_append, this, List.length_cons]
    simp [VoC]; omega
theorem VoV_append (a b : List Vot) : VoV (a ++ b) = VoV a ++ VoV b := by simp [VoV]
theorem VoV_one (e : Vot) : VoV [e] = VoC e := by simp [VoV]
theorem VoV_cons (a : Vot) (r : List Vot) : VoV (a :: r) = VoC a ++ VoV r := by simp [VoV]
theorem VoV_get : ∀ (es : List Vot) (i : Nat), i < es.length → ∀ j, j < 4 → (VoV es)[i * 4 + j]? = (VoC (nthVo es i))[j]?
  | [], i, h, _, _ => by simp at h
  | a :: r, 0, _, j, hj => by
    rw [VoV_cons, nthVo_zero, Nat.zero_mul, Nat.zero_add, List.getElem?_append_left (by simp [VoC]; exact hj)]
  | a :: r, i + 1, h, j, hj => by
    rw [VoV_cons, nthVo_succ, ← VoV_get r i (by simpa using h) j hj, List.getElem?_append_right (by simp [VoC]; omega)]
    congr 1
    simp [VoC]; omega
theorem VoV_oneCell (es : List Vot) : ∀ u ∈ VoV es, u.oneCell' = true := by
  intro u hu
  simp only [VoV, List.mem_flatMap] at hu
  obtain ⟨e, _, he⟩ := hu
  simp only [VoC, List.mem_cons, List.not_mem_nil, or_false] at he
  rcases he with rfl | rfl | rfl | rfl <;> rfl
/-- The entry e lies at offset o of block b. -/
def VotAt (w : World) (b o : Nat) (e : Vot) : Prop :=
  w.cell? ⟨b, o, none⟩ = some (.int .i64 e.vw) ∧ w.cell? ⟨b, o + 1, none⟩ = some (.int .i64 e.nm) ∧ w.cell? ⟨b, o + 2, none⟩ = some (.int .i64 e.sv) ∧ w.cell? ⟨b, o + 3, none⟩ = some (.int .i64 e.tg)
/-- The slice v is the call's own (its block is at least number base) and holds the entries es. -/
def OwnVo (w : World) (base : Nat) (v : Value) (es : List Vot) : Prop := w.ownsRow base 36 4 v es.length (VoV es)
/-- The slice v can be read and holds the entries es. -/
def RdVo (w : World) (v : Value) (es : List Vot) : Prop :=
  ∃ a cap, v = .slice a es.length cap ∧ es.length ≤ cap ∧ cap ≤ maxLen ∧ (a = none → cap = 0) ∧
    (es = [] ∨ ∃ b off, a = some ⟨b, off, none⟩ ∧ ∀ i, i < es.length → VotAt w b (off + i * 4) (nthVo es i))
theorem VotAt.lt {w : World} {b o : Nat} {e : Vot} (h : VotAt w b o e) : b < w.heap.size := World.block_lt_of_cell? w _ h.1
theorem VotAt.of_block {w w' : World} {b o : Nat} {e : Vot} (h : VotAt w b o e) (hb : w'.heap[b]? = w.heap[b]?) : VotAt w' b o e :=
  ⟨(World.cell?_of_block (a := ⟨b, o, none⟩) hb).trans h.1, (World.cell?_of_block (a := ⟨b, o + 1, none⟩) hb).trans h.2.1, (World.cell?_of_block (a := ⟨b, o + 2, none⟩) hb).trans h.2.2.1, (World.cell?_of_block (a := ⟨b, o + 3, none⟩) hb).trans h.2.2.2⟩
theorem VotAt.below {w w' : World} {b o : Nat} {e : Vot} (h : VotAt w b o e) (hb : Below w.heap.size w w') : VotAt w' b o e := h.of_block (hb.block b h.lt)
theorem ownVo_cell {w : World} {base g cap n : Nat} {es : List Vot} (h : w.ownsRow base 36 4 (.slice (some ⟨g, 0, none⟩) n cap) n (VoV es)) (hn : n = es.length) (i : Nat) (hi : i < n) : VotAt w g (i * 4) (nthVo es i) := by
  subst hn
  have c : ∀ j, j < 4 → w.cell? ⟨g, i * 4 + j, none⟩ = (VoC (nthVo es i))[j]? := fun j hj => (h.cellAt (i * 4 + j) (by omega)).trans (VoV_get es i hi j hj)
  exact ⟨c 0 (by omega), c 1 (by omega), c 2 (by omega), c 3 (by omega)⟩
theorem OwnVo.rd {w : World} {base : Nat} {v : Value} {es : List Vot} (h : OwnVo w base v es) : RdVo w v es := by
  have h' := h
  rcases h.2 with ⟨rfl, h0⟩ | ⟨g, cap, cur, rfl, hb, hg, hn, hc, hs, ht⟩
  · have : es = [] := List.length_eq_zero_iff.1 h0
    subst this
    exact ⟨none, 0, rfl, Nat.le_refl _, Nat.zero_le _, fun _ => rfl, .inl rfl⟩
  · refine ⟨some ⟨g, 0, none⟩, cap, rfl, hn, hc, (fun h => by cases h), .inr ⟨g, 0, rfl, fun i hi => ?_⟩⟩
    rw [Nat.zero_add]
    exact ownVo_cell h' rfl i hi
theorem OwnVo.below {w w' : World} {base : Nat} {v : Value} {es : List Vot} (h : OwnVo w base v es) (hb : Below w.heap.size w w') : OwnVo w' base v es := own_below h hb
theorem OwnVo.drewN {w : World} {base : Nat} {v : Value} {es : List Vot} (h : OwnVo w base v es) (q : Nat) : OwnVo (w.drewN q) base v es := h
theorem OwnVo.mono {w : World} {base base' : Nat} {v : Value} {es : List Vot} (h : OwnVo w base v es) (hb : base' ≤ base) : OwnVo w base' v es := by
  refine ⟨h.1, ?_⟩
  rcases h.2 with h2 | ⟨g, cap, cur, hv, hg, r⟩
  · exact .inl h2
  · exact .inr ⟨g, cap, cur, hv, Nat.le_trans hb hg, r⟩
theorem RdVo.below {w w' : World} {v : Value} {es : List Vot} (h : RdVo w v es) (hb : Below w.heap.size w w') : RdVo w' v es := by
  obtain ⟨a, cap, hv, h1, h2, h0, h3⟩ := h
  refine ⟨a, cap, hv, h1, h2, h0, ?_⟩
  rcases h3 with h3 | ⟨b, off, ha, hc⟩
  · exact .inl h3
  · exact .inr ⟨b, off, ha, fun i hi => (hc i hi).below hb⟩
theorem RdVo.drewN {w : World} {v : Value} {es : List Vot} (h : RdVo w v es) (q : Nat) : RdVo (w.drewN q) v es := h
theorem rdVo_nil (w : World) : RdVo w (.slice none 0 0) [] := ⟨none, 0, rfl, Nat.le_refl _, Nat.zero_le _, fun _ => rfl, .inl rfl⟩
theorem ownVo_none (w : World) : OwnVo (w.alloc (.cells #[] 36)) w.heap.size (.slice (some ⟨w.heap.size, 0, none⟩) 0 0) [] := World.ownsRow_lit w #[] 0 (Nat.le_refl _) (Nat.zero_le _) rfl
theorem ownVo_lt {w : World} {B : Nat} {v : Value} {es : List Vot} (h : OwnVo w B v es) : ∀ k, v.ownBlock = some k → k < w.heap.size := fun k hk => (World.ownsRow.lt h k hk).2
theorem ownVo_more {w1 : World} {B : Nat} {v' : Value} {ys zs : List Vot} (h : w1.ownsRow B 36 4 v' (ys.length + zs.length) (VoV ys ++ VoV zs)) : OwnVo w1 B v' (ys ++ zs) := by
  unfold OwnVo
  rw [VoV_append, List.length_append]
  exact h
/-- Where an entry of a slice lies. -/
theorem RdVo.at {w : World} {a : Option Addr} {n cap : Nat} {es : List Vot} (h : RdVo w (.slice a n cap) es) (hn : n = es.length) (i : Nat) (hi : i < es.length) : ∃ b off, a = some ⟨b, off, none⟩ ∧ VotAt w b (off + i * 4) (nthVo es i) := by
  obtain ⟨a', cap', hv, _, _, _, h3⟩ := h
  simp only [Value.slice.injEq] at hv
  obtain ⟨rfl, _, _⟩ := hv
  rcases h3 with rfl | ⟨b, off, ha, hc⟩
  · simp at hi
  · exact ⟨b, off, ha, hc i hi⟩
theorem VoV_nth {es : List Vot} {j : Nat} {u : Value} (h : (VoV es)[j]? = some u) : j / 4 < es.length ∧ (VoC (nthVo es (j / 4)))[j % 4]? = some u := by
  have hj : j < (VoV es).length := (List.getElem?_eq_some_iff.1 h).1
  rw [VoV_length] at hj
  have h1 : j / 4 < es.length := by omega
  refine ⟨h1, ?_⟩
  have h2 := VoV_get es (j / 4) h1 (j % 4) (by omega)
  rw [show j / 4 * 4 + j % 4 = j by omega] at h2
  rw [← h2]; exact h
theorem VotAt.cellAt {w : World} {b o : Nat} {e : Vot} (h : VotAt w b o e) {j : Nat} {u : Value} (hu : (VoC e)[j]? = some u) : w.cell? ⟨b, o + j, none⟩ = some u := by
  obtain ⟨h0, h1, h2, h3⟩ := h
  match j, hu with
  | 0, hu => simp [VoC] at hu; subst hu; exact h0
  | 1, hu => simp [VoC] at hu; subst hu; exact h1
  | 2, hu => simp [VoC] at hu; subst hu; exact h2
  | 3, hu => simp [VoC] at hu; subst hu; exact h3
/-- The cells of a slice of entries, in a row. -/
theorem votesAt_cells {w : World} {b off : Nat} {es : List Vot} (h : ∀ i, i < es.length → VotAt w b (off + i * 4) (nthVo es i)) : ∀ j u, (VoV es)[j]? = some u → w.cell? ((⟨b, off, none⟩ : Addr).add j) = some u := by
  intro j u hu
  obtain ⟨h1, h2⟩ := VoV_nth hu
  have := (h _ h1).cellAt h2
  rw [Addr.add_lit]
  rw [show off + j / 4 * 4 + j % 4 = off + j by omega] at this
  exact this
/-- append of entries that can be read onto a row of the call's own. -/
theorem run_append_votes (ty : TypeId) {w : World} {base : Nat} {v u : Value} {ys zs : List Vot} (hown : OwnVo w base v ys) (hr : RdVo w u zs) (hl : ys.length + zs.length ≤ 1000000000) (hbase : base ≤ w.heap.size) :
    ∃ v' w', (Builtin.append_ #[28, 28] ty #[v, u]).run Tryz.prog w = .ok v' w' ∧ OwnVo w' base v' (ys ++ zs) ∧ w.grownBy w' v.ownBlock := by
  obtain ⟨i0, hi, hz0, hz1, hz2⟩ := info_parts Tryz.infoVo36
  obtain ⟨a, cap, rfl, h1, h2, h0, h3⟩ := hr
  have row : ∀ ad news, news = VoV zs → (∀ j u, news[j]? = some u → w.cell? (ad.add j) = some u) → ∃ v' w', (Builtin.append_ #[28, 28] ty #[v, .slice (some ad) zs.length cap]).run Tryz.prog w = .ok v' w' ∧ OwnVo w' base v' (ys ++ zs) ∧ w.grownBy w' v.ownBlock := by
    intro ad news hn hc
    subst hn
    obtain ⟨v', w', hrun, r1, r2, _⟩ := run_append_own (P := Tryz.prog) w base 28 ty 36 i0 _ 4 32 Tryz.underlying28 hi hz0 hz1 hz2 rfl (by decide) v ys.length (VoV ys) hown ad zs.length cap (VoV zs) (VoV_length zs) hc (VoV_oneCell zs) (by unfold maxLen; omega) (by omega) hbase
    exact ⟨v', w', hrun, ownVo_more r1, r2⟩
  cases a with
  | some ad =>
    refine row ad (VoV zs) rfl ?_
    rcases h3 with rfl | ⟨b, off, ha, hc⟩
    · intro j u hj; simp [VoV] at hj
    · cases ha; exact votesAt_cells hc
  | none =>
    have hc0 := h0 rfl
    subst hc0
    rcases h3 with rfl | ⟨b, off, ha, hc⟩
    · refine ⟨v, w, run_append_owned_none (P := Tryz.prog) w base 28 ty 36 i0 4 Tryz.underlying28 hi v ys.length (VoV ys) hown, by simpa using hown, ⟨rfl, rfl, rfl, Nat.le_refl _, fun _ _ _ => rfl⟩⟩
    · cases ha
theorem wpList_append_votes {w : World} {ops : Array Oper} {rest : List Oper} {o : Oper} {a : Act} {Q : Exit → Act → World → Prop} (hgd : o.guard = none) (s x : Operand)
    (ho : o.op = .call { callee := .builtin .append, args := #[s, x], argTypes := #[28, 28] }) (base : Nat) (v u : Value) (ys zs : List Vot) (hs : a.eval s = v) (hx : a.eval x = u) (hown : OwnVo w base v ys) (hr : RdVo w u zs) (hl : ys.length + zs.length ≤ 1000000000) (hbase : base ≤ w.heap.size)
    (h : ∀ v' w', OwnVo w' base v' (ys ++ zs) → w.grownBy w' v.ownBlock → wpList Tryz.prog ops Q rest (a.put o.dst v') w') : wpList Tryz.prog ops Q (o :: rest) a w := by
  refine wpList_plain hgd fun K hK => ?_
  obtain ⟨v', w', hrun, r1, r2⟩ := run_append_votes o.type hown hr hl hbase
  unfold Oper.wp
  simp [execOp, ho, resolve, invoke, builtin, hs, hx, hrun, Result.andThen]
  exact hK _ _ (h v' w' r1 r2)
theorem step_append_votes {w : World} {ops : Array Oper} {o : Oper} {a : Act} {K : Act → World → Prop} {Q : Exit → Act → World → Prop} {E : Prop} (hgd : o.guard = none) (d : Nat) (hd : o.dst = some d) (s x : Operand)
    (ho : o.op = .call { callee := .builtin .append, args := #[s, x], argTypes := #[28, 28] }) (base : Nat) (v u : Value) (ys zs : List Vot) (hs : a.eval s = v) (hx : a.eval x = u) (hown : OwnVo w base v ys) (hr : RdVo w u zs) (hl : ys.length + zs.length ≤ 1000000000) (hbase : base ≤ w.heap.size)
    (h : ∀ v' w', OwnVo w' base v' (ys ++ zs) → w.grownBy w' v.ownBlock → K (a.put (some d) v') w') :
    if Region.wanted o (yielded ops a.tmps) = true then Oper.wp Tryz.prog o a w K Q else E := by
  have hw : Region.wanted o (yielded ops a.tmps) = true := by simp [Region.wanted, hgd]
  rw [if_pos hw]
  obtain ⟨v', w', hrun, r1, r2⟩ := run_append_votes o.type hown hr hl hbase
  unfold Oper.wp
  simp [execOp, ho, resolve, invoke, builtin, hs, hx, hrun, Result.andThen]
  have h' := h v' w' r1 r2
  rw [← hd] at h'
  exact h'
end Go.Proofs.YtilhaokiohbeeaaGreatDoor
namespace Go.Proofs.YtilhaokiohbeeaaGreatDoor
open Go.RowKit
/-- A proof: its view, its name, the servers, their tags. -/
structure Prf where
  vw : Int
  nm : Int
  sv : List Int
  tg : List Int
deriving DecidableEq
def prfZ : Prf := ⟨0, 0, [], []⟩
/-- A proof with the values of its two rows. -/
structure PrX where
  p : Prf
  vs : Value
  vt : Value
def PrX.cs (X : PrX) : List Value := [.int .i64 X.p.vw, .int .i64 X.p.nm, X.vs, X.vt]
/-- A proof that can be read. -/
structure RdPr (w : World) (X : PrX) : Prop where
  sv : RdI w X.vs X.p.sv
  tg : RdI w X.vt X.p.tg
theorem RdPr.below {w w' : World} {X : PrX} (h : RdPr w X) (hb : Below w.heap.size w w') : RdPr w' X := ⟨h.sv.below hb, h.tg.below hb⟩
/-- Its numbers are numbers of a program. -/
structure FitPr (p : Prf) : Prop where
  vw : -9223372036854775808 ≤ p.vw ∧ p.vw ≤ 9223372036854775807
  nm : -9223372036854775808 ≤ p.nm ∧ p.nm ≤ 9223372036854775807
  sv : ∀ s ∈ p.sv, -9223372036854775808 ≤ s ∧ s ≤ 9223372036854775807
  tg : ∀ s ∈ p.tg, -9223372036854775808 ≤ s ∧ s ≤ 9223372036854775807
theorem fitPr_zero : FitPr prfZ := ⟨by decide, by decide, fun s hs => (by cases hs), fun s hs => (by cases hs)⟩
/-- A proof in rows of the call's own, which are two. -/
structure OwnPr (w : World) (B : Nat) (X : PrX) : Prop where
  sv : OwnI w B X.vs X.p.sv
  tg : OwnI w B X.vt X.p.tg
  two : ∀ q, X.vs.ownBlock = some q → X.vt.ownBlock = some q → False
theorem OwnPr.below {w w' : World} {B : Nat} {X : PrX} (h : OwnPr w B X) (hb : Below w.heap.size w w') : OwnPr w' B X := ⟨h.sv.below hb, h.tg.below hb, h.two⟩
theorem OwnPr.rd {w : World} {B : Nat} {X : PrX} (h : OwnPr w B X) : RdPr w X := ⟨h.sv.rd, h.tg.rd⟩
theorem OwnPr.mono {w : World} {B B' : Nat} {X : PrX} (h : OwnPr w B X) (hb : B' ≤ B) : OwnPr w B' X := ⟨h.sv.mono hb, h.tg.mono hb, h.two⟩
def prxZ : PrX := ⟨prfZ, .slice none 0 0, .slice none 0 0⟩
theorem ownPr_zero (w : World) (B : Nat) (v n : Int) : OwnPr w B ⟨⟨v, n, [], []⟩, .slice none 0 0, .slice none 0 0⟩ := ⟨ownI_nil w B, ownI_nil w B, fun q h => by simp [Value.ownBlock] at h⟩
/-- The blocks of a proof's rows. -/
def prB (X : PrX) : List Nat := oneB X.vs ++ oneB X.vt
theorem OwnPr.bound {w : World} {B : Nat} {X : PrX} (h : OwnPr w B X) {k : Nat} (hk : k ∈ prB X) : B ≤ k ∧ k < w.heap.size := by
  rcases List.mem_append.1 hk with hk | hk
  · exact World.ownsRow.lt h.sv k (mem_oneB.1 hk)
  · exact World.ownsRow.lt h.tg k (mem_oneB.1 hk)
theorem OwnPr.touch {bs : List Nat} {w w' : World} {B : Nat} {X : PrX} (h : OwnPr w B X) (ht : Touch bs w w') (hn : ∀ k ∈ prB X, k ∉ bs) : OwnPr w' B X :=
  ⟨ht.row h.sv (fun k hk => hn k (List.mem_append_left _ (mem_oneB.2 hk))), ht.row h.tg (fun k hk => hn k (List.mem_append_right _ (mem_oneB.2 hk))), h.two⟩
/-- A box at g, made behind w0, that holds the cells cs; and a proof's rows, the call's own. -/
structure PrBx (w0 w : World) (g : Nat) (cs : Array Value) (X : PrX) : Prop where
  ge : w0.heap.size ≤ g
  box : Bx w g 26 cs
  own : OwnPr w w0.heap.size X
  bel : Below w0.heap.size w0 w
def prA (X : PrX) : Array Value := #[.int .i64 X.p.vw, .int .i64 X.p.nm, X.vs, X.vt]
theorem PrBx.below {w0 w w' : World} {g : Nat} {cs : Array Value} {X : PrX} (h : PrBx w0 w g cs X) (hb : Below w.heap.size w w') : PrBx w0 w' g cs X :=
  ⟨h.ge, h.box.below hb, h.own.below hb, h.bel.trans (hb.mono h.bel.size)⟩
theorem PrBx.drew {w0 w : World} {g : Nat} {cs : Array Value} {X : PrX} (h : PrBx w0 w g cs X) : PrBx w0 w.drew g cs X := h.below (Below.refl _ _).drew
theorem PrBx.ne {w0 w : World} {g : Nat} {cs : Array Value} {X : PrX} (h : PrBx w0 w g cs X) : ∀ k ∈ prB X, g ≠ k := by
  intro k hk
  rcases List.mem_append.1 hk with hk | hk
  · exact h.box.row h.own.sv (by decide) k (mem_oneB.1 hk)
  · exact h.box.row h.own.tg (by decide) k (mem_oneB.1 hk)
theorem PrBx.set {w0 w : World} {g : Nat} {cs : Array Value} {X : PrX} (h : PrBx w0 w g cs X) (i : Nat) (u : Value) : PrBx w0 (w.setCell ⟨g, i, none⟩ u) g (cs.setIfInBounds i u) X := by
  refine ⟨h.ge, h.box.set i u, h.own.touch (bs := [g]) (Touch.set (List.mem_singleton.2 rfl)) (fun k hk e => h.ne k hk (List.mem_singleton.1 e).symm), h.bel.setCell h.ge _⟩
/-- Behind an append onto the servers. -/
theorem PrBx.app {w0 w w' : World} {g : Nat} {cs : Array Value} {X : PrX} (h : PrBx w0 w g cs X) {v' : Value} {zs : List Int} (ho : OwnI w' w0.heap.size v' (X.p.sv ++ zs)) (hg : w.grownBy w' X.vs.ownBlock) (ha : v'.ownBlock = X.vs.ownBlock ∨ v'.ownBlock = some w.heap.size) :
    PrBx w0 w' g cs ⟨⟨X.p.vw, X.p.nm, X.p.sv ++ zs, X.p.tg⟩, v', X.vt⟩ := by
  have hgo : ∀ k, X.vs.ownBlock = some k → w0.heap.size ≤ k ∧ k < w.heap.size := fun k hk => World.ownsRow.lt h.own.sv k hk
  refine ⟨h.ge, h.box.of_block (hg.block g h.box.lt (fun e => h.box.row h.own.sv (by decide) g e.symm rfl)), ⟨ho, row_kept h.own.tg hg (fun k hk e => h.own.two k e hk), fun q h1 h2 => ?_⟩, h.bel.grown hg h.bel.size (fun k hk => (hgo k hk).1)⟩
  simp only at h1 h2
  rcases ha with ha | ha
  · exact h.own.two q (by rw [← ha]; exact h1) h2
  · rw [ha] at h1
    have e : w.heap.size = q := Option.some.inj h1
    have := (World.ownsRow.lt h.own.tg q h2).2
    omega
/-- Behind an append onto the tags. -/
theorem PrBx.apt {w0 w w' : World} {g : Nat} {cs : Array Value} {X : PrX} (h : PrBx w0 w g cs X) {v' : Value} {zs : List Int} (ho : OwnI w' w0.heap.size v' (X.p.tg ++ zs)) (hg : w.grownBy w' X.vt.ownBlock) (ha : v'.ownBlock = X.vt.ownBlock ∨ v'.ownBlock = some w.heap.size) :
    PrBx w0 w' g cs ⟨⟨X.p.vw, X.p.nm, X.p.sv, X.p.tg ++ zs⟩, X.vs, v'⟩ := by
  have hgo : ∀ k, X.vt.ownBlock = some k → w0.heap.size ≤ k ∧ k < w.heap.size := fun k hk => World.ownsRow.lt h.own.tg k hk
  refine ⟨h.ge, h.box.of_block (hg.block g h.box.lt (fun e => h.box.row h.own.tg (by decide) g e.symm rfl)), ⟨row_kept h.own.sv hg (fun k hk e => h.own.two k hk e), ho, fun q h1 h2 => ?_⟩, h.bel.grown hg h.bel.size (fun k hk => (hgo k hk).1)⟩
  simp only at h1 h2
  rcases ha with ha | ha
  · exact h.own.two q h1 (by rw [← ha]; exact h2)
  · rw [ha] at h2
    have e : w.heap.size = q := Option.some.inj h2
    have := (World.ownsRow.lt h.own.sv q h1).2
    omega
theorem prBx_new {w0 w : World} (v n : Int) (hb : Below w0.heap.size w0 w) : PrBx w0 (w.alloc (.cells #[.int .i64 v, .int .i64 n, .slice none 0 0, .slice none 0 0] 26)) w.heap.size #[.int .i64 v, .int .i64 n, .slice none 0 0, .slice none 0 0] ⟨⟨v, n, [], []⟩, .slice none 0 0, .slice none 0 0⟩ :=
  ⟨hb.size, bx_new w _ _, ownPr_zero _ _ v n, hb.alloc hb.size _⟩
/-- The rows of a proof are slices. -/
theorem OwnPr.slices {w : World} {B : Nat} {X : PrX} (h : OwnPr w B X) : ∃ (a : Option Addr) (c : Nat) (b : Option Addr) (d : Nat), X.vs = .slice a X.p.sv.length c ∧ X.vt = .slice b X.p.tg.length d := by
  obtain ⟨a, c, h1⟩ := ownSlX h.sv
  obtain ⟨b, d, h2⟩ := ownSlX h.tg
  exact ⟨a, c, b, d, h1, h2⟩
end Go.Proofs.YtilhaokiohbeeaaGreatDoor
