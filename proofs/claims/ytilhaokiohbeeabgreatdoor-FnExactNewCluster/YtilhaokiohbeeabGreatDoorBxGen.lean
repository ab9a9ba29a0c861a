/- Plain facts on boxes (a struct's cells in a block of its own), of any type, and on appends of numbers that tell where the row lies. -/
import Derived.Test.YtilhaokiohbeeabGreatDoorNumBase
import Derived.Test.YtilhaokiohbeeabGreatDoorGen
import Derived.Maps.AppendAt
namespace Go.Proofs.YtilhaokiohbeeabGreatDoor
open Go.RowKit
/-- The block b is a box that holds the cells cs. -/
def Bx (w : World) (b : Nat) (t : TypeId) (cs : Array Value) : Prop := w.heap[b]? = some (.cells cs t (0, 0))
theorem Bx.lt {w : World} {b t : Nat} {cs : Array Value} (h : Bx w b t cs) : b < w.heap.size := (Array.getElem?_eq_some_iff.1 h).1
theorem Bx.of_block {w w' : World} {b t : Nat} {cs : Array Value} (h : Bx w b t cs) (hb : w'.heap[b]? = w.heap[b]?) : Bx w' b t cs := hb.trans h
theorem Bx.below {w w' : World} {b t : Nat} {cs : Array Value} (h : Bx w b t cs) (hb : Below w.heap.size w w') : Bx w' b t cs := h.of_block (hb.block b h.lt)
theorem Bx.base {w w' : World} {b t B : Nat} {cs : Array Value} (h : Bx w b t cs) (hb : Below B w w') (hl : b < B) : Bx w' b t cs := h.of_block (hb.block b hl)
theorem Bx.touch {bs : List Nat} {w w' : World} {b t : Nat} {cs : Array Value} (h : Bx w b t cs) (ht : Touch bs w w') (hn : b ∉ bs) : Bx w' b t cs := h.of_block (ht.block b h.lt hn)
theorem Bx.cell {w : World} {b t : Nat} {cs : Array Value} (h : Bx w b t cs) (i : Nat) {v : Value} (hi : cs[i]? = some v) : w.cell? ⟨b, i, none⟩ = some v := by
  unfold Bx at h
  simp [World.cell?, h, hi]
theorem Bx.c4 {w : World} {b t : Nat} {u0 u1 u2 u3 : Value} (h : Bx w b t #[u0, u1, u2, u3]) : w.cell? ⟨b, 0, none⟩ = some u0 ∧ w.cell? ⟨b, 1, none⟩ = some u1 ∧ w.cell? ⟨b, 2, none⟩ = some u2 ∧ w.cell? ⟨b, 3, none⟩ = some u3 := ⟨h.cell 0 rfl, h.cell 1 rfl, h.cell 2 rfl, h.cell 3 rfl⟩
theorem Bx.c8 {w : World} {b t : Nat} {u0 u1 u2 u3 u4 u5 u6 u7 : Value} (h : Bx w b t #[u0, u1, u2, u3, u4, u5, u6, u7]) : w.cell? ⟨b, 0, none⟩ = some u0 ∧ w.cell? ⟨b, 1, none⟩ = some u1 ∧ w.cell? ⟨b, 2, none⟩ = some u2 ∧ w.cell? ⟨b, 3, none⟩ = some u3 ∧ w.cell? ⟨b, 4, none⟩ = some u4 ∧ w.cell? ⟨b, 5, none⟩ = some u5 ∧ w.cell? ⟨b, 6, none⟩ = some u6 ∧ w.cell? ⟨b, 7, none⟩ = some u7 := ⟨h.cell 0 rfl, h.cell 1 rfl, h.cell 2 rfl, h.cell 3 rfl, h.cell 4 rfl, h.cell 5 rfl, h.cell 6 rfl, h.cell 7 rfl⟩
theorem Bx.f4 {w : World} {b t : Nat} {cs : Array Value} (h : Bx w b t cs) : w.frozen? ⟨b, 0, none⟩ = false ∧ w.frozen? ⟨b, 1, none⟩ = false ∧ w.frozen? ⟨b, 2, none⟩ = false ∧ w.frozen? ⟨b, 3, none⟩ = false := by
  unfold Bx at h
  refine ⟨?_, ?_, ?_, ?_⟩ <;> simp [World.frozen?, h]
theorem Bx.f8 {w : World} {b t : Nat} {cs : Array Value} (h : Bx w b t cs) : w.frozen? ⟨b, 0, none⟩ = false ∧ w.frozen? ⟨b, 1, none⟩ = false ∧ w.frozen? ⟨b, 2, none⟩ = false ∧ w.frozen? ⟨b, 3, none⟩ = false ∧ w.frozen? ⟨b, 4, none⟩ = false ∧ w.frozen? ⟨b, 5, none⟩ = false ∧ w.frozen? ⟨b, 6, none⟩ = false ∧ w.frozen? ⟨b, 7, none⟩ = false := by
  unfold Bx at h
  refine ⟨?_, ?_, ?_, ?_, ?_, ?_, ?_, ?_⟩ <;> simp [World.frozen?, h]
theorem Bx.fz {w : World} {b t : Nat} {cs : Array Value} (h : Bx w b t cs) (i : Nat) : w.frozen? ⟨b, i, none⟩ = false := by
  unfold Bx at h
  simp [World.frozen?, h]
theorem Bx.set {w : World} {b t : Nat} {cs : Array Value} (h : Bx w b t cs) (i : Nat) (u : Value) : Bx (w.setCell ⟨b, i, none⟩ u) b t (cs.setIfInBounds i u) := by
  unfold Bx at h ⊢
  exact heap_setCell_same w b i _ _ u h
theorem Bx.other {w : World} {b t c j : Nat} {cs : Array Value} {u : Value} (h : Bx w b t cs) (hn : b ≠ c) : Bx (w.setCell ⟨c, j, none⟩ u) b t cs := h.of_block (heap_setCell_other w ⟨c, j, none⟩ b u hn)
theorem bx_new (w : World) (t : TypeId) (cs : Array Value) : Bx (w.alloc (.cells cs t)) w.heap.size t cs := heap_alloc_new w _
/-- Four values are stored into a box. -/
def put4B (W : World) (b : Nat) (a0 a1 a2 a3 : Value) : World := (((W.setCell ⟨b, 0, none⟩ a0).setCell ⟨b, 1, none⟩ a1).setCell ⟨b, 2, none⟩ a2).setCell ⟨b, 3, none⟩ a3
theorem Bx.put4 {W : World} {b t : Nat} {u0 u1 u2 u3 : Value} (h : Bx W b t #[u0, u1, u2, u3]) (a0 a1 a2 a3 : Value) : Bx (put4B W b a0 a1 a2 a3) b t #[a0, a1, a2, a3] := by
  have h1 := (((h.set 0 a0).set 1 a1).set 2 a2).set 3 a3
  unfold put4B
  simpa using h1
theorem put4B_below {B : Nat} {a W : World} {b : Nat} {u0 u1 u2 u3 : Value} (h : Below B a W) (hb : B ≤ b) : Below B a (put4B W b u0 u1 u2 u3) := (((h.setCell hb _).setCell hb _).setCell hb _).setCell hb _
theorem put4B_touch {W : World} {b : Nat} {u0 u1 u2 u3 : Value} : Touch [b] W (put4B W b u0 u1 u2 u3) := by
  have hm : b ∈ [b] := List.mem_singleton.2 rfl
  exact (((Touch.set hm).trans (Touch.set hm)).trans (Touch.set hm)).trans (Touch.set hm)
/-- A row of another type lies in another block. -/
theorem Bx.row {w : World} {B b t e s n : Nat} {cs : Array Value} {v : Value} {xs : List Value} (h : Bx w b t cs) (ho : w.ownsRow B e s v n xs) (ht : e ≠ t) : ∀ k, v.ownBlock = some k → b ≠ k := by
  intro k hk he
  subst he
  rcases ho.2 with ⟨rfl, _⟩ | ⟨g, cap, cur, rfl, _, hg, _⟩
  · simp [Value.ownBlock] at hk
  · obtain rfl : g = b := by simpa [Value.ownBlock] using hk
    unfold Bx at h
    rw [h] at hg
    injection hg with hg
    injection hg with _ h2
    exact ht h2.symm
theorem run_intsX (ty : TypeId) {w : World} {base : Nat} {v u : Value} {ys zs : List Int} (hown : OwnI w base v ys) (hr : RdI w u zs) (hl : ys.length + zs.length ≤ 1000000000) (hbase : base ≤ w.heap.size) :
    ∃ v' w', (Builtin.append_ #[36, 36] ty #[v, u]).run Tryz.prog w = .ok v' w' ∧ OwnI w' base v' (ys ++ zs) ∧ w.grownBy w' v.ownBlock ∧ (v'.ownBlock = v.ownBlock ∨ v'.ownBlock = some w.heap.size) := by
  obtain ⟨i0, hi, hz0, hz1, hz2⟩ := info_parts Tryz.info2
  obtain ⟨a, cap, rfl, h1, h2, h0, h3⟩ := hr
  have row : ∀ ad news, news = IV zs → (∀ j u, news[j]? = some u → w.cell? (ad.add j) = some u) → ∃ v' w', (Builtin.append_ #[36, 36] ty #[v, .slice (some ad) zs.length cap]).run Tryz.prog w = .ok v' w' ∧ OwnI w' base v' (ys ++ zs) ∧ w.grownBy w' v.ownBlock ∧ (v'.ownBlock = v.ownBlock ∨ v'.ownBlock = some w.heap.size) := by
    intro ad news hn hc
    subst hn
    obtain ⟨v', w', hrun, r1, r2, _, r3⟩ := run_append_own_at (P := Tryz.prog) (w := w) base 36 ty 2 i0 _ 1 8 Tryz.underlying36 hi hz0 hz1 hz2 rfl (by decide) v ys.length (IV ys) hown ad zs.length cap (IV zs) (by rw [IV_length, Nat.mul_one]) hc (by intro u hu; obtain ⟨z, _, rfl⟩ := List.mem_map.1 hu; rfl) (by unfold maxLen; omega) (by omega) hbase
    exact ⟨v', w', hrun, ownI_more r1, r2, r3⟩
  cases a with
  | some ad =>
    refine row ad (IV zs) rfl ?_
    rcases h3 with rfl | ⟨b, off, ha, hc⟩
    · intro j u hj; simp [IV] at hj
    · cases ha
      intro j u hj
      have hjl : j < zs.length := by have := (List.getElem?_eq_some_iff.1 hj).1; rwa [IV_length] at this
      rw [IV_get zs j hjl] at hj
      cases hj
      rw [Addr.add_lit]
      exact hc j hjl
  | none =>
    have hc0 := h0 rfl
    subst hc0
    rcases h3 with rfl | ⟨b, off, ha, hc⟩
    · refine ⟨v, w, run_append_owned_none (P := Tryz.prog) w base 36 ty 2 i0 1 Tryz.underlying36 hi v ys.length (IV ys) hown, by simpa using hown, ⟨rfl, rfl, rfl, Nat.le_refl _, fun _ _ _ => rfl⟩, .inl rfl⟩
    · cases ha
theorem step_intsX {w : World} {ops : Array Oper} {o : Oper} {a : Act} {K : Act → World → Prop} {Q : Exit → Act → World → Prop} {E : Prop} (hgd : o.guard = none) (d : Nat) (hd : o.dst = some d) (s x : Operand)
    (ho : o.op = .call { callee := .builtin .append, args := #[s, x], argTypes := #[36, 36] }) (base : Nat) (v u : Value) (ys zs : List Int) (hs : a.eval s = v) (hx : a.eval x = u) (hown : OwnI w base v ys) (hr : RdI w u zs) (hl : ys.length + zs.length ≤ 1000000000) (hbase : base ≤ w.heap.size)
    (h : ∀ v' w', OwnI w' base v' (ys ++ zs) → w.grownBy w' v.ownBlock → (v'.ownBlock = v.ownBlock ∨ v'.ownBlock = some w.heap.size) → K (a.put (some d) v') w') :
    if Region.wanted o (yielded ops a.tmps) = true then Oper.wp Tryz.prog o a w K Q else E := by
  have hw : Region.wanted o (yielded ops a.tmps) = true := by simp [Region.wanted, hgd]
  rw [if_pos hw]
  obtain ⟨v', w', hrun, r1, r2, r3⟩ := run_intsX o.type hown hr hl hbase
  unfold Oper.wp
  simp [execOp, ho, resolve, invoke, builtin, hs, hx, hrun, Result.andThen]
  have h' := h v' w' r1 r2 r3
  rw [← hd] at h'
  exact h'
theorem wpList_intsX {w : World} {ops : Array Oper} {rest : List Oper} {o : Oper} {a : Act} {Q : Exit → Act → World → Prop} (hgd : o.guard = none) (s x : Operand)
    (ho : o.op = .call { callee := .builtin .append, args := #[s, x], argTypes := #[36, 36] }) (base : Nat) (v u : Value) (ys zs : List Int) (hs : a.eval s = v) (hx : a.eval x = u) (hown : OwnI w base v ys) (hr : RdI w u zs) (hl : ys.length + zs.length ≤ 1000000000) (hbase : base ≤ w.heap.size)
    (h : ∀ v' w', OwnI w' base v' (ys ++ zs) → w.grownBy w' v.ownBlock → (v'.ownBlock = v.ownBlock ∨ v'.ownBlock = some w.heap.size) → wpList Tryz.prog ops Q rest (a.put o.dst v') w') : wpList Tryz.prog ops Q (o :: rest) a w := by
  refine wpList_plain hgd fun K hK => ?_
  obtain ⟨v', w', hrun, r1, r2, r3⟩ := run_intsX o.type hown hr hl hbase
  unfold Oper.wp
  simp [execOp, ho, resolve, invoke, builtin, hs, hx, hrun, Result.andThen]
  exact hK _ _ (h v' w' r1 r2 r3)
/-- One operation that makes an object, as a step of a region that draws its order. -/
theorem step_objX {w : World} {ops : Array Oper} {o : Oper} {a : Act} {K : Act → World → Prop} {Q : Exit → Act → World → Prop} {E : Prop} (hgd : o.guard = none) (d : Nat) (hd : o.dst = some d) (ob : Obj) (v : Value)
    (hrun : (execOp a.eval o).run Tryz.prog w = .ok (.value v) (w.alloc ob)) (h : K (a.put (some d) v) (w.alloc ob)) :
    if Region.wanted o (yielded ops a.tmps) = true then Oper.wp Tryz.prog o a w K Q else E := by
  have hw : Region.wanted o (yielded ops a.tmps) = true := by simp [Region.wanted, hgd]
  rw [if_pos hw]
  rw [← hd] at h
  unfold Oper.wp
  rw [hrun]
  exact h
theorem rdI_one (V : World) (y : Int) : RdI (V.alloc (.cells #[.int .i64 y] 2)) (.slice (some ⟨V.heap.size, 0, none⟩) 1 1) [y] := (ownI_one V y).rd
theorem ownSlX {w : World} {B t z n : Nat} {v : Value} {xs : List Value} (h : w.ownsRow B t z v n xs) : ∃ a c, v = .slice a n c := by
  rcases h.2 with ⟨hv, h0⟩ | ⟨g, cap, cur, hv, _⟩
  · exact ⟨none, 0, by rw [hv, h0]⟩
  · exact ⟨_, _, hv⟩
theorem listed_asX {P : Program} {md : Region.Mode} {ops : Array Oper} {Q : Exit → Act → World → Prop} {S : World → Prop} {fuel : Nat} {l l' : Array Bool} {a : Act} {w : World} (hl : l = l') (h : wpAnyH P md ops Q S fuel l' a w) : wpAnyH P md ops Q S fuel l a w := by subst hl; exact h
end Go.Proofs.YtilhaokiohbeeabGreatDoor
