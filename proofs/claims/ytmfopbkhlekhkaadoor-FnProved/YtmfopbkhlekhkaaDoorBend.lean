/- The contract of the bending of a text: it is some text, at most three bytes longer; nothing but the cursor's own block turns. -/
import Derived.Test.YtmfopbkhlekhkaaDoorDrawText
import Derived.Deep.RegionLaw
import Derived.Lib.ConvBytes
namespace Go.Proofs.YtmfopbkhlekhkaaDoor
open Go.RowKit
/-- append onto a row of the call's own, as one step of a region that draws. -/
theorem step_append_own {P : Program} {ops : Array Oper} {o : Oper} {a : Act} {w : World} {K : Act → World → Prop} {Q : Exit → Act → World → Prop} {E : Prop}
    (hg : o.guard = none) (s x : Operand) (t : TypeId) (hop : o.op = Op.call { callee := Callee.builtin Builtin.append, args := #[s, x], argTypes := #[t, t] })
    (base : Nat) (e : TypeId) (i : TypeInfo) (z : Value) (size bytes : Nat) (h1 : P.underlying t = some (.slice e)) (h2 : P.info? e = some i) (h3 : i.zero = some z) (h4 : i.size = size) (h5 : i.bytes = bytes) (h6 : z.cells.size = size) (h7 : 0 < size)
    (v : Value) (n : Nat) (xs : List Value) (hs : a.eval s = v) (hown : w.ownsRow base e size v n xs)
    (ad : Addr) (m c : Nat) (news : List Value) (hx : a.eval x = .slice (some ad) m c) (hn : news.length = m * size) (hc : ∀ j u, news[j]? = some u → w.cell? (ad.add j) = some u) (h1c : ∀ u ∈ news, u.oneCell' = true)
    (b1 : n + m ≤ maxLen) (b2 : (n + m) * bytes ≤ 140737488355328) (hbase : base ≤ w.heap.size)
    (hK : ∀ v' w', w'.ownsRow base e size v' (n + m) (xs ++ news) → w.grownBy w' v.ownBlock → K (a.put o.dst v') w') :
    if Region.wanted o (yielded ops a.tmps) = true then Oper.wp P o a w K Q else E := by
  have hw : Region.wanted o (yielded ops a.tmps) = true := by simp [Region.wanted, hg]
  rw [if_pos hw]
  obtain ⟨v', w', hrun, r1, r2, _⟩ := run_append_own (P := P) w base t o.type e i z size bytes h1 h2 h3 h4 h5 h6 h7 v n xs hown ad m c news hn hc h1c b1 b2 hbase
  unfold Oper.wp
  simp [execOp, hop, resolve, invoke, builtin, hs, hx, hrun, Result.andThen]
  exact hK v' w' r1 r2
/-- The slice v is the call's own, can be read and written, and holds the bytes ys. -/
def Wr (w : World) (B : Nat) (v : Value) (ys : List UInt8) : Prop :=
  (v = .slice none 0 0 ∧ ys = []) ∨ ∃ g cap, v = .slice (some ⟨g, 0, none⟩) ys.length cap ∧ B ≤ g ∧ ys.length ≤ cap ∧ cap ≤ maxLen ∧ g < w.heap.size ∧
    ∀ i (h : i < ys.length), w.cell? ⟨g, i, none⟩ = some (.int .u8 (ys[i].toNat : Int)) ∧ w.frozen? ⟨g, i, none⟩ = false
theorem Own.wr {w : World} {B : Nat} {v : Value} {ys : List UInt8} (h : Own w B v ys) : Wr w B v ys := by
  have h' := h
  rcases h.2 with ⟨rfl, h0⟩ | ⟨g, cap, cur, rfl, hb, hg, hn, hc, _⟩
  · exact .inl ⟨rfl, List.length_eq_zero_iff.1 h0⟩
  · refine .inr ⟨g, cap, rfl, hb, hn, hc, (Array.getElem?_eq_some_iff.1 hg).1, fun i hi => ⟨?_, World.ownsRow.frozenAt h' i⟩⟩
    have := World.ownsRow.cellAt h' i (by omega)
    rw [BV_get ys i hi] at this
    exact this
theorem Wr.kept {w w' : World} {B : Nat} {v : Value} {ys : List UInt8} {row : Option Nat} (h : Wr w B v ys) (hg : w.grownBy w' row) (hr : ∀ k, row = some k → k < B) : Wr w' B v ys := by
  rcases h with h | ⟨g, cap, hv, hB, h1, h2, h3, h4⟩
  · exact .inl h
  · have hb := hg.block g h3 (fun e => by have := hr g e.symm; omega)
    exact .inr ⟨g, cap, hv, hB, h1, h2, by have := hg.size; omega, fun i hi => ⟨(World.cell?_of_block (w := w) (a := ⟨g, i, none⟩) hb).trans (h4 i hi).1, (World.frozen?_of_block (w := w) (a := ⟨g, i, none⟩) hb).trans (h4 i hi).2⟩⟩
theorem Wr.conv {w : World} {B : Nat} {v : Value} {ys : List UInt8} (h : Wr w B v ys) : (convert 22 9 v).run Tryd.prog w = .ok (.string ⟨ys.toArray⟩) w := by
  rcases h with ⟨rfl, rfl⟩ | ⟨g, cap, rfl, _, _, _, _, h4⟩
  · exact run_convert_bytes_nil w 22 5 Tryd.underlying22 Tryd.underlying5 0 0 9 Tryd.underlying9
  · exact conv_at w g 0 ys.length cap ys rfl fun j hj => by rw [Nat.zero_add]; exact (h4 j hj).1
theorem Wr.rd {w : World} {B : Nat} {v : Value} {ys : List UInt8} (h : Wr w B v ys) : Rd w v ys := by
  rcases h with ⟨rfl, rfl⟩ | ⟨g, cap, rfl, _, h1, h2, _, h4⟩
  · exact ⟨none, 0, rfl, Nat.le_refl _, Nat.zero_le _, .inl rfl⟩
  · exact ⟨some ⟨g, 0, none⟩, cap, rfl, h1, h2, .inr ⟨g, 0, rfl, fun i hi => by rw [Nat.zero_add]; exact (h4 i hi).1⟩⟩
theorem Wr.below {w w' : World} {B : Nat} {v : Value} {ys : List UInt8} (h : Wr w B v ys) (hb : Below w.heap.size w w') : Wr w' B v ys := by
  rcases h with h | ⟨g, cap, hv, hB, h1, h2, h3, h4⟩
  · exact .inl h
  · exact .inr ⟨g, cap, hv, hB, h1, h2, by have := hb.size; omega, fun i hi => ⟨(hb.cell (p := ⟨g, i, none⟩) h3).trans (h4 i hi).1, (hb.frozen (p := ⟨g, i, none⟩) h3).trans (h4 i hi).2⟩⟩
theorem Wr.mono {w : World} {B B' : Nat} {v : Value} {ys : List UInt8} (h : Wr w B v ys) (hB : B' ≤ B) : Wr w B' v ys := by
  rcases h with h | ⟨g, cap, hv, h1, h2⟩
  · exact .inl h
  · exact .inr ⟨g, cap, hv, by omega, h2⟩
/-- A text's bytes, laid anew. -/
theorem bytes_new (w : World) (s : ByteArray) (hs : s.size ≤ maxLen) : Wr (Lib.bytesWorld w 5 s) w.heap.size (.slice (some ⟨w.heap.size, 0, none⟩) s.size (grownCap w s.size 0 5)) s.data.toList := by
  have hl : s.data.toList.length = s.size := by rw [Array.length_toList]; rfl
  refine .inr ⟨w.heap.size, _, by rw [hl], Nat.le_refl _, by rw [hl]; exact grownCap_ge w s.size 0 _, grownCap_le_maxLen w s.size 0 _ hs, by rw [Lib.bytesWorld_size]; omega, fun i hi => ⟨?_, ?_⟩⟩
  · rw [Lib.bytesWorld_cell w _ s i (by omega)]
    simp [List.getD, List.getElem?_eq_getElem hi]
  · have hc : s.size ≤ (Lib.bytesCells w 5 s).size := by unfold Lib.bytesCells; simp
    simp only [World.frozen?, Lib.bytesWorld_at_new]
    simp
    omega
theorem bytes_grown (w : World) (s : ByteArray) (row : Option Nat) : w.grownBy (Lib.bytesWorld w 5 s) row :=
  ⟨rfl, rfl, rfl, by rw [Lib.bytesWorld_size]; omega, fun k hk _ => Lib.bytesWorld_at_old w _ s k hk⟩
theorem Wr.stored {w : World} {B g cap : Nat} {ys : List UInt8} (hB : B ≤ g) (h1 : ys.length ≤ cap) (h2 : cap ≤ maxLen) (h3 : g < w.heap.size) (h4 : ∀ i (h : i < ys.length), w.cell? ⟨g, i, none⟩ = some (.int .u8 (ys[i].toNat : Int)) ∧ w.frozen? ⟨g, i, none⟩ = false) (k : Nat) (hk : k < ys.length) (b : UInt8) :
    Wr (w.setCell ⟨g, k, none⟩ (.int .u8 (b.toNat : Int))) B (.slice (some ⟨g, 0, none⟩) ys.length cap) (ys.set k b) := by
  refine .inr ⟨g, cap, by rw [List.length_set], hB, by rw [List.length_set]; exact h1, h2, by simpa using h3, fun i hi => ?_⟩
  rw [List.length_set] at hi
  refine ⟨?_, (World.frozen?_setCell _ _ _ _).trans (h4 i hi).2⟩
  by_cases hik : k = i
  · subst hik
    rw [World.cell?_setCell_same _ _ _ (h4 k hk).1]
    simp
  · rw [World.cell?_setCell_other _ _ _ _ (by simp), (h4 i hi).1]
    simp [hik]
theorem Wr.headed {w : World} {B g cap : Nat} {ys : List UInt8} (hB : B ≤ g) (h1 : ys.length ≤ cap) (h2 : cap ≤ maxLen) (h3 : g < w.heap.size) (h4 : ∀ i (h : i < ys.length), w.cell? ⟨g, i, none⟩ = some (.int .u8 (ys[i].toNat : Int)) ∧ w.frozen? ⟨g, i, none⟩ = false) (k : Nat) (hk : k < ys.length) :
    Wr w B (.slice (some ⟨g, 0, none⟩) k cap) (ys.take k) := by
  have hl : (ys.take k).length = k := by rw [List.length_take]; omega
  refine .inr ⟨g, cap, by rw [hl], hB, by omega, h2, h3, fun i hi => ?_⟩
  rw [hl] at hi
  rw [List.getElem_take]
  exact h4 i (by omega)
/-- What every step of the bending keeps. -/
def Keep (w0 w : World) (g : Nat) (W : World) : Prop := DCur w0 W g ∧ w.grownBy W (some g) ∧ g < w.heap.size
theorem Keep.step {w0 w W W' : World} {g : Nat} {row : Option Nat} (h : Keep w0 w g W) (hg : W.grownBy W' row) (hr : ∀ k, row = some k → w.heap.size ≤ k) : Keep w0 w g W' :=
  ⟨h.1.grow hg (fun k hk => by have := hr k hk; have := h.2.2; omega), gr_young h.2.1 hg hr, h.2.2⟩
theorem Keep.own {w0 w W W' : World} {g : Nat} (h : Keep w0 w g W) (hc : DCur w0 W' g) (hg : W.grownBy W' (some g)) : Keep w0 w g W' := ⟨hc, gr_trans h.2.1 hg, h.2.2⟩
/-- The row of bytes at block g1. -/
def RowAt (W : World) (g1 : Nat) (ys : List UInt8) : Prop := g1 < W.heap.size ∧ ∀ i (h : i < ys.length), W.cell? ⟨g1, i, none⟩ = some (.int .u8 (ys[i].toNat : Int)) ∧ W.frozen? ⟨g1, i, none⟩ = false
theorem RowAt.step {W W' : World} {g1 : Nat} {ys : List UInt8} {row : Option Nat} (h : RowAt W g1 ys) (hg : W.grownBy W' row) (hr : row ≠ some g1) : RowAt W' g1 ys := by
  have hb := hg.block g1 h.1 (fun e => hr e.symm)
  exact ⟨by have := h.1; have := hg.size; omega, fun i hi => ⟨(World.cell?_of_block (w := W) (a := ⟨g1, i, none⟩) hb).trans (h.2 i hi).1, (World.frozen?_of_block (w := W) (a := ⟨g1, i, none⟩) hb).trans (h.2 i hi).2⟩⟩
theorem RowAt.head {W : World} {g1 k : Nat} {ys : List UInt8} (h : RowAt W g1 ys) (hk : k ≤ ys.length) : ∀ j u, (BV (ys.take k))[j]? = some u → W.cell? ((⟨g1, 0, none⟩ : Addr).add j) = some u := by
  intro j u hj
  have hjl : j < (ys.take k).length := by have := (List.getElem?_eq_some_iff.1 hj).1; rwa [BV_length] at this
  rw [BV_get _ j hjl] at hj
  cases hj
  rw [List.length_take] at hjl
  rw [Addr.add_lit, Nat.zero_add, (h.2 j (by omega)).1, List.getElem_take]
theorem RowAt.tail {W : World} {g1 k : Nat} {ys : List UInt8} (h : RowAt W g1 ys) : ∀ j u, (BV (ys.drop k))[j]? = some u → W.cell? ((⟨g1, k, none⟩ : Addr).add j) = some u := by
  intro j u hj
  have hjl : j < (ys.drop k).length := by have := (List.getElem?_eq_some_iff.1 hj).1; rwa [BV_length] at this
  rw [BV_get _ j hjl] at hj
  cases hj
  rw [List.length_drop] at hjl
  rw [Addr.add_lit, (h.2 (k + j) (by omega)).1, List.getElem_drop]
theorem BV_one (bs : List UInt8) : ∀ u ∈ BV bs, u.oneCell' = true := by
  intro u hu
  obtain ⟨_, _, rfl⟩ := List.mem_map.1 hu
  rfl
theorem own_joined {W : World} {B n m : Nat} {v : Value} {ys zs : List UInt8} (hn : n = ys.length) (hm : m = zs.length) (h : W.ownsRow B 5 1 v (n + m) (BV ys ++ BV zs)) : Own W B v (ys ++ zs) := by
  subst hn
  subst hm
  unfold Own
  rw [BV_append, List.length_append]
  exact h

end Go.Proofs.YtmfopbkhlekhkaaDoor
