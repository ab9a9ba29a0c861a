/- Plain facts for the draws of tables: how long what is built is; texts that can be read and are young. -/
import Derived.Test.YtjgcommffaplnaaTabSpec5
import Derived.Test.YtjgcommffaplnaaDrawEnt
namespace Go.Proofs.Ytjgcommffaplnaa
open Go.RowKit
theorem packEP_len {last : ByteArray} {e : Ent} (h : PkE e) : (packE last e).length ≤ 2036 := by
  have hs := stpP_le h
  obtain ⟨p1, p2, p3, p4⟩ := h
  have hc := com_le last e.key
  have h1 := enc_len9 (com last e.key) (by omega)
  have h2 := enc_len9 (e.key.size - com last e.key) (by omega)
  have h3 := enc_len9 (stp e) (by omega)
  have h4 := enc_len9 e.val.size (by omega)
  unfold packE
  simp only [List.length_append, List.length_drop, size_length]
  omega
theorem packFP_len : ∀ (es : List Ent) (i : Nat) (last : ByteArray), (∀ e ∈ es, PkE e) → (packF i last es).length ≤ 2036 * es.length
  | [], _, _, _ => by simp [packF]
  | e :: r, i, last, h => by
    have h1 := packEP_len (last := ahead i last) (h e List.mem_cons_self)
    have h2 := packFP_len r (i + 1) e.key (fun x hx => h x (List.mem_cons_of_mem _ hx))
    rw [packF, List.length_append, List.length_cons]
    omega
theorem packAP_len {es : List Ent} (h : ∀ e ∈ es, PkE e) (hn : es.length ≤ 8) : (packA es).length ≤ 20000 := by
  have h1 := packFP_len es 0 ⟨#[]⟩ h
  have h3 := enc_len9 es.length (by omega)
  unfold packA
  rw [List.length_append]
  omega
theorem blkF_size {es : List Ent} (h : ∀ e ∈ es, PkE e) : ∀ (n i : Nat), ∀ s ∈ blkF es n i, s.size ≤ 20000
  | 0, _, s, hs => by simp [blkF] at hs
  | n + 1, i, s, hs => by
    rw [blkF, List.mem_cons] at hs
    rcases hs with rfl | hs
    · have := packAP_len (es := chunk es i) (fun e he => h e (List.mem_of_mem_drop (List.mem_of_mem_take he))) (by unfold chunk; rw [List.length_take]; omega)
      simpa [ByteArray.size] using this
    · exact blkF_size h n (i + 8) s hs
theorem blksL_size {es : List Ent} (h : ∀ e ∈ es, PkE e) : ∀ s ∈ blksL es, s.size ≤ 20000 := blkF_size h _ _
theorem blksL_pos {es : List Ent} (h : 0 < es.length) : 0 < (blksL es).length := by unfold blksL; rw [blkF_len]; omega
theorem bitsL_pos {es : List Ent} (h : 0 < es.length) : 0 < (bitsL es).length := by
  have hm : mk1 es[0].key ∈ bitsL es := (bitsL_mem es _).2 ⟨es[0], List.getElem_mem h, (marksL_mem _ _).2 (.inr rfl)⟩
  exact List.length_pos_of_mem hm
/-- Texts that can be read and lie in a block from B on. -/
def YS (w : World) (B : Nat) (v : Value) (ss : List ByteArray) : Prop :=
  ∃ a cap, v = .slice a ss.length cap ∧ ss.length ≤ cap ∧ cap ≤ maxLen ∧
    (ss = [] ∨ ∃ b off, B ≤ b ∧ a = some ⟨b, off, none⟩ ∧ ∀ i (h : i < ss.length), w.cell? ⟨b, off + i, none⟩ = some (.string ss[i]))
theorem YS.rd {w : World} {B : Nat} {v : Value} {ss : List ByteArray} (h : YS w B v ss) : RdS w v ss := by
  obtain ⟨a, cap, hv, h1, h2, h3⟩ := h
  refine ⟨a, cap, hv, h1, h2, ?_⟩
  rcases h3 with h3 | ⟨b, off, _, ha, hc⟩
  · exact .inl h3
  · exact .inr ⟨b, off, ha, hc⟩
theorem OwnS.young {w : World} {B : Nat} {v : Value} {ss : List ByteArray} (h : OwnS w B v ss) : YS w B v ss := by
  have h' := h
  rcases h.2 with ⟨rfl, h0⟩ | ⟨g, cap, cur, rfl, hb, hg, hn, hc, hs, ht⟩
  · have : ss = [] := List.length_eq_zero_iff.1 h0
    subst this
    exact ⟨none, 0, rfl, Nat.le_refl _, Nat.zero_le _, .inl rfl⟩
  · refine ⟨some ⟨g, 0, none⟩, cap, rfl, hn, hc, .inr ⟨g, 0, hb, rfl, fun i hi => ?_⟩⟩
    have := h'.cellAt i (by omega)
    rw [SV_get ss i hi] at this
    simpa using this
theorem YS.blocks {w w' : World} {B : Nat} {v : Value} {ss : List ByteArray} (h : YS w B v ss) (hb : ∀ b, B ≤ b → b < w.heap.size → w'.heap[b]? = w.heap[b]?) : YS w' B v ss := by
  obtain ⟨a, cap, hv, h1, h2, h3⟩ := h
  refine ⟨a, cap, hv, h1, h2, ?_⟩
  rcases h3 with h3 | ⟨b, off, hB, ha, hc⟩
  · exact .inl h3
  · exact .inr ⟨b, off, hB, ha, fun i hi => (World.cell?_of_block (a := ⟨b, off + i, none⟩) (hb b hB (World.block_lt_of_cell? w _ (hc i hi)))).trans (hc i hi)⟩
theorem YS.g {w w' : World} {B g : Nat} {v : Value} {ss : List ByteArray} (h : YS w B v ss) (hg : w.grownBy w' (some g)) (hB : g < B) : YS w' B v ss :=
  h.blocks (fun b hb hl => hg.block b hl (by simp; omega))
theorem YS.below {w w' : World} {B : Nat} {v : Value} {ss : List ByteArray} (h : YS w B v ss) (hb : Below w.heap.size w w') : YS w' B v ss :=
  h.blocks (fun b _ hl => hb.block b hl)
theorem YS.mono {w : World} {B B' : Nat} {v : Value} {ss : List ByteArray} (h : YS w B v ss) (hB : B' ≤ B) : YS w B' v ss := by
  obtain ⟨a, cap, hv, h1, h2, h3⟩ := h
  refine ⟨a, cap, hv, h1, h2, ?_⟩
  rcases h3 with h3 | ⟨b, off, hb, r⟩
  · exact .inl h3
  · exact .inr ⟨b, off, Nat.le_trans hB hb, r⟩
/-- The tail of young texts, as a slice from 1 on makes it. -/
theorem YS.tail {w : World} {B b off cap : Nat} {ss : List ByteArray} (h : YS w B (.slice (some ⟨b, off, none⟩) ss.length cap) ss) (h0 : 0 < ss.length) (hc : 1 < cap) : YS w B (.slice (some ⟨b, off + 1, none⟩) (ss.length - 1) (cap - 1)) (ss.drop 1) := by
  obtain ⟨a', cap', hv, h1, h2, h3⟩ := h
  simp only [Value.slice.injEq] at hv
  obtain ⟨rfl, _, rfl⟩ := hv
  rcases h3 with rfl | ⟨b', off', hB, ha, hcell⟩
  · simp at h0
  · simp only [Option.some.injEq, Addr.mk.injEq] at ha
    obtain ⟨rfl, rfl, _⟩ := ha
    refine ⟨_, _, by rw [List.length_drop], by rw [List.length_drop]; omega, by omega, .inr ⟨b, off + 1, hB, rfl, fun i hi => ?_⟩⟩
    rw [List.length_drop] at hi
    have := hcell (i + 1) (by omega)
    rw [show off + 1 + i = off + (i + 1) by omega, this]
    simp
/-- The tail of one text is none. -/
theorem ys_one {w : World} {B : Nat} {a : Option Addr} {cap : Nat} {ss : List ByteArray} (h1 : ss.length = 1) (hc : cap ≤ maxLen) : YS w B (.slice a 0 cap) (ss.drop 1) := by
  have : ss.drop 1 = [] := List.drop_eq_nil_of_le (by omega)
  rw [this]
  exact ⟨a, cap, rfl, Nat.zero_le _, hc, .inl rfl⟩
theorem ownI_g {w w' : World} {B g : Nat} {v : Value} {ns : List Int} (h : OwnI w B v ns) (hg : w.grownBy w' (some g)) (hB : g < B) : OwnI w' B v ns :=
  row_kept h hg (fun k hk e => by have := (World.ownsRow.lt h k hk).1; simp at e; omega)
theorem ownS_g {w w' : World} {B g : Nat} {v : Value} {ss : List ByteArray} (h : OwnS w B v ss) (hg : w.grownBy w' (some g)) (hB : g < B) : OwnS w' B v ss :=
  row_kept h hg (fun k hk e => by have := (World.ownsRow.lt h k hk).1; simp at e; omega)
/-- What a draw of a table leaves. -/
def TabD (w0 w : World) (g : Nat) (e : Ending) (w' : World) : Prop :=
  ∃ (T : Tbl) (vb vk : Value), e = .returned (.agg #[.string T.first, .string T.last, vb, vk]) ∧ OwnI w' w.heap.size vb T.bits ∧ YS w' w.heap.size vk T.blocks ∧ (∀ s ∈ T.blocks, s.size ≤ 1000000) ∧ DCur w0 w' g ∧ w.grownBy w' (some g)
theorem YS.set {w : World} {B c j : Nat} {v u : Value} {ss : List ByteArray} (h : YS w B v ss) (hc : c < B) : YS (w.setCell ⟨c, j, none⟩ u) B v ss :=
  h.blocks (fun b hb _ => heap_setCell_other w ⟨c, j, none⟩ b u (by intro e; simp at e; omega))
theorem boxT_set0 {w : World} {b : Nat} {f f' l : ByteArray} {vb vk : Value} (h : BoxT w b f l vb vk) : BoxT (w.setCell ⟨b, 0, none⟩ (.string f')) b f' l vb vk := by
  unfold BoxT
  rw [heap_setCell_same w b 0 _ _ _ h]
  rfl
theorem YS.tail2 {w : World} {B b cap : Nat} {ss : List ByteArray} (h : YS w B (.slice (some ⟨b, 0, none⟩) ss.length cap) ss) (h0 : 0 < ss.length) (hc : 1 < cap) : YS w B (.slice (some ⟨b, 1, none⟩) (ss.drop 1).length (cap - 1)) (ss.drop 1) := by
  have := h.tail h0 hc
  rwa [List.length_drop]
theorem ownS_stored {w : World} {B g cap : Nat} {ss : List ByteArray} (h : OwnS w B (.slice (some ⟨g, 0, none⟩) ss.length cap) ss) (j : Nat) (s : ByteArray) : OwnS (w.setCell ⟨g, j, none⟩ (.string s)) B (.slice (some ⟨g, 0, none⟩) (ss.set j s).length cap) (ss.set j s) := by
  have h2 := (World.ownsRow.stored h j (.string s)).1
  rw [← SV_set] at h2
  unfold OwnS
  rw [List.length_set]
  exact h2
theorem set_sizes {ss : List ByteArray} {j : Nat} {s : ByteArray} {n : Nat} (h : ∀ x ∈ ss, x.size ≤ n) (hs : s.size ≤ n) : ∀ x ∈ ss.set j s, x.size ≤ n := fun x hx => by
  rcases List.mem_or_eq_of_mem_set hx with h1 | rfl
  · exact h x h1
  · exact hs
theorem Small.pk {x : Ent} (h : Small x) : PkE x := h
end Go.Proofs.Ytjgcommffaplnaa
