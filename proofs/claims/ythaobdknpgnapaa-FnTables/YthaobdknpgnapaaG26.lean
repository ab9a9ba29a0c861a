/- The contracts of the draws of a key, of an entry and of entries with rising numbers: each is some entry, or some entries, of a bounded size; nothing but the cursor's own block turns. Plain facts for the draws of tables: how long what is built is; texts that can be read and are young. -/
import Derived.Test.YthaobdknpgnapaaG24
import Derived.Test.YthaobdknpgnapaaEntSpecPut
import Derived.Test.YthaobdknpgnapaaTabSpec5
namespace Go.Proofs.Ythaobdknpgnapaa
open Go.RowKit
def Small (x : Ent) : Prop := x.key.size ≤ 1000 ∧ x.val.size ≤ 1000 ∧ 0 ≤ x.seq ∧ x.seq ≤ 1000000000
theorem Small.fits {x : Ent} (h : Small x) : Fits x := ⟨by have := h.1; omega, by have := h.2.1; omega, by have := h.2.2.1; omega, by have := h.2.2.2; omega⟩
theorem DCur.below {w0 w w' : World} {g : Nat} (h : DCur w0 w g) (hb : Below w.heap.size w w') : DCur w0 w' g := by
  have hl := h.lt
  obtain ⟨v, bs, i, x, h1, h2, h3, h4, h5, h6⟩ := h
  exact ⟨v, bs, i, x, h1, h2, h3, by rw [hb.block g hl]; exact h4, h5.trans (hb.mono (by omega)), h6⟩
theorem gr_below {a w w' : World} {row : Option Nat} (h : a.grownBy w row) (hb : Below w.heap.size w w') : a.grownBy w' row := by
  have := h.size
  exact ⟨hb.os.trans h.os, hb.tape.trans h.tape, hb.output.trans h.output, Nat.le_trans h.size hb.size, fun k hk hr => (hb.block k (by omega)).trans (h.block k hk hr)⟩
theorem BoxAt.block {w w' : World} {b : Nat} {x : Ent} (h : BoxAt w b x) (hb : w'.heap[b]? = w.heap[b]?) : BoxAt w' b x :=
  ⟨h.1.of_block hb, fun o => (World.frozen?_of_block (a := ⟨b, o, none⟩) hb).trans (h.2 o)⟩
set_option maxHeartbeats 1000000 in
set_option maxRecDepth 100000 in
theorem l3DrawKey_any (w0 w : World) (g : Nat) (h : DCur w0 w g) :
    Calls Try.prog 48 #[.pointer (some ⟨g, 0, none⟩)] w fun e w' => TextD w0 w g 3 e w' := by
  have hlt := h.lt
  have hdc := h.alloc (.cells #[.string ⟨#[97]⟩, .string ⟨#[97, 98]⟩, .string ⟨#[97, 98, 99]⟩, .string ⟨#[98]⟩, .string ⟨#[98, 97]⟩, .string ⟨#[122]⟩] 9)
  go_enter Try.func48, Try.ntmps48
  go_wp2_with fail
  refine (l1Below_any w0 _ g 6 hdc (by omega) (by omega)).mono ?_
  rintro e w1 ⟨x, rfl, hx0, hx1, hc, hg⟩
  have hcl : ∀ o, w1.cell? ⟨w.heap.size, o, none⟩ = (w.alloc (.cells #[.string ⟨#[97]⟩, .string ⟨#[97, 98]⟩, .string ⟨#[97, 98, 99]⟩, .string ⟨#[98]⟩, .string ⟨#[98, 97]⟩, .string ⟨#[122]⟩] 9)).cell? ⟨w.heap.size, o, none⟩ := fun o => World.cell?_of_block (a := ⟨w.heap.size, o, none⟩) (hg.block _ (by simp) (by simp; omega))
  have k0 : w1.cell? ⟨w.heap.size, 0, none⟩ = some (.string ⟨#[97]⟩) := by rw [hcl]; simp
  have k1 : w1.cell? ⟨w.heap.size, 1, none⟩ = some (.string ⟨#[97, 98]⟩) := by rw [hcl]; simp
  have k2 : w1.cell? ⟨w.heap.size, 2, none⟩ = some (.string ⟨#[97, 98, 99]⟩) := by rw [hcl]; simp
  have k3 : w1.cell? ⟨w.heap.size, 3, none⟩ = some (.string ⟨#[98]⟩) := by rw [hcl]; simp
  have k4 : w1.cell? ⟨w.heap.size, 4, none⟩ = some (.string ⟨#[98, 97]⟩) := by rw [hcl]; simp
  have k5 : w1.cell? ⟨w.heap.size, 5, none⟩ = some (.string ⟨#[122]⟩) := by rw [hcl]; simp
  have hgr : w.grownBy w1 (some g) := gr_trans (gr_alloc (gr_refl w (some g)) _) hg
  have hx : x = 0 ∨ x = 1 ∨ x = 2 ∨ x = 3 ∨ x = 4 ∨ x = 5 := by omega
  clear hcl hg hdc
  rcases hx with rfl | rfl | rfl | rfl | rfl | rfl
  all_goals
    go_wp2
    go_ret
    exact ⟨_, rfl, by decide, hc, hgr⟩
/-- What the draw of an entry leaves. -/
def EntD (w0 w : World) (g : Nat) (q : Int) (e : Ending) (w' : World) : Prop :=
  ∃ x : Ent, e = .returned (.agg #[.string x.key, .string x.val, .int .i64 x.seq, .bool x.gone]) ∧ x.key.size ≤ 1000 ∧ x.val.size ≤ 1000 ∧ x.seq = q ∧ DCur w0 w' g ∧ w.grownBy w' (some g)
theorem DCur.set {w0 w : World} {g b j : Nat} {u : Value} (h : DCur w0 w g) (hb : g < b) : DCur w0 (w.setCell ⟨b, j, none⟩ u) g :=
  h.grow (set_grown u) (fun k hk => by cases hk; exact hb)
theorem gr_set {a w : World} {row : Option Nat} {b j : Nat} {u : Value} (h : a.grownBy w row) (hb : a.heap.size ≤ b) : a.grownBy (w.setCell ⟨b, j, none⟩ u) row :=
  gr_young h (set_grown u) (fun k hk => by cases hk; exact hb)
set_option maxHeartbeats 1000000 in
set_option maxRecDepth 100000 in
theorem l3DrawEntry_any (w0 w : World) (g : Nat) (q : Int) (h : DCur w0 w g) :
    Calls Try.prog 41 #[.pointer (some ⟨g, 0, none⟩), .int .i64 q] w fun e w' => EntD w0 w g q e w' := by
  have hlt := h.lt
  have hdc := h.alloc (.cells #[.string ⟨#[]⟩, .string ⟨#[]⟩, .int .i64 0, .bool false] 26)
  have hz := box_zero w 26
  have hgr := gr_alloc (gr_refl w (some g)) (.cells #[.string ⟨#[]⟩, .string ⟨#[]⟩, .int .i64 0, .bool false] 26)
  go_enter Try.func41, Try.ntmps41
  go_wp2_with fail
  refine (l3DrawKey_any w0 _ g hdc).mono ?_
  rintro e w1 ⟨ks, rfl, hks, hc1, hg1⟩
  have hz1 := hz.block (hg1.block _ (by simp) (by simp; omega))
  have hgr1 := gr_trans hgr hg1
  clear hdc hz hg1 hgr
  go_wp2_with fail
  refine (l1DrawText_any w0 _ g hc1).mono ?_
  rintro e w2 ⟨vs, rfl, hvs, hc2, hg2⟩
  have hz2 := hz1.block (hg2.block _ hz1.1.lt (by simp; omega))
  have hgr2 := gr_trans hgr1 hg2
  clear hc1 hz1 hg2 hgr1
  go_wp2_with fail
  refine (l1Once_any w0 _ g 4 hc2 (by omega) (by omega)).mono ?_
  rintro e w3 ⟨b, rfl, hc3, hg3⟩
  have hz3 := hz2.block (hg3.block _ hz2.1.lt (by simp; omega))
  have hgr3 := gr_trans hgr2 hg3
  clear hc2 hz2 hg3 hgr2
  have hl3 := hz3.1.lt
  obtain ⟨z0, z1, z2, z3, f0, f1, f2, f3⟩ := hz3.facts
  cases b with
  | false =>
    go_wp2
    refine bodyPost_ret (v := .agg #[.string ks, .string vs, .int .i64 q, .bool false]) (by simp [results, Try.results41, go_sem, z0, z1, z2, z3, hl3]) rfl ⟨⟨ks, vs, q, false⟩, rfl, by show ks.size ≤ 1000; omega, by show vs.size ≤ 1000; omega, rfl, ?_, ?_⟩
    · exact ((((hc3.set hlt).set hlt).set hlt).set hlt).alloc _
    · exact gr_alloc (gr_set (gr_set (gr_set (gr_set hgr3 (Nat.le_refl _)) (Nat.le_refl _)) (Nat.le_refl _)) (Nat.le_refl _)) _
  | true =>
    go_wp2
    refine bodyPost_ret (v := .agg #[.string ks, .string ⟨#[]⟩, .int .i64 q, .bool true]) (by simp [results, Try.results41, go_sem, z0, z1, z2, z3, hl3]) rfl ⟨⟨ks, ⟨#[]⟩, q, true⟩, rfl, by show ks.size ≤ 1000; omega, by show (0 : Nat) ≤ 1000; omega, rfl, ?_, ?_⟩
    · exact ((((hc3.set hlt).set hlt).set hlt).set hlt).alloc _
    · exact gr_alloc (gr_set (gr_set (gr_set (gr_set hgr3 (Nat.le_refl _)) (Nat.le_refl _)) (Nat.le_refl _)) (Nat.le_refl _)) _
/-- What the draw of entries leaves. -/
def ListD (w0 w : World) (g n : Nat) (e : Ending) (w' : World) : Prop :=
  ∃ (v : Value) (es : List Ent), e = .returned v ∧ OwnE w' w.heap.size v es ∧ es.length ≤ n ∧ (∀ x ∈ es, Small x) ∧ DCur w0 w' g ∧ w.grownBy w' (some g)
theorem insE_small {es : List Ent} {x : Ent} (h : ∀ y ∈ es, Small y) (hx : Small x) : ∀ y ∈ insE es x, Small y := by
  intro y hy
  simp only [insE, List.mem_append, List.mem_cons] at hy
  rcases hy with hy | rfl | hy
  · exact h y (List.mem_of_mem_take hy)
  · exact hx
  · exact h y (List.mem_of_mem_drop hy)
theorem ownE_g {w w' : World} {B g : Nat} {v : Value} {es : List Ent} (h : OwnE w B v es) (hg : w.grownBy w' (some g)) (hB : g < B) : OwnE w' B v es :=
  row_kept h hg (fun k hk e => by have := (World.ownsRow.lt h k hk).1; simp at e; omega)
set_option maxHeartbeats 2000000 in
set_option maxRecDepth 100000 in
theorem l3DrawFrom_gen (w0 w : World) (g : Nat) (q0 : Int) (n0 : Nat) (h : DCur w0 w g) (hq00 : 1 ≤ q0) (hq01 : q0 ≤ 1000000) (hn00 : n0 ≤ 200) :
    Calls Try.prog 82 #[.pointer (some ⟨g, 0, none⟩), .int .i64 q0, .int .i64 (n0 : Int)] w fun e w' => ListD w0 w g n0 e w' := by
  have hlt := h.lt
  have hdc := h.alloc (.cells #[] 26)
  have hst := ownE_none w
  have hgr := gr_alloc (gr_refl w (some g)) (.cells #[] 26)
  go_enter Try.func82, Try.ntmps82
  go_wp2_with fail
  refine (l1Below_any w0 _ g ((n0 : Int) + 1) hdc (by omega) (by omega)).mono ?_
  rintro e w1 ⟨x, rfl, hx0, hx1, hc1, hg1⟩
  have ho1 := ownE_g hst hg1 hlt
  have hgr1 := gr_trans hgr hg1
  clear hdc hst hgr hg1
  go_wp2
  go_loopw [1, 7, 8] (fun sq o n wr => ∃ (m q : Int) (ys : List Ent), n = .int .i64 m ∧ sq = .int .i64 q ∧ 0 ≤ m ∧ 1 ≤ q ∧ q + 2 * m ≤ q0 + 2 * (n0 : Int) ∧ (ys.length : Int) + m ≤ (n0 : Int) ∧ OwnE wr w.heap.size o ys ∧ Hid (∀ y ∈ ys, Small y) ∧ DCur w0 wr g ∧ w.grownBy wr (some g)) (fun _ _ n _ => (intOf n).toNat)
  case atStart => exact ⟨x, q0, [], rfl, rfl, hx0, by omega, by omega, by simp; omega, ho1, (fun y hy => by cases hy), hc1, hgr1⟩
  case round =>
    obtain ⟨m, q, ys, rfl, rfl, hm0, hq0, hq1, hyl, ho, HS, hc, hgw⟩ := hrel
    clear ho1 hc1 hgr1
    by_cases hmp : 0 < m
    · go_wp2_with fail
      refine (l3DrawEntry_any w0 _ g q hc).mono ?_
      rintro e w2 ⟨z, rfl, hz0, hz1, hz2, hc2, hg2⟩
      have ho2 := ownE_g ho hg2 hlt
      have hgw2 := gr_trans hgw hg2
      have HS2 : Hid (∀ y ∈ insE ys z, Small y) := insE_small HS.out ⟨hz0, hz1, by omega, by omega⟩
      have hil := insE_length ys z
      have hs2 := hgw2.size
      have HZ : Hid (z.seq = q) := hz2
      have hil2 : ((insE ys z).length : Int) + (m - 1) ≤ (n0 : Int) := by omega
      clear ho hc hgw hg2 hz2 hil
      go_wp2_with fail
      refine (l3Put_any _ ys z _ ho2.rd (by omega)).mono ?_
      rintro e w3 ⟨u, rfl, ho3, hb3⟩
      have hc3 := hc2.below hb3
      have hgw3 := gr_below hgw2 hb3
      have ho3' := ho3.mono hs2
      clear ho2 hc2 hgw2 ho3 hb3
      go_wp2_with fail
      refine (l1Below_any w0 _ g 2 hc3 (by omega) (by omega)).mono ?_
      rintro e w4 ⟨y, rfl, hy0, hy1, hc4, hg4⟩
      have ho4 := ownE_g ho3' hg4 hlt
      have hgw4 := gr_trans hgw3 hg4
      clear ho3' hc3 hgw3 hg4
      go_wp2
      go_roundw
      case rel => exact ⟨m - 1, q + 1 + y, _, rfl, rfl, by omega, by omega, by omega, hil2, ho4, HS2, hc4, hgw4⟩
      case measure => simp [intOf]; omega
    · have hm1 : m = 0 := by omega
      subst hm1
      go_wp2
      go_ret
      exact ⟨_, ys, rfl, ho, by omega, HS.out, hc, hgw⟩
theorem l3DrawFrom_any (w0 w : World) (g : Nat) (h : DCur w0 w g) :
    Calls Try.prog 82 #[.pointer (some ⟨g, 0, none⟩), .int .i64 1, .int .i64 10] w fun e w' => ListD w0 w g 10 e w' := l3DrawFrom_gen w0 w g 1 10 h (by omega) (by omega) (by omega)
end Go.Proofs.Ythaobdknpgnapaa
namespace Go.Proofs.Ythaobdknpgnapaa
open Go.RowKit
theorem packEP_len {last : ByteArray} {e : Ent} (h : PkE e) : (packE last e).length ≤ 2036 := by
  have hs := stpP_le h
  obtain ⟨p1, p2, p3, p4⟩ := h
  have hc := com_le last e.key
  have h1 := enc_len9 (com last e.key) (by omega)
  have h2 := enc_len9 (e.key.size - com last e.key) (by omega)
  have h3 := enc_len9 (stp e) (by omega)
  have h4 := enc_len9 e.val.size (by omega)
  unfold packE
  simp only [List.length_append, List.length_drop, size_length]
  omega
theorem packFP_len : ∀ (es : List Ent) (i : Nat) (last : ByteArray), (∀ e ∈ es, PkE e) → (packF i last es).length ≤ 2036 * es.length
  | [], _, _, _ => by simp [packF]
  | e :: r, i, last, h => by
    have h1 := packEP_len (last := ahead i last) (h e List.mem_cons_self)
    have h2 := packFP_len r (i + 1) e.key (fun x hx => h x (List.mem_cons_of_mem _ hx))
    rw [packF, List.length_append, List.length_cons]
    omega
theorem packAP_len {es : List Ent} (h : ∀ e ∈ es, PkE e) (hn : es.length ≤ 8) : (packA es).length ≤ 20000 := by
  have h1 := packFP_len es 0 ⟨#[]⟩ h
  have h3 := enc_len9 es.length (by omega)
  unfold packA
  rw [List.length_append]
  omega
theorem blkF_size {es : List Ent} (h : ∀ e ∈ es, PkE e) : ∀ (n i : Nat), ∀ s ∈ blkF es n i, s.size ≤ 20000
  | 0, _, s, hs => by simp [blkF] at hs
  | n + 1, i, s, hs => by
    rw [blkF, List.mem_cons] at hs
    rcases hs with rfl | hs
    · have := packAP_len (es := chunk es i) (fun e he => h e (List.mem_of_mem_drop (List.mem_of_mem_take he))) (by unfold chunk; rw [List.length_take]; omega)
      simpa [ByteArray.size] using this
    · exact blkF_size h n (i + 8) s hs
theorem blksL_size {es : List Ent} (h : ∀ e ∈ es, PkE e) : ∀ s ∈ blksL es, s.size ≤ 20000 := blkF_size h _ _
theorem blksL_pos {es : List Ent} (h : 0 < es.length) : 0 < (blksL es).length := by unfold blksL; rw [blkF_len]; omega
theorem bitsL_pos {es : List Ent} (h : 0 < es.length) : 0 < (bitsL es).length := by
  have hm : mk1 es[0].key ∈ bitsL es := (bitsL_mem es _).2 ⟨es[0], List.getElem_mem h, (marksL_mem _ _).2 (.inr rfl)⟩
  exact List.length_pos_of_mem hm
/-- Texts that can be read and lie in a block from B on. -/
def YS (w : World) (B : Nat) (v : Value) (ss : List ByteArray) : Prop :=
  ∃ a cap, v = .slice a ss.length cap ∧ ss.length ≤ cap ∧ cap ≤ maxLen ∧
    (ss = [] ∨ ∃ b off, B ≤ b ∧ a = some ⟨b, off, none⟩ ∧ ∀ i (h : i < ss.length), w.cell? ⟨b, off + i, none⟩ = some (.string ss[i]))
theorem YS.rd {w : World} {B : Nat} {v : Value} {ss : List ByteArray} (h : YS w B v ss) : RdS w v ss := by
  obtain ⟨a, cap, hv, h1, h2, h3⟩ := h
  refine ⟨a, cap, hv, h1, h2, ?_⟩
  rcases h3 with h3 | ⟨b, off, _, ha, hc⟩
  · exact .inl h3
  · exact .inr ⟨b, off, ha, hc⟩
theorem OwnS.young {w : World} {B : Nat} {v : Value} {ss : List ByteArray} (h : OwnS w B v ss) : YS w B v ss := by
  have h' := h
  rcases h.2 with ⟨rfl, h0⟩ | ⟨g, cap, cur, rfl, hb, hg, hn, hc, hs, ht⟩
  · have : ss = [] := List.length_eq_zero_iff.1 h0
    subst this
    exact ⟨none, 0, rfl, Nat.le_refl _, Nat.zero_le _, .inl rfl⟩
  · refine ⟨some ⟨g, 0, none⟩, cap, rfl, hn, hc, .inr ⟨g, 0, hb, rfl, fun i hi => ?_⟩⟩
    have := h'.cellAt i (by omega)
    rw [SV_get ss i hi] at this
    simpa using this
theorem YS.blocks {w w' : World} {B : Nat} {v : Value} {ss : List ByteArray} (h : YS w B v ss) (hb : ∀ b, B ≤ b → b < w.heap.size → w'.heap[b]? = w.heap[b]?) : YS w' B v ss := by
  obtain ⟨a, cap, hv, h1, h2, h3⟩ := h
  refine ⟨a, cap, hv, h1, h2, ?_⟩
  rcases h3 with h3 | ⟨b, off, hB, ha, hc⟩
  · exact .inl h3
  · exact .inr ⟨b, off, hB, ha, fun i hi => (World.cell?_of_block (a := ⟨b, off + i, none⟩) (hb b hB (World.block_lt_of_cell? w _ (hc i hi)))).trans (hc i hi)⟩
theorem YS.g {w w' : World} {B g : Nat} {v : Value} {ss : List ByteArray} (h : YS w B v ss) (hg : w.grownBy w' (some g)) (hB : g < B) : YS w' B v ss :=
  h.blocks (fun b hb hl => hg.block b hl (by simp; omega))
theorem YS.below {w w' : World} {B : Nat} {v : Value} {ss : List ByteArray} (h : YS w B v ss) (hb : Below w.heap.size w w') : YS w' B v ss :=
  h.blocks (fun b _ hl => hb.block b hl)
theorem YS.mono {w : World} {B B' : Nat} {v : Value} {ss : List ByteArray} (h : YS w B v ss) (hB : B' ≤ B) : YS w B' v ss := by
  obtain ⟨a, cap, hv, h1, h2, h3⟩ := h
  refine ⟨a, cap, hv, h1, h2, ?_⟩
  rcases h3 with h3 | ⟨b, off, hb, r⟩
  · exact .inl h3
  · exact .inr ⟨b, off, Nat.le_trans hB hb, r⟩
/-- The tail of young texts, as a slice from 1 on makes it. -/
theorem YS.tail {w : World} {B b off cap : Nat} {ss : List ByteArray} (h : YS w B (.slice (some ⟨b, off, none⟩) ss.length cap) ss) (h0 : 0 < ss.length) (hc : 1 < cap) : YS w B (.slice (some ⟨b, off + 1, none⟩) (ss.length - 1) (cap - 1)) (ss.drop 1) := by
  obtain ⟨a', cap', hv, h1, h2, h3⟩ := h
  simp only [Value.slice.injEq] at hv
  obtain ⟨rfl, _, rfl⟩ := hv
  rcases h3 with rfl | ⟨b', off', hB, ha, hcell⟩
  · simp at h0
  · simp only [Option.some.injEq, Addr.mk.injEq] at ha
    obtain ⟨rfl, rfl, _⟩ := ha
    refine ⟨_, _, by rw [List.length_drop], by rw [List.length_drop]; omega, by omega, .inr ⟨b, off + 1, hB, rfl, fun i hi => ?_⟩⟩
    rw [List.length_drop] at hi
    have := hcell (i + 1) (by omega)
    rw [show off + 1 + i = off + (i + 1) by omega, this]
    simp
/-- The tail of one text is none. -/
theorem ys_one {w : World} {B : Nat} {a : Option Addr} {cap : Nat} {ss : List ByteArray} (h1 : ss.length = 1) (hc : cap ≤ maxLen) : YS w B (.slice a 0 cap) (ss.drop 1) := by
  have : ss.drop 1 = [] := List.drop_eq_nil_of_le (by omega)
  rw [this]
  exact ⟨a, cap, rfl, Nat.zero_le _, hc, .inl rfl⟩
theorem ownI_g {w w' : World} {B g : Nat} {v : Value} {ns : List Int} (h : OwnI w B v ns) (hg : w.grownBy w' (some g)) (hB : g < B) : OwnI w' B v ns :=
  row_kept h hg (fun k hk e => by have := (World.ownsRow.lt h k hk).1; simp at e; omega)
theorem ownS_g {w w' : World} {B g : Nat} {v : Value} {ss : List ByteArray} (h : OwnS w B v ss) (hg : w.grownBy w' (some g)) (hB : g < B) : OwnS w' B v ss :=
  row_kept h hg (fun k hk e => by have := (World.ownsRow.lt h k hk).1; simp at e; omega)
/-- What a draw of a table leaves. -/
def TabD (w0 w : World) (g : Nat) (e : Ending) (w' : World) : Prop :=
  ∃ (T : Tbl) (vb vk : Value), e = .returned (.agg #[.string T.first, .string T.last, vb, vk]) ∧ OwnI w' w.heap.size vb T.bits ∧ YS w' w.heap.size vk T.blocks ∧ (∀ s ∈ T.blocks, s.size ≤ 1000000) ∧ DCur w0 w' g ∧ w.grownBy w' (some g)
theorem YS.set {w : World} {B c j : Nat} {v u : Value} {ss : List ByteArray} (h : YS w B v ss) (hc : c < B) : YS (w.setCell ⟨c, j, none⟩ u) B v ss :=
  h.blocks (fun b hb _ => heap_setCell_other w ⟨c, j, none⟩ b u (by intro e; simp at e; omega))
theorem boxT_set0 {w : World} {b : Nat} {f f' l : ByteArray} {vb vk : Value} (h : BoxT w b f l vb vk) : BoxT (w.setCell ⟨b, 0, none⟩ (.string f')) b f' l vb vk := by
  unfold BoxT
  rw [heap_setCell_same w b 0 _ _ _ h]
  rfl
theorem YS.tail2 {w : World} {B b cap : Nat} {ss : List ByteArray} (h : YS w B (.slice (some ⟨b, 0, none⟩) ss.length cap) ss) (h0 : 0 < ss.length) (hc : 1 < cap) : YS w B (.slice (some ⟨b, 1, none⟩) (ss.drop 1).length (cap - 1)) (ss.drop 1) := by
  have := h.tail h0 hc
  rwa [List.length_drop]
theorem ownS_stored {w : World} {B g cap : Nat} {ss : List ByteArray} (h : OwnS w B (.slice (some ⟨g, 0, none⟩) ss.length cap) ss) (j : Nat) (s : ByteArray) : OwnS (w.setCell ⟨g, j, none⟩ (.string s)) B (.slice (some ⟨g, 0, none⟩) (ss.set j s).length cap) (ss.set j s) := by
  have h2 := (World.ownsRow.stored h j (.string s)).1
  rw [← SV_set] at h2
  unfold OwnS
  rw [List.length_set]
  exact h2
theorem set_sizes {ss : List ByteArray} {j : Nat} {s : ByteArray} {n : Nat} (h : ∀ x ∈ ss, x.size ≤ n) (hs : s.size ≤ n) : ∀ x ∈ ss.set j s, x.size ≤ n := fun x hx => by
  rcases List.mem_or_eq_of_mem_set hx with h1 | rfl
  · exact h x h1
  · exact hs
theorem Small.pk {x : Ent} (h : Small x) : PkE x := h
end Go.Proofs.Ythaobdknpgnapaa
