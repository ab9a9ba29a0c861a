/- The contracts of the draws of a key, of an entry and of entries with rising numbers: each is some entry, or some entries, of a bounded size; nothing but the cursor's own block turns. -/
import Derived.Test.YthaobdknpgnapaaDrawText
import Derived.Test.YthaobdknpgnapaaEntSpecPut
namespace Go.Proofs.Ythaobdknpgnapaa
open Go.RowKit
def Small (x : Ent) : Prop := x.key.size ≤ 1000 ∧ x.val.size ≤ 1000 ∧ 0 ≤ x.seq ∧ x.seq ≤ 1000000000
theorem Small.fits {x : Ent} (h : Small x) : Fits x := ⟨by have := h.1; omega, by have := h.2.1; omega, by have := h.2.2.1; omega, by have := h.2.2.2; omega⟩
theorem DCur.below {w0 w w' : World} {g : Nat} (h : DCur w0 w g) (hb : Below w.heap.size w w') : DCur w0 w' g := by
  have hl := h.lt
  obtain ⟨v, bs, i, x, h1, h2, h3, h4, h5, h6⟩ := h
  exact ⟨v, bs, i, x, h1, h2, h3, by rw [hb.block g hl]; exact h4, h5.trans (hb.mono (by omega)), h6⟩
theorem gr_below {a w w' : World} {row : Option Nat} (h : a.grownBy w row) (hb : Below w.heap.size w w') : a.grownBy w' row := by
  have := h.size
  exact ⟨hb.os.trans h.os, hb.tape.trans h.tape, hb.output.trans h.output, Nat.le_trans h.size hb.size, fun k hk hr => (hb.block k (by omega)).trans (h.block k hk hr)⟩
theorem BoxAt.block {w w' : World} {b : Nat} {x : Ent} (h : BoxAt w b x) (hb : w'.heap[b]? = w.heap[b]?) : BoxAt w' b x :=
  ⟨h.1.of_block hb, fun o => (World.frozen?_of_block (a := ⟨b, o, none⟩) hb).trans (h.2 o)⟩
set_option maxHeartbeats 1000000 in
set_option maxRecDepth 100000 in
theorem l3DrawKey_any (w0 w : World) (g : Nat) (h : DCur w0 w g) :
    Calls Try.prog 48 #[.pointer (some ⟨g, 0, none⟩)] w fun e w' => TextD w0 w g 3 e w' := by
  have hlt := h.lt
  have hdc := h.alloc (.cells #[.string ⟨#[97]⟩, .string ⟨#[97, 98]⟩, .string ⟨#[97, 98, 99]⟩, .string ⟨#[98]⟩, .string ⟨#[98, 97]⟩, .string ⟨#[122]⟩] 9)
  go_enter Try.func48, Try.ntmps48
  go_wp2_with fail
  refine (l1Below_any w0 _ g 6 hdc (by omega) (by omega)).mono ?_
  rintro e w1 ⟨x, rfl, hx0, hx1, hc, hg⟩
  have hcl : ∀ o, w1.cell? ⟨w.heap.size, o, none⟩ = (w.alloc (.cells #[.string ⟨#[97]⟩, .string ⟨#[97, 98]⟩, .string ⟨#[97, 98, 99]⟩, .string ⟨#[98]⟩, .string ⟨#[98, 97]⟩, .string ⟨#[122]⟩] 9)).cell? ⟨w.heap.size, o, none⟩ := fun o => World.cell?_of_block (a := ⟨w.heap.size, o, none⟩) (hg.block _ (by simp) (by simp; omega))
  have k0 : w1.cell? ⟨w.heap.size, 0, none⟩ = some (.string ⟨#[97]⟩) := by rw [hcl]; simp
  have k1 : w1.cell? ⟨w.heap.size, 1, none⟩ = some (.string ⟨#[97, 98]⟩) := by rw [hcl]; simp
  have k2 : w1.cell? ⟨w.heap.size, 2, none⟩ = some (.string ⟨#[97, 98, 99]⟩) := by rw [hcl]; simp
  have k3 : w1.cell? ⟨w.heap.size, 3, none⟩ = some (.string ⟨#[98]⟩) := by rw [hcl]; simp
  have k4 : w1.cell? ⟨w.heap.size, 4, none⟩ = some (.string ⟨#[98, 97]⟩) := by rw [hcl]; simp
  have k5 : w1.cell? ⟨w.heap.size, 5, none⟩ = some (.string ⟨#[122]⟩) := by rw [hcl]; simp
  have hgr : w.grownBy w1 (some g) := gr_trans (gr_alloc (gr_refl w (some g)) _) hg
  have hx : x = 0 ∨ x = 1 ∨ x = 2 ∨ x = 3 ∨ x = 4 ∨ x = 5 := by omega
  clear hcl hg hdc
  rcases hx with rfl | rfl | rfl | rfl | rfl | rfl
  all_goals
    go_wp2
    go_ret
    exact ⟨_, rfl, by decide, hc, hgr⟩
/-- What the draw of an entry leaves. -/
def EntD (w0 w : World) (g : Nat) (q : Int) (e : Ending) (w' : World) : Prop :=
  ∃ x : Ent, e = .returned (.agg #[.string x.key, .string x.val, .int .i64 x.seq, .bool x.gone]) ∧ x.key.size ≤ 1000 ∧ x.val.size ≤ 1000 ∧ x.seq = q ∧ DCur w0 w' g ∧ w.grownBy w' (some g)
theorem DCur.set {w0 w : World} {g b j : Nat} {u : Value} (h : DCur w0 w g) (hb : g < b) : DCur w0 (w.setCell ⟨b, j, none⟩ u) g :=
  h.grow (set_grown u) (fun k hk => by cases hk; exact hb)
theorem gr_set {a w : World} {row : Option Nat} {b j : Nat} {u : Value} (h : a.grownBy w row) (hb : a.heap.size ≤ b) : a.grownBy (w.setCell ⟨b, j, none⟩ u) row :=
  gr_young h (set_grown u) (fun k hk => by cases hk; exact hb)
set_option maxHeartbeats 1000000 in
set_option maxRecDepth 100000 in
theorem l3DrawEntry_any (w0 w : World) (g : Nat) (q : Int) (h : DCur w0 w g) :
    Calls Try.prog 41 #[.pointer (some ⟨g, 0, none⟩), .int .i64 q] w fun e w' => EntD w0 w g q e w' := by
  have hlt := h.lt
  have hdc := h.alloc (.cells #[.string ⟨#[]⟩, .string ⟨#[]⟩, .int .i64 0, .bool false] 26)
  have hz := box_zero w 26
  have hgr := gr_alloc (gr_refl w (some g)) (.cells #[.string ⟨#[]⟩, .string ⟨#[]⟩, .int .i64 0, .bool false] 26)
  go_enter Try.func41, Try.ntmps41
  go_wp2_with fail
  refine (l3DrawKey_any w0 _ g hdc).mono ?_
  rintro e w1 ⟨ks, rfl, hks, hc1, hg1⟩
  have hz1 := hz.block (hg1.block _ (by simp) (by simp; omega))
  have hgr1 := gr_trans hgr hg1
  clear hdc hz hg1 hgr
  go_wp2_with fail
  refine (l1DrawText_any w0 _ g hc1).mono ?_
  rintro e w2 ⟨vs, rfl, hvs, hc2, hg2⟩
  have hz2 := hz1.block (hg2.block _ hz1.1.lt (by simp; omega))
  have hgr2 := gr_trans hgr1 hg2
  clear hc1 hz1 hg2 hgr1
  go_wp2_with fail
  refine (l1Once_any w0 _ g 4 hc2 (by omega) (by omega)).mono ?_
  rintro e w3 ⟨b, rfl, hc3, hg3⟩
  have hz3 := hz2.block (hg3.block _ hz2.1.lt (by simp; omega))
  have hgr3 := gr_trans hgr2 hg3
  clear hc2 hz2 hg3 hgr2
  have hl3 := hz3.1.lt
  obtain ⟨z0, z1, z2, z3, f0, f1, f2, f3⟩ := hz3.facts
  cases b with
  | false =>
    go_wp2
    refine bodyPost_ret (v := .agg #[.string ks, .string vs, .int .i64 q, .bool false]) (by simp [results, Try.results41, go_sem, z0, z1, z2, z3, hl3]) rfl ⟨⟨ks, vs, q, false⟩, rfl, by show ks.size ≤ 1000; omega, by show vs.size ≤ 1000; omega, rfl, ?_, ?_⟩
    · exact ((((hc3.set hlt).set hlt).set hlt).set hlt).alloc _
    · exact gr_alloc (gr_set (gr_set (gr_set (gr_set hgr3 (Nat.le_refl _)) (Nat.le_refl _)) (Nat.le_refl _)) (Nat.le_refl _)) _
  | true =>
    go_wp2
    refine bodyPost_ret (v := .agg #[.string ks, .string ⟨#[]⟩, .int .i64 q, .bool true]) (by simp [results, Try.results41, go_sem, z0, z1, z2, z3, hl3]) rfl ⟨⟨ks, ⟨#[]⟩, q, true⟩, rfl, by show ks.size ≤ 1000; omega, by show (0 : Nat) ≤ 1000; omega, rfl, ?_, ?_⟩
    · exact ((((hc3.set hlt).set hlt).set hlt).set hlt).alloc _
    · exact gr_alloc (gr_set (gr_set (gr_set (gr_set hgr3 (Nat.le_refl _)) (Nat.le_refl _)) (Nat.le_refl _)) (Nat.le_refl _)) _
/-- What the draw of entries leaves. -/
def ListD (w0 w : World) (g n : Nat) (e : Ending) (w' : World) : Prop :=
  ∃ (v : Value) (es : List Ent), e = .returned v ∧ OwnE w' w.heap.size v es ∧ es.length ≤ n ∧ (∀ x ∈ es, Small x) ∧ DCur w0 w' g ∧ w.grownBy w' (some g)
theorem insE_small {es : List Ent} {x : Ent} (h : ∀ y ∈ es, Small y) (hx : Small x) : ∀ y ∈ insE es x, Small y := by
  intro y hy
  simp only [insE, List.mem_append, List.mem_cons] at hy
  rcases hy with hy | rfl | hy
  · exact h y (List.mem_of_mem_take hy)
  · exact hx
  · exact h y (List.mem_of_mem_drop hy)
theorem ownE_g {w w' : World} {B g : Nat} {v : Value} {es : List Ent} (h : OwnE w B v es) (hg : w.grownBy w' (some g)) (hB : g < B) : OwnE w' B v es :=
  row_kept h hg (fun k hk e => by have := (World.ownsRow.lt h k hk).1; simp at e; omega)
set_option maxHeartbeats 2000000 in
set_option maxRecDepth 100000 in
theorem l3DrawFrom_gen (w0 w : World) (g : Nat) (q0 : Int) (n0 : Nat) (h : DCur w0 w g) (hq00 : 1 ≤ q0) (hq01 : q0 ≤ 1000000) (hn00 : n0 ≤ 200) :
    Calls Try.prog 82 #[.pointer (some ⟨g, 0, none⟩), .int .i64 q0, .int .i64 (n0 : Int)] w fun e w' => ListD w0 w g n0 e w' := by
  have hlt := h.lt
  have hdc := h.alloc (.cells #[] 26)
  have hst := ownE_none w
  have hgr := gr_alloc (gr_refl w (some g)) (.cells #[] 26)
  go_enter Try.func82, Try.ntmps82
  go_wp2_with fail
  refine (l1Below_any w0 _ g ((n0 : Int) + 1) hdc (by omega) (by omega)).mono ?_
  rintro e w1 ⟨x, rfl, hx0, hx1, hc1, hg1⟩
  have ho1 := ownE_g hst hg1 hlt
  have hgr1 := gr_trans hgr hg1
  clear hdc hst hgr hg1
  go_wp2
  go_loopw [1, 7, 8] (fun sq o n wr => ∃ (m q : Int) (ys : List Ent), n = .int .i64 m ∧ sq = .int .i64 q ∧ 0 ≤ m ∧ 1 ≤ q ∧ q + 2 * m ≤ q0 + 2 * (n0 : Int) ∧ (ys.length : Int) + m ≤ (n0 : Int) ∧ OwnE wr w.heap.size o ys ∧ Hid (∀ y ∈ ys, Small y) ∧ DCur w0 wr g ∧ w.grownBy wr (some g)) (fun _ _ n _ => (intOf n).toNat)
  case atStart => exact ⟨x, q0, [], rfl, rfl, hx0, by omega, by omega, by simp; omega, ho1, (fun y hy => by cases hy), hc1, hgr1⟩
  case round =>
    obtain ⟨m, q, ys, rfl, rfl, hm0, hq0, hq1, hyl, ho, HS, hc, hgw⟩ := hrel
    clear ho1 hc1 hgr1
    by_cases hmp : 0 < m
    · go_wp2_with fail
      refine (l3DrawEntry_any w0 _ g q hc).mono ?_
      rintro e w2 ⟨z, rfl, hz0, hz1, hz2, hc2, hg2⟩
      have ho2 := ownE_g ho hg2 hlt
      have hgw2 := gr_trans hgw hg2
      have HS2 : Hid (∀ y ∈ insE ys z, Small y) := insE_small HS.out ⟨hz0, hz1, by omega, by omega⟩
      have hil := insE_length ys z
      have hs2 := hgw2.size
      have HZ : Hid (z.seq = q) := hz2
      have hil2 : ((insE ys z).length : Int) + (m - 1) ≤ (n0 : Int) := by omega
      clear ho hc hgw hg2 hz2 hil
      go_wp2_with fail
      refine (l3Put_any _ ys z _ ho2.rd (by omega)).mono ?_
      rintro e w3 ⟨u, rfl, ho3, hb3⟩
      have hc3 := hc2.below hb3
      have hgw3 := gr_below hgw2 hb3
      have ho3' := ho3.mono hs2
      clear ho2 hc2 hgw2 ho3 hb3
      go_wp2_with fail
      refine (l1Below_any w0 _ g 2 hc3 (by omega) (by omega)).mono ?_
      rintro e w4 ⟨y, rfl, hy0, hy1, hc4, hg4⟩
      have ho4 := ownE_g ho3' hg4 hlt
      have hgw4 := gr_trans hgw3 hg4
      clear ho3' hc3 hgw3 hg4
      go_wp2
      go_roundw
      case rel => exact ⟨m - 1, q + 1 + y, _, rfl, rfl, by omega, by omega, by omega, hil2, ho4, HS2, hc4, hgw4⟩
      case measure => simp [intOf]; omega
    · have hm1 : m = 0 := by omega
      subst hm1
      go_wp2
      go_ret
      exact ⟨_, ys, rfl, ho, by omega, HS.out, hc, hgw⟩
theorem l3DrawFrom_any (w0 w : World) (g : Nat) (h : DCur w0 w g) :
    Calls Try.prog 82 #[.pointer (some ⟨g, 0, none⟩), .int .i64 1, .int .i64 10] w fun e w' => ListD w0 w g 10 e w' := l3DrawFrom_gen w0 w g 1 10 h (by omega) (by omega) (by omega)
end Go.Proofs.Ythaobdknpgnapaa
