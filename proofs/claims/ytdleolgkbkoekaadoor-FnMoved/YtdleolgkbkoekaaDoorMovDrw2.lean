/- The draw of a right move's text. -/
-- UNF Gen
import Derived.Test.YtdleolgkbkoekaaDoorMovDrw1
import Derived.Test.YtdleolgkbkoekaaDoorMovSum
namespace Go.Proofs.YtdleolgkbkoekaaDoor
open Go.RowKit
/-- A bank that can be read and whose rows lie in blocks of numbers from number lo on. -/
structure FrBk (w : World) (lo : Nat) (X : BkX) : Prop where
  rd : RdBk w X
  fm : ∀ a n c, X.vm = .slice (some a) n c → lo ≤ a.block ∧ ∃ cs f, w.heap[a.block]? = some (.cells cs 2 f)
  fc : ∀ a n c, X.vc = .slice (some a) n c → lo ≤ a.block ∧ ∃ cs f, w.heap[a.block]? = some (.cells cs 2 f)
theorem rdI_keep {w w' : World} {lo : Nat} {v : Value} {ns : List Int} (h : RdI w v ns) (hf : ∀ a n c, v = .slice (some a) n c → lo ≤ a.block ∧ ∃ cs f, w.heap[a.block]? = some (.cells cs 2 f)) (hk : ∀ k cs f, lo ≤ k → w.heap[k]? = some (.cells cs 2 f) → w'.heap[k]? = w.heap[k]?) : RdI w' v ns := by
  obtain ⟨a, cap, rfl, h1, h2, h3, h4⟩ := h
  refine ⟨a, cap, rfl, h1, h2, h3, ?_⟩
  rcases h4 with h4 | ⟨b, off, rfl, hc⟩
  · exact .inl h4
  · refine .inr ⟨b, off, rfl, fun i hi => ?_⟩
    have h := hc i hi
    obtain ⟨h5, cs, f, h6⟩ := hf _ _ _ rfl
    rw [← h]
    exact World.cell?_of_block (hk b cs f h5 h6)
theorem FrBk.keepT {w w' : World} {lo : Nat} {X : BkX} (h : FrBk w lo X) (hk : ∀ k cs f, lo ≤ k → w.heap[k]? = some (.cells cs 2 f) → w'.heap[k]? = w.heap[k]?) : FrBk w' lo X :=
  ⟨⟨rdI_keep h.rd.mon h.fm hk, rdI_keep h.rd.cnt h.fc hk⟩, fun a n c e => by
    obtain ⟨h1, cs, f, h2⟩ := h.fm a n c e
    exact ⟨h1, cs, f, (hk _ cs f h1 h2).trans h2⟩, fun a n c e => by
    obtain ⟨h1, cs, f, h2⟩ := h.fc a n c e
    exact ⟨h1, cs, f, (hk _ cs f h1 h2).trans h2⟩⟩
theorem FrBk.keep {w w' : World} {lo : Nat} {X : BkX} (h : FrBk w lo X) (hk : ∀ k, lo ≤ k → k < w.heap.size → w'.heap[k]? = w.heap[k]?) : FrBk w' lo X := h.keepT (fun k _ _ h1 h2 => hk k h1 (Array.getElem?_eq_some_iff.1 h2).1)
theorem FrBk.below {w w' : World} {lo : Nat} {X : BkX} (h : FrBk w lo X) (hb : Below w.heap.size w w') : FrBk w' lo X := h.keep (fun k _ hk => hb.block k hk)
theorem FrBk.gr {w w' : World} {lo g : Nat} {X : BkX} (h : FrBk w lo X) (hg : w.grownBy w' (some g)) (hl : g < lo) : FrBk w' lo X :=
  h.keep (fun k h1 hk => hg.block k hk (fun e => by have e2 := Option.some.inj e; omega))
theorem FrBk.mono {w : World} {lo lo' : Nat} {X : BkX} (h : FrBk w lo X) (hl : lo' ≤ lo) : FrBk w lo' X := ⟨h.rd, fun a n c e => ⟨Nat.le_trans hl (h.fm a n c e).1, (h.fm a n c e).2⟩, fun a n c e => ⟨Nat.le_trans hl (h.fc a n c e).1, (h.fc a n c e).2⟩⟩
/-- A store into a bank's box. -/
theorem FrBk.box {w : World} {lo b j : Nat} {X : BkX} {u u0 u1 : Value} (h : FrBk w lo X) (hb : BoxBk w b u0 u1) : FrBk (w.setCell ⟨b, j, none⟩ u) lo X :=
  h.keepT (fun k cs f _ h2 => heap_setCell_other w ⟨b, j, none⟩ k u (fun e => by
    have e : k = b := e
    subst e
    unfold BoxBk at hb
    rw [hb] at h2
    injection h2 with h2
    injection h2 with _ h3
    exact absurd h3 (by decide)))
theorem own_from {w : World} {B z n : Nat} {v : Value} {xs : List Value} (h : w.ownsRow B 2 z v n xs) : ∀ a m c, v = .slice (some a) m c → B ≤ a.block ∧ ∃ cs f, w.heap[a.block]? = some (.cells cs 2 f) := by
  intro a m c e
  subst e
  rcases h.2 with ⟨hv, _⟩ | ⟨g, cap, cur, hv, h1, h2, _⟩
  · cases hv
  · injection hv with h3 _ _
    injection h3 with h3
    subst h3
    exact ⟨h1, _, _, h2⟩
theorem OwnBk.fr {w : World} {B : Nat} {X : BkX} (h : OwnBk w B X) : FrBk w B X := ⟨h.rd, own_from h.mon, own_from h.cnt⟩
theorem BoxBk.gr {W W' : World} {b g : Nat} {u0 u1 : Value} (h : BoxBk W b u0 u1) (hg : W.grownBy W' (some g)) (hn : b ≠ g) : BoxBk W' b u0 u1 := h.of_block (hg.block b h.lt (fun e => hn (by simpa using e)))
theorem OwnBk.gr {W W' : World} {B g : Nat} {X : BkX} (h : OwnBk W B X) (hg : W.grownBy W' (some g)) (hl : g < B) : OwnBk W' B X :=
  h.touch (Touch.of_grown (bs := [g]) hg (fun k hk => by rw [← Option.some.inj hk]; simp)) (fun k hk e => by have h1 := (h.bound hk).1; have h2 := List.mem_singleton.1 e; omega)
theorem txt_end {w0 w V : World} {g n : Nat} {s : ByteArray} (K : Keep w0 w g V) (hs : s.size ≤ n) : TextD w0 w g n (.returned (.string s)) V := ⟨s, rfl, hs, K.1, K.2.1⟩
set_option maxHeartbeats 8000000 in
set_option maxRecDepth 100000 in
theorem drawRight_any (X : BkX) (lo : Nat) (w0 w : World) (g : Nat) (h : DCur w0 w g) (hx : FrBk w lo X) (hl : g < lo) :
    Calls Tryd.prog 31 #[.pointer (some ⟨g, 0, none⟩), .agg #[X.vm, X.vc]] w fun e w' => TextD w0 w g 87 e w' := by
  obtain ⟨xm, xc, mon, cnt⟩ := X
  obtain ⟨ma, mc, e1, -, -⟩ := rdI_slice hx.rd.mon
  obtain ⟨qa, qc, e2, hq1, hq2⟩ := rdI_slice hx.rd.cnt
  simp only at e1 e2 hq1
  subst e1
  subst e2
  have b0 := below1 w (.cells #[.slice ma mon.length mc, .slice qa cnt.length qc] 26)
  have K := (Keep.start h).below b0
  have fr := hx.below b0
  have bX := boxBk_new w (.slice ma mon.length mc) (.slice qa cnt.length qc)
  have ngX : w.heap.size ≠ g := by have := h.lt; omega
  have HGL : Hid (g < w.heap.size) := h.lt
  have HL : Hid (g < lo) := hl
  clear h hx b0 hl
  generalize mon.length = n1 at fr bX K ⊢
  generalize hn2 : cnt.length = n2 at fr bX K hq1 ⊢
  have HN2 : Hid (cnt.length = n2) := hn2
  clear hn2
  go_enter Tryd.func31, Tryd.ntmps31
  go_wp2_with fail
  generalize w.alloc (.cells #[.slice ma n1 mc, .slice qa n2 qc] 26) = V0 at K fr bX ⊢
  refine (l1Below_any w0 _ g 3 K.1 (by omega) (by omega)).mono ?_
  rintro e V1 ⟨a, rfl, h0a, h1a, hc, hg⟩
  replace K := K.own hc hg
  replace fr := fr.gr hg HL.out
  replace bX := bX.gr hg ngX
  clear hc hg
  go_wp2_with fail
  refine (l1Below_any w0 _ g 4 K.1 (by omega) (by omega)).mono ?_
  rintro e V2 ⟨b, rfl, h0b, h1b, hc, hg⟩
  replace K := K.own hc hg
  replace fr := fr.gr hg HL.out
  replace bX := bX.gr hg ngX
  clear hc hg h0b h1b
  go_wp2_with fail
  refine (l1Below_any w0 _ g 400 K.1 (by omega) (by omega)).mono ?_
  rintro e V3 ⟨c, rfl, h0c, h1c, hc, hg⟩
  replace K := K.own hc hg
  replace fr := fr.gr hg HL.out
  replace bX := bX.gr hg ngX
  clear hc hg
  have hc1a : -9223372036854775808 ≤ 1 + c := by omega
  have hc1b : 1 + c ≤ 9223372036854775807 := by omega
  obtain ⟨k, rfl⟩ := Int.eq_ofNat_of_zero_le h0a
  have hk : k < 3 := by omega
  have hmb := bX.lt
  have bM := below1 V3 (.cells #[.int .i64 (k : Int), .int .i64 b, .int .i64 (1 + c), .int .i64 0] 28)
  have yM := box4_new V3 28 ⟨(k : Int), b, 1 + c, 0⟩
  simp only at yM
  have K3 := K
  replace K := K.below bM
  have fr4 := fr.below bM
  have bX4 := bX.below bM
  obtain ⟨x0, x1, -, -⟩ := bX4.facts
  obtain ⟨p0, p1, p2, p3⟩ := yM.facts
  obtain ⟨r0, r1, r2, r3⟩ := yM.fz
  simp only at p0 p1 p2 p3
  clear bM h0a h1a bX
  by_cases h8 : n2 = 8
  · subst h8
    obtain ⟨pb, po, rfl, q⟩ := fr4.rd.cnt.at k (by show k < cnt.length; rw [HN2.out]; omega)
    generalize cnt[k]'(by rw [HN2.out]; omega) = z at q
    have hk8 : k < 8 := by omega
    go_wp2_with fail
    refine (specShowMove_any ⟨(k : Int), b, 1 + c, z⟩ _).mono ?_
    have hz := shwS_size ⟨(k : Int), b, 1 + c, z⟩
    generalize shwS ⟨(k : Int), b, 1 + c, z⟩ = s at hz ⊢
    rintro e V5 ⟨rfl, hb5⟩
    have HF : Hid (TextD _ _ _ _ _ _) := txt_end ((K3.below (below1 V3 (.cells #[.int .i64 (k : Int), .int .i64 b, .int .i64 (1 + c), .int .i64 z] 28))).below hb5) hz
    clear yM K K3 bX4 hb5 x0 x1 p0 p1 p2 p3 r0 r1 r2 r3 fr fr4 q
    go_wp2
    go_ret
    exact HF.out
  · have h8' : ((n2 : Int) == 8) = false := by simp; omega
    clear fr fr4 K3
    go_wp2_with fail
    refine (specShowMove_any ⟨(k : Int), b, 1 + c, 0⟩ _).mono ?_
    have hz := shwS_size ⟨(k : Int), b, 1 + c, 0⟩
    generalize shwS ⟨(k : Int), b, 1 + c, 0⟩ = s at hz ⊢
    rintro e V5 ⟨rfl, hb5⟩
    have HF : Hid (TextD _ _ _ _ _ _) := txt_end (K.below hb5) hz
    clear yM K bX4 hb5 x0 x1 p0 p1 p2 p3 r0 r1 r2 r3
    go_wp2
    go_ret
    exact HF.out
end Go.Proofs.YtdleolgkbkoekaaDoor
