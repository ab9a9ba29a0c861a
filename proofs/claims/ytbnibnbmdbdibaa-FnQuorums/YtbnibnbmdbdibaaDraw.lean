/- The contracts of the draw's own cursor: a byte, a number below another, true once in some: what they are hangs on the code, and nothing but the cursor's own block turns. -/
import Derived.Test.YtbnibnbmdbdibaaBase
import Derived.BigQuiet
namespace Go.Proofs.Ytbnibnbmdbdibaa
open Go.RowKit
theorem and_low (x : Int) (m : Nat) (hm : m < 4611686018427387904) : 0 ≤ bits .and .i64 x (m : Int) ∧ bits .and .i64 x (m : Int) ≤ (m : Int) := by
  have e : bits .and .i64 x (m : Int) = IntKind.i64.wrap ((BitVec.ofInt 64 x &&& BitVec.ofInt 64 (m : Int)).toNat : Int) := rfl
  have h2 : (BitVec.ofInt 64 (m : Int)).toNat = m := by rw [BitVec.ofInt_natCast, BitVec.toNat_ofNat]; exact Nat.mod_eq_of_lt (by omega)
  have h3 : (BitVec.ofInt 64 x &&& BitVec.ofInt 64 (m : Int)).toNat ≤ m := by rw [BitVec.toNat_and, h2]; exact Nat.and_le_right
  rw [e, IntKind.wrap_i64]
  omega
/-- The draw's cursor at block g, made behind the world w0, over some bytes that lie in w0. -/
def DCur (w0 w : World) (g : Nat) : Prop :=
  ∃ (v : Value) (bs : List UInt8) (i : Nat) (h : Int), Rd w0 v bs ∧ bs.length ≤ 4096 ∧ w0.heap.size ≤ g ∧ w.heap[g]? = some (.cells #[v, .int .i64 (i : Int), .int .i64 h] 34 (0, 0)) ∧ Below w0.heap.size w0 w ∧ i ≤ bs.length
theorem DCur.ge {w0 w : World} {g : Nat} (h : DCur w0 w g) : w0.heap.size ≤ g := by obtain ⟨_, _, _, _, _, _, h, _⟩ := h; exact h
theorem DCur.lt {w0 w : World} {g : Nat} (h : DCur w0 w g) : g < w.heap.size := by obtain ⟨_, _, _, _, _, _, _, h, _⟩ := h; exact (Array.getElem?_eq_some_iff.1 h).1
theorem DCur.bel {w0 w : World} {g : Nat} (h : DCur w0 w g) : Below w0.heap.size w0 w := by obtain ⟨_, _, _, _, _, _, _, _, h, _⟩ := h; exact h
theorem DCur.alloc {w0 w : World} {g : Nat} (h : DCur w0 w g) (o : Obj) : DCur w0 (w.alloc o) g := by
  have hl := h.lt
  obtain ⟨v, bs, i, x, h1, h2, h3, h4, h5, h6⟩ := h
  exact ⟨v, bs, i, x, h1, h2, h3, by rw [Below.heap_alloc w o g hl]; exact h4, h5.alloc (by omega) o, h6⟩
theorem DCur.grow {w0 w w' : World} {g : Nat} {row : Option Nat} (h : DCur w0 w g) (hg : w.grownBy w' row) (hr : ∀ k, row = some k → g < k) : DCur w0 w' g := by
  have hl := h.lt
  obtain ⟨v, bs, i, x, h1, h2, h3, h4, h5, h6⟩ := h
  exact ⟨v, bs, i, x, h1, h2, h3, by rw [hg.block g hl (fun e => by have := hr g e.symm; omega)]; exact h4, h5.grown hg (by omega) (fun k hk => by have := hr k hk; omega), h6⟩
theorem DCur.drewN {w0 w : World} {g : Nat} (h : DCur w0 w g) (q : Nat) : DCur w0 (w.drewN q) g := by
  obtain ⟨v, bs, i, x, h1, h2, h3, h4, h5, h6⟩ := h
  exact ⟨v, bs, i, x, h1, h2, h3, h4, below_drewN h5 q, h6⟩
/-- What a draw leaves: a number within bounds; nothing but the cursor's own block has turned. -/
def DrawPost (w0 w : World) (g : Nat) (m : Int) (e : Ending) (w' : World) : Prop :=
  ∃ x : Int, e = .returned (.int .i64 x) ∧ 0 ≤ x ∧ x < m ∧ DCur w0 w' g ∧ w.grownBy w' (some g)
theorem set_grown {w : World} {g j : Nat} (u : Value) : w.grownBy (w.setCell ⟨g, j, none⟩ u) (some g) :=
  ⟨rfl, rfl, rfl, by simp, fun k _ hk => heap_setCell_other w ⟨g, j, none⟩ k u (fun e => hk (by simp [e]))⟩
theorem gr_trans {a b c : World} {row : Option Nat} (h : a.grownBy b row) (k : b.grownBy c row) : a.grownBy c row :=
  ⟨k.os.trans h.os, k.tape.trans h.tape, k.output.trans h.output, Nat.le_trans h.size k.size, fun i hi hr => (k.block i (Nat.lt_of_lt_of_le hi h.size) hr).trans (h.block i hi hr)⟩
theorem gr_drewN {a w : World} {row : Option Nat} (h : a.grownBy w row) (q : Nat) : a.grownBy (w.drewN q) row := ⟨h.os, h.tape, h.output, h.size, h.block⟩
theorem gr_refl (a : World) (row : Option Nat) : a.grownBy a row := ⟨rfl, rfl, rfl, Nat.le_refl _, fun _ _ _ => rfl⟩
/-- The cursor's three cells. -/
theorem three_cells {w : World} {g : Nat} {v : Value} {i h : Int} (hb : w.heap[g]? = some (.cells #[v, .int .i64 i, .int .i64 h] 34 (0, 0))) :
    w.cell? ⟨g, 0, none⟩ = some v ∧ w.cell? ⟨g, 1, none⟩ = some (.int .i64 i) ∧ w.cell? ⟨g, 2, none⟩ = some (.int .i64 h) ∧ w.frozen? ⟨g, 1, none⟩ = false ∧ w.frozen? ⟨g, 2, none⟩ = false := by
  refine ⟨?_, ?_, ?_, ?_, ?_⟩ <;> simp [World.cell?, World.frozen?, hb]
theorem three_set2 {w : World} {g : Nat} {v : Value} {i h h' : Int} (hb : w.heap[g]? = some (.cells #[v, .int .i64 i, .int .i64 h] 34 (0, 0))) :
    (w.setCell ⟨g, 2, none⟩ (.int .i64 h')).heap[g]? = some (.cells #[v, .int .i64 i, .int .i64 h'] 34 (0, 0)) := by rw [heap_setCell_same w g 2 _ _ _ hb]; rfl
theorem three_set1 {w : World} {g : Nat} {v : Value} {i i' h : Int} (hb : w.heap[g]? = some (.cells #[v, .int .i64 i, .int .i64 h] 34 (0, 0))) :
    (w.setCell ⟨g, 1, none⟩ (.int .i64 i')).heap[g]? = some (.cells #[v, .int .i64 i', .int .i64 h] 34 (0, 0)) := by rw [heap_setCell_same w g 1 _ _ _ hb]; rfl

set_option maxHeartbeats 1000000 in
set_option maxRecDepth 100000 in
theorem l1Byte_any (w0 w : World) (g : Nat) (h : DCur w0 w g) :
    Calls Try.prog 13 #[.pointer (some ⟨g, 0, none⟩)] w fun e w' => DrawPost w0 w g 256 e w' := by
  obtain ⟨v, bs, i, x, hr, hbl, hge, hblk, hbel, hile⟩ := h
  obtain ⟨a, cap, hv, hl, hm, hA⟩ := hr
  have HRd : Hid (Rd w0 v bs) := ⟨a, cap, hv, hl, hm, hA⟩
  unfold maxLen at hm
  subst hv
  obtain ⟨c0, c1, c2, f1, f2⟩ := three_cells hblk
  go_enter Try.func13, Try.ntmps13
  go_wp2
  generalize wrap64 (wrap64 (x * 6364136223846793005) + 1442695040888963407) = y
  have hblk2 := three_set2 (h' := y) hblk
  have hgr : w.grownBy (w.setCell ⟨g, 2, none⟩ (.int .i64 y)) (some g) := set_grown _
  have hbel2 : Below w0.heap.size w0 (w.setCell ⟨g, 2, none⟩ (.int .i64 y)) := hbel.setCell hge _
  generalize w.setCell ⟨g, 2, none⟩ (.int .i64 y) = W at hblk2 hgr hbel2 ⊢
  clear c0 c1 c2 f1 f2 hblk hbel
  obtain ⟨c0, c1, c2, f1, f2⟩ := three_cells hblk2
  go_quiet (fail)
  have hx1 := fun z : Int => and_low z 255 (by omega)
  by_cases hi : i < bs.length
  · obtain ⟨b, off, ha, hcl⟩ : ∃ b off, a = some ⟨b, off, none⟩ ∧ W.cell? ⟨b, off + i, none⟩ = some (.int .u8 (bs[i].toNat : Int)) := by
      rcases hA with h | ⟨b, off, ha, hc⟩
      · subst h; simp at hi
      · exact ⟨b, off, ha, by rw [hbel2.cell (World.block_lt_of_cell? w0 _ (hc i hi))]; exact hc i hi⟩
    rw [ha] at c0
    have Hx1 : Hid (∀ z : Int, 0 ≤ bits .and .i64 z ((255 : Nat) : Int) ∧ bits .and .i64 z ((255 : Nat) : Int) ≤ ((255 : Nat) : Int)) := hx1
    have HI : Hid (i + 1 ≤ bs.length) := by show _ ≤ _; omega
    clear hA hx1
    go_wp2
    go_quiet (fail)
    go_wp2
    go_quiet (fail)
    go_wp2
    go_ret
    refine ⟨_, rfl, (Hx1.out _).1, Int.lt_of_le_of_lt (Hx1.out _).2 (by decide), ⟨_, bs, i + 1, y, HRd.out, hbl, hge, three_set1 hblk2, (below_drewN hbel2 _).setCell hge _, HI.out⟩, gr_trans (gr_drewN hgr _) (set_grown _)⟩
  · have Hx1 : Hid (∀ z : Int, 0 ≤ bits .and .i64 z ((255 : Nat) : Int) ∧ bits .and .i64 z ((255 : Nat) : Int) ≤ ((255 : Nat) : Int)) := hx1
    clear hA hx1
    go_wp2
    go_quiet (fail)
    go_wp2
    go_ret
    refine ⟨_, rfl, (Hx1.out _).1, Int.lt_of_le_of_lt (Hx1.out _).2 (by decide), ⟨_, bs, i, y, HRd.out, hbl, hge, hblk2, below_drewN (below_drewN hbel2 _) _, hile⟩, gr_drewN (gr_drewN hgr _) _⟩

set_option maxHeartbeats 1000000 in
set_option maxRecDepth 100000 in
theorem l1Below_any (w0 w : World) (g : Nat) (n : Int) (h : DCur w0 w g) (hn : 0 < n) (hn2 : n ≤ 4294967296) :
    Calls Try.prog 11 #[.pointer (some ⟨g, 0, none⟩), .int .i64 n] w fun e w' => DrawPost w0 w g n e w' := by
  by_cases h256 : n ≤ 256
  · go_enter Try.func11, Try.ntmps11
    go_wp2_with fail
    refine (l1Byte_any w0 _ g h).mono ?_
    rintro e w1 ⟨x, rfl, hx0, hx1, hc, hg⟩
    have hm0 := Int.emod_nonneg x (show n ≠ 0 by omega)
    have hm1 := Int.emod_lt_of_pos x hn
    go_wp2
    go_ret
    exact ⟨_, rfl, hm0, hm1, hc, hg⟩
  · go_enter Try.func11, Try.ntmps11
    go_wp2_with fail
    refine (l1Byte_any w0 _ g h).mono ?_
    rintro e w1 ⟨x1, rfl, hx0, hx1, hc1, hg1⟩
    go_wp2_with fail
    refine (l1Byte_any w0 _ g hc1).mono ?_
    rintro e w2 ⟨x2, rfl, hy0, hy1, hc2, hg2⟩
    have hg12 := gr_trans hg1 hg2
    clear hc1 hg1 hg2
    go_wp2_with fail
    refine (l1Byte_any w0 _ g hc2).mono ?_
    rintro e w3 ⟨x3, rfl, hz0, hz1, hc3, hg3⟩
    have hg13 := gr_trans hg12 hg3
    clear hc2 hg12 hg3
    go_wp2_with fail
    refine (l1Byte_any w0 _ g hc3).mono ?_
    rintro e w4 ⟨x4, rfl, hu0, hu1, hc4, hg4⟩
    have hg14 := gr_trans hg13 hg4
    clear hc3 hg13 hg4
    have hm0 := Int.emod_nonneg (x1 * 16777216 + x2 * 65536 + x3 * 256 + x4) (show n ≠ 0 by omega)
    have hm1 := Int.emod_lt_of_pos (x1 * 16777216 + x2 * 65536 + x3 * 256 + x4) hn
    go_wp2
    go_ret
    exact ⟨_, rfl, hm0, hm1, hc4, hg14⟩
/-- What a question leaves: yes or no. -/
def OncePost (w0 w : World) (g : Nat) (e : Ending) (w' : World) : Prop := ∃ b : Bool, e = .returned (.bool b) ∧ DCur w0 w' g ∧ w.grownBy w' (some g)
/-- What the making of a cursor leaves. -/
def NewPost (w : World) (e : Ending) (w' : World) : Prop := ∃ g, e = .returned (.pointer (some ⟨g, 0, none⟩)) ∧ DCur w w' g
set_option maxHeartbeats 1000000 in
set_option maxRecDepth 100000 in
theorem l1New_any (v : Value) (bs : List UInt8) (w : World) (hr : Rd w v bs) (hb : bs.length ≤ 4096) :
    Calls Try.prog 10 #[v] w fun e w' => NewPost w e w' := by
  have HRd : Hid (Rd w v bs) := hr
  obtain ⟨a, cap, hv, hl, hm, hA⟩ := hr
  unfold maxLen at hm
  subst hv
  go_enter Try.func10, Try.ntmps10
  go_wp2
  go_loop [3, 4] (fun hh ii => ∃ (k : Nat) (y : Int), k ≤ bs.length ∧ ii = .int .i64 k ∧ hh = .int .i64 y ∧ 0 ≤ y ∧ y ≤ 1073741823) (fun _ ii => bs.length - (intOf ii).toNat)
  case atStart => exact ⟨0, _, Nat.zero_le _, rfl, rfl, by omega, by omega⟩
  case round =>
    obtain ⟨k, y, hk, rfl, rfl, hy0, hy1⟩ := hrel
    by_cases hlt : k < bs.length
    · obtain ⟨b, off, ha, hc⟩ : ∃ b off, a = some ⟨b, off, none⟩ ∧ w.cell? ⟨b, off + k, none⟩ = some (.int .u8 (bs[k].toNat : Int)) := by
        rcases hA with h | ⟨b, off, ha, hc⟩
        · subst h; simp at hlt
        · exact ⟨b, off, ha, hc k hlt⟩
      rw [ha]
      have Hx1 : Hid (∀ z : Int, 0 ≤ bits .and .i64 z ((1073741823 : Nat) : Int) ∧ bits .and .i64 z ((1073741823 : Nat) : Int) ≤ ((1073741823 : Nat) : Int)) := fun z => and_low z 1073741823 (by omega)
      obtain ⟨d, hd⟩ : ∃ d : Nat, d = bs[k].toNat := ⟨_, rfl⟩
      have hd8 : d < 256 := by rw [hd]; exact UInt8.toNat_lt _
      rw [← hd] at hc
      clear hA hd
      go_wp2
      go_round
      case rel => exact ⟨k + 1, _, by omega, by go_num, rfl, (Hx1.out _).1, (Hx1.out _).2⟩
      case measure => simp [intOf]; omega
    · clear hA
      go_wp2
      go_ret
      exact ⟨w.heap.size, rfl, _, bs, 0, y, HRd.out, hb, Nat.le_refl _, heap_alloc_new w _, (Below.refl _ _).alloc (Nat.le_refl _) _, Nat.zero_le _⟩
end Go.Proofs.Ytbnibnbmdbdibaa
