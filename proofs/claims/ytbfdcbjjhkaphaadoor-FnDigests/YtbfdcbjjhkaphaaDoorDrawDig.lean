/- The contracts of the draws of the law of digests: numbers and texts of bounded size. -/
import Derived.Test.YtbfdcbjjhkaphaaDoorDrawText
import Derived.Test.YtbfdcbjjhkaphaaDoorSign
import Derived.Deep.RegionWith
namespace Go.Proofs.YtbfdcbjjhkaphaaDoor
open Go.RowKit
set_option maxHeartbeats 1000000 in
set_option maxRecDepth 100000 in
theorem l1From_any (w0 w : World) (g : Nat) (lo hi : Int) (h : DCur w0 w g) (h0 : lo ≤ hi) (h1 : -1000000 ≤ lo) (h2 : hi ≤ 1000000) :
    Calls Tryd.prog 30 #[.pointer (some ⟨g, 0, none⟩), .int .i64 lo, .int .i64 hi] w fun e w' => ∃ x : Int, e = .returned (.int .i64 x) ∧ lo ≤ x ∧ x ≤ hi ∧ DCur w0 w' g ∧ w.grownBy w' (some g) := by
  go_enter Tryd.func30, Tryd.ntmps30
  go_wp2_with fail
  refine (l1Below_any w0 _ g _ h (by omega) (by omega)).mono ?_
  rintro e w1 ⟨x, rfl, hx0, hx1, hc, hg⟩
  go_wp2
  go_ret
  exact ⟨_, rfl, by omega, by omega, hc, hg⟩
theorem tagD_lt (x : Int) (s : ByteArray) : tagD x s < 2147483647 := by
  rw [tagD_eq]
  exact dig_lt' _ _ (dig_lt' _ _ (dig_lt' _ _ (dig_lt' _ _ (by omega))))
/-- A row that was just laid, behind a draw. -/
theorem lit_cell {w1 w2 : World} {cs : Array Value} {t : TypeId} {g : Nat} (hg : (w1.alloc (.cells cs t)).grownBy w2 (some g)) (hlt : g < w1.heap.size) (k : Nat) (hk : k < cs.size) : w2.cell? ⟨w1.heap.size, k, none⟩ = some cs[k] := by
  have hb := hg.block w1.heap.size (by simp) (fun e => by simp at e; omega)
  rw [World.cell?_of_block (w := w1.alloc (.cells cs t)) (a := ⟨w1.heap.size, k, none⟩) hb]
  simp [hk]
/-- Is it an int64? -/
abbrev Fits (x : Int) : Prop := -9223372036854775808 ≤ x ∧ x ≤ 9223372036854775807
theorem pick5 {w1 w2 : World} {t : TypeId} {g k : Nat} {a b c d e : Int} (hg : (w1.alloc (.cells #[.int .i64 a, .int .i64 b, .int .i64 c, .int .i64 d, .int .i64 e] t)).grownBy w2 (some g)) (hlt : g < w1.heap.size) (hk : k < 5)
    (ha : Fits a) (hb : Fits b) (hc : Fits c) (hd : Fits d) (he : Fits e) : ∃ y : Int, Fits y ∧ w2.cell? ⟨w1.heap.size, k, none⟩ = some (.int .i64 y) := by
  match k, hk with
  | 0, _ => exact ⟨a, ha, lit_cell hg hlt 0 (by simp)⟩
  | 1, _ => exact ⟨b, hb, lit_cell hg hlt 1 (by simp)⟩
  | 2, _ => exact ⟨c, hc, lit_cell hg hlt 2 (by simp)⟩
  | 3, _ => exact ⟨d, hd, lit_cell hg hlt 3 (by simp)⟩
  | 4, _ => exact ⟨e, he, lit_cell hg hlt 4 (by simp)⟩
theorem pick6 {w1 w2 : World} {t : TypeId} {g k : Nat} {a b c d e f : Int} (hg : (w1.alloc (.cells #[.int .i64 a, .int .i64 b, .int .i64 c, .int .i64 d, .int .i64 e, .int .i64 f] t)).grownBy w2 (some g)) (hlt : g < w1.heap.size) (hk : k < 6)
    (ha : Fits a) (hb : Fits b) (hc : Fits c) (hd : Fits d) (he : Fits e) (hf : Fits f) : ∃ y : Int, Fits y ∧ w2.cell? ⟨w1.heap.size, k, none⟩ = some (.int .i64 y) := by
  match k, hk with
  | 0, _ => exact ⟨a, ha, lit_cell hg hlt 0 (by simp)⟩
  | 1, _ => exact ⟨b, hb, lit_cell hg hlt 1 (by simp)⟩
  | 2, _ => exact ⟨c, hc, lit_cell hg hlt 2 (by simp)⟩
  | 3, _ => exact ⟨d, hd, lit_cell hg hlt 3 (by simp)⟩
  | 4, _ => exact ⟨e, he, lit_cell hg hlt 4 (by simp)⟩
  | 5, _ => exact ⟨f, hf, lit_cell hg hlt 5 (by simp)⟩
theorem pick4 {w1 w2 : World} {t : TypeId} {g k : Nat} {a b c d : Int} (hg : (w1.alloc (.cells #[.int .i64 a, .int .i64 b, .int .i64 c, .int .i64 d] t)).grownBy w2 (some g)) (hlt : g < w1.heap.size) (hk : k < 4) : ∃ y : Int, w2.cell? ⟨w1.heap.size, k, none⟩ = some (.int .i64 y) := by
  match k, hk with
  | 0, _ => exact ⟨a, lit_cell hg hlt 0 (by simp)⟩
  | 1, _ => exact ⟨b, lit_cell hg hlt 1 (by simp)⟩
  | 2, _ => exact ⟨c, lit_cell hg hlt 2 (by simp)⟩
  | 3, _ => exact ⟨d, lit_cell hg hlt 3 (by simp)⟩
/-- What the draw of a server leaves: some number. -/
def SomeInt (w0 w : World) (g : Nat) (e : Ending) (w' : World) : Prop := ∃ x : Int, e = .returned (.int .i64 x) ∧ (-9223372036854775808 ≤ x ∧ x ≤ 9223372036854775807) ∧ DCur w0 w' g ∧ w.grownBy w' (some g)
set_option maxHeartbeats 1000000 in
set_option maxRecDepth 100000 in
theorem l2DrawServer_any (w0 w : World) (g : Nat) (h : DCur w0 w g) :
    Calls Tryd.prog 25 #[.pointer (some ⟨g, 0, none⟩)] w fun e w' => SomeInt w0 w g e w' := by
  go_enter Tryd.func25, Tryd.ntmps25
  go_wp2_with fail
  refine (l1Once_any w0 _ g 8 h (by omega) (by omega)).mono ?_
  rintro e w1 ⟨b, rfl, hc, hg⟩
  cases b
  · go_wp2_with fail
    refine (l1Below_any w0 _ g 4 hc (by omega) (by omega)).mono ?_
    rintro e w2 ⟨x, rfl, hx0, hx1, hc2, hg2⟩
    have hg12 := gr_trans hg hg2
    clear hg hg2
    go_wp2
    go_ret
    exact ⟨_, rfl, by omega, hc2, hg12⟩
  · have hgr := gr_alloc hg (.cells #[.int .i64 (-1), .int .i64 0, .int .i64 6, .int .i64 7, .int .i64 (-9223372036854775808)] 2)
    have hca := hc.alloc (.cells #[.int .i64 (-1), .int .i64 0, .int .i64 6, .int .i64 7, .int .i64 (-9223372036854775808)] 2)
    have hlt := hc.lt
    clear hc hg
    go_wp2_with fail
    refine (l1Below_any w0 _ g 5 hca (by omega) (by omega)).mono ?_
    rintro e w2 ⟨x, rfl, hx0, hx1, hc2, hg2⟩
    obtain ⟨k, rfl⟩ := Int.eq_ofNat_of_zero_le hx0
    obtain ⟨y, hy, hcell⟩ := pick5 hg2 hlt (k := k) (by omega) (by omega) (by omega) (by omega) (by omega) (by omega)
    have hg12 := gr_trans hgr hg2
    clear hgr hg2 hca
    go_wp2
    go_ret
    exact ⟨_, rfl, hy, hc2, hg12⟩
/-- What the draw of a pair leaves. -/
def PairD (w : World) (e : Ending) (w' : World) : Prop := ∃ x y : Int, e = .returned (.tuple #[.int .i64 x, .int .i64 y]) ∧ Fits x ∧ Fits y ∧ Below w.heap.size w w'
set_option maxHeartbeats 1000000 in
set_option maxRecDepth 100000 in
theorem drawPair_any (v : Value) (bs : List UInt8) (w : World) (hr : Rd w v bs) (hb : bs.length ≤ 4096) :
    Calls Tryd.prog 13 #[v] w fun e w' => PairD w e w' := by
  go_enter Tryd.func13, Tryd.ntmps13
  go_wp2_with fail
  refine (l1New_any v bs _ hr hb).mono ?_
  rintro e w1 ⟨g, rfl, hc⟩
  go_wp2_with fail
  refine (l1From_any w _ g (-5) 2000 hc (by omega) (by omega) (by omega)).mono ?_
  rintro e w2 ⟨x, rfl, hx0, hx1, hc2, hg2⟩
  clear hc hg2
  go_wp2_with fail
  go_region_with (first
    | (go_at_call_of 29 (Value.int .i64 5000); refine (l1Below_any w _ g 5000 ?_ (by omega) (by omega)).mono ?_; (first | exact hc2 | exact hc2.drewN 1); rintro e w3 ⟨y, rfl, hy0, hy1, hc3, hg3⟩; have hlt3 := hc3.lt)
    | (go_at_call_of 29 (Value.int .i64 6); refine (l1Below_any w _ g 6 ?_ (by omega) (by omega)).mono ?_; exact hc3; rintro e w4 ⟨z, rfl, hz0, hz1, hc4, hg4⟩; obtain ⟨k, rfl⟩ := Int.eq_ofNat_of_zero_le hz0; obtain ⟨yy, hyy, hcell⟩ := pick6 (w1 := w4) (t := 2) (a := -1) (b := 0) (c := 7) (d := 4611686018427387904) (e := -9223372036854775808) (f := y) (gr_refl _ (some g)) hc4.lt (k := k) (by omega) (by omega) (by omega) (by omega) (by omega) (by omega) (by omega))
    | (go_at_call_of 29 (Value.int .i64 6); refine (l1Below_any w _ g 6 ?_ (by omega) (by omega)).mono ?_; exact hc3.alloc _; rintro e w4 ⟨z, rfl, hz0, hz1, hc4, hg4⟩; obtain ⟨k, rfl⟩ := Int.eq_ofNat_of_zero_le hz0; obtain ⟨yy, hyy, hcell⟩ := pick6 hg4 hlt3 (k := k) (by omega) (by omega) (by omega) (by omega) (by omega) (by omega) (by omega)))
  · have hbel := hc4.bel
    clear hc2 hc3 hg3 hc4 hg4 hcell
    go_wp2
    go_ret2
    exact ⟨_, _, rfl, by omega, hyy, hbel⟩
  · have hbel := (hc4.alloc (.cells #[.int .i64 (-1), .int .i64 0, .int .i64 7, .int .i64 4611686018427387904, .int .i64 (-9223372036854775808), .int .i64 y] 2)).bel
    clear hc2 hc3 hg3 hc4 hg4 hcell
    go_wp2
    go_ret2
    exact ⟨_, _, rfl, by omega, hyy, hbel⟩
/-- What the draw of a server and a text leaves. -/
def TagD (w : World) (e : Ending) (w' : World) : Prop := ∃ (x : Int) (s : ByteArray), e = .returned (.tuple #[.int .i64 x, .string s]) ∧ s.size ≤ 9 ∧ Below w.heap.size w w'
set_option maxHeartbeats 1000000 in
set_option maxRecDepth 100000 in
theorem drawTag_any (v : Value) (bs : List UInt8) (w : World) (hr : Rd w v bs) (hb : bs.length ≤ 4096) :
    Calls Tryd.prog 10 #[v] w fun e w' => TagD w e w' := by
  go_enter Tryd.func10, Tryd.ntmps10
  go_wp2_with fail
  refine (l1New_any v bs _ hr hb).mono ?_
  rintro e w1 ⟨g, rfl, hc⟩
  go_wp2_with fail
  refine (l2DrawServer_any w _ g hc).mono ?_
  rintro e w2 ⟨x, rfl, hx, hc2, hg2⟩
  clear hc hg2
  go_wp2_with fail
  refine (l1DrawText_any w _ g hc2).mono ?_
  rintro e w3 ⟨s, rfl, hs, hc3, hg3⟩
  have hbel := hc3.bel
  clear hc2 hg3 hc3
  go_wp2
  go_ret2
  exact ⟨_, _, rfl, hs, hbel⟩
/-- What the draw of two texts leaves. -/
def TwoD (w : World) (e : Ending) (w' : World) : Prop := ∃ a b : ByteArray, e = .returned (.tuple #[.string a, .string b]) ∧ a.size ≤ 9 ∧ b.size ≤ 9 ∧ Below w.heap.size w w'
set_option maxHeartbeats 1000000 in
set_option maxRecDepth 100000 in
theorem drawClash_any (v : Value) (bs : List UInt8) (w : World) (hr : Rd w v bs) (hb : bs.length ≤ 4096) :
    Calls Tryd.prog 8 #[v] w fun e w' => TwoD w e w' := by
  go_enter Tryd.func8, Tryd.ntmps8
  go_wp2_with fail
  refine (l1New_any v bs _ hr hb).mono ?_
  rintro e w1 ⟨g, rfl, hc⟩
  go_wp2_with fail
  refine (l1Once_any w _ g 3 hc (by omega) (by omega)).mono ?_
  rintro e w2 ⟨b, rfl, hc2, hg2⟩
  clear hc hg2
  cases b
  · go_wp2_with fail
    refine (l1DrawText_any w _ g hc2).mono ?_
    rintro e w3 ⟨s, rfl, hs, hc3, hg3⟩
    clear hc2 hg3
    go_wp2_with fail
    refine (l1Once_any w _ g 3 hc3 (by omega) (by omega)).mono ?_
    rintro e w4 ⟨b, rfl, hc4, hg4⟩
    clear hc3 hg4
    cases b
    · go_wp2_with fail
      refine (l1DrawText_any w _ g hc4).mono ?_
      rintro e w5 ⟨t, rfl, ht, hc5, hg5⟩
      have hbel := hc5.bel
      clear hc4 hg5 hc5
      go_wp2
      go_ret2
      exact ⟨_, _, rfl, hs, ht, hbel⟩
    · have hbel := hc4.bel
      clear hc4
      go_wp2
      go_ret2
      exact ⟨_, _, rfl, hs, hs, hbel⟩
  · have hbel := hc2.bel
    clear hc2
    go_wp2
    go_ret2
    exact ⟨_, _, rfl, by decide, by decide, hbel⟩
/-- What the draw of a server, a text and a tag leaves. -/
def SignD (w : World) (e : Ending) (w' : World) : Prop := ∃ (x : Int) (s : ByteArray) (y : Int), e = .returned (.tuple #[.int .i64 x, .string s, .int .i64 y]) ∧ s.size ≤ 9 ∧ Below w.heap.size w w'
set_option maxHeartbeats 1000000 in
set_option maxRecDepth 100000 in
theorem drawSigned_any (v : Value) (bs : List UInt8) (w : World) (hr : Rd w v bs) (hb : bs.length ≤ 4096) :
    Calls Tryd.prog 12 #[v] w fun e w' => SignD w e w' := by
  go_enter Tryd.func12, Tryd.ntmps12
  go_wp2_with fail
  refine (l1New_any v bs _ hr hb).mono ?_
  rintro e w1 ⟨g, rfl, hc⟩
  go_wp2_with fail
  refine (l2DrawServer_any w _ g hc).mono ?_
  rintro e w2 ⟨x, rfl, hx, hc2, hg2⟩
  clear hc hg2
  go_wp2_with fail
  refine (l1DrawText_any w _ g hc2).mono ?_
  rintro e w3 ⟨s, rfl, hs, hc3, hg3⟩
  clear hc2 hg3
  go_wp2_with fail
  refine (specTag_any x s _ (by omega)).mono ?_
  rintro e w4 ⟨rfl, hb4⟩
  have hc4 : DCur w w4 g := hc3.grow (row := none) ⟨hb4.os, hb4.tape, hb4.output, hb4.size, fun k hk _ => hb4.block k hk⟩ (fun k hk => by cases hk)
  have htl : -1 ≤ tag x s ∧ tag x s < 2147483647 := by
    unfold tag
    split
    · have := tagD_lt x s
      omega
    · omega
  generalize tag x s = n at htl
  clear hc3 hb4
  go_wp2_with fail
  refine (l1Once_any w _ g 3 hc4 (by omega) (by omega)).mono ?_
  rintro e w5 ⟨b, rfl, hc5, hg5⟩
  clear hc4 hg5
  cases b
  · have hbel := hc5.bel
    clear hc5
    go_wp2
    go_ret3
    exact ⟨_, _, _, rfl, hs, hbel⟩
  · go_wp2_with fail
    refine (l1Below_any w _ g 100000 hc5 (by omega) (by omega)).mono ?_
    rintro e w6 ⟨y, rfl, hy0, hy1, hc6, hg6⟩
    have hlt6 := hc6.lt
    have hca := hc6.alloc (.cells #[.int .i64 (-1), .int .i64 0, .int .i64 (n + 1), .int .i64 y] 2)
    clear hc5 hg6 hc6
    go_wp2_with fail
    refine (l1Below_any w _ g 4 hca (by omega) (by omega)).mono ?_
    rintro e w7 ⟨z, rfl, hz0, hz1, hc7, hg7⟩
    obtain ⟨k, rfl⟩ := Int.eq_ofNat_of_zero_le hz0
    obtain ⟨yy, hcell⟩ := pick4 hg7 hlt6 (k := k) (by omega)
    have hbel := hc7.bel
    clear hca hc7 hg7
    go_wp2
    go_ret3
    exact ⟨_, _, _, rfl, hs, hbel⟩
end Go.Proofs.YtbfdcbjjhkaphaaDoor
