/- The contracts of the laws' own helpers over drawn entries. The contracts of the three draws that the law of packing begins with: some entries, some bytes, two texts. -/
import Derived.Test.YthaobdknpgnapaaG26
import Derived.Test.YthaobdknpgnapaaEntCp
import Derived.Test.YthaobdknpgnapaaDrawAny
import Derived.Test.YthaobdknpgnapaaBend
import Derived.Test.YthaobdknpgnapaaPackSpec
namespace Go.Proofs.Ythaobdknpgnapaa
open Go.RowKit
set_option maxHeartbeats 1000000 in
set_option maxRecDepth 100000 in
theorem l1From_any (w0 w : World) (g : Nat) (lo hi : Int) (h : DCur w0 w g) (h0 : lo ≤ hi) (h1 : -1000000 ≤ lo) (h2 : hi ≤ 1000000) :
    Calls Try.prog 49 #[.pointer (some ⟨g, 0, none⟩), .int .i64 lo, .int .i64 hi] w fun e w' => ∃ x : Int, e = .returned (.int .i64 x) ∧ lo ≤ x ∧ x ≤ hi ∧ DCur w0 w' g ∧ w.grownBy w' (some g) := by
  go_enter Try.func49, Try.ntmps49
  go_wp2_with fail
  refine (l1Below_any w0 _ g _ h (by omega) (by omega)).mono ?_
  rintro e w1 ⟨x, rfl, hx0, hx1, hc, hg⟩
  go_wp2
  go_ret
  exact ⟨_, rfl, by omega, by omega, hc, hg⟩
set_option maxHeartbeats 400000 in
set_option maxRecDepth 100000 in
theorem big_any (v : Value) (bs : List UInt8) (w : World) (hr : Rd w v bs) :
    Calls Try.prog 7 #[v] w fun e w' => e = .returned (.bool (decide (4096 < (bs.length : Int)))) ∧ w' = w := by
  obtain ⟨a, cap, rfl, hl, hm, _⟩ := hr
  unfold maxLen at hm
  go_enter Try.func7, Try.ntmps7
  go_wp2
  go_ret
  exact ⟨rfl, rfl⟩
set_option maxHeartbeats 1000000 in
set_option maxRecDepth 100000 in
theorem likeEnts_same (va vb : Value) (es : List Ent) (w : World) (ha : RdE w va es) (hb : RdE w vb es) :
    Calls Try.prog 13 #[va, vb] w fun e w' => e = .returned (.bool true) ∧ ∃ n, w' = w.drewN n := by
  obtain ⟨aa, ca, hva, hla, hma, _⟩ := id ha
  obtain ⟨ab, cb, hvb, hlb, hmb, _⟩ := id hb
  subst hva
  subst hvb
  unfold maxLen at hma hmb
  have hne : ((es.length : Int) != (es.length : Int)) = false := by simp
  go_enter Try.func13, Try.ntmps13
  go_wp2
  go_loopw [5] (fun i wr => ∃ k : Nat, k ≤ es.length ∧ i = .int .i64 k ∧ ∃ n, wr = w.drewN n) (fun i _ => es.length - (intOf i).toNat)
  case atStart => exact ⟨0, Nat.zero_le _, rfl, 0, rfl⟩
  case round =>
    obtain ⟨k, hk, rfl, n, rfl⟩ := hrel
    by_cases hlt : k < es.length
    · obtain ⟨b1, o1, rfl, hc1⟩ := (ha.drewN n).at rfl k hlt
      obtain ⟨b2, o2, rfl, hc2⟩ := (hb.drewN n).at rfl k hlt
      obtain ⟨x, hx⟩ : ∃ x, x = nth es k := ⟨_, rfl⟩
      rw [← hx] at hc1 hc2
      clear hx
      go_wp2_with fail
      refine wp_region_noPanic ?_
      refine wp_region_held_drew (S := fun w' => EntAt w' b1 (o1 + k * 4) x ∧ EntAt w' b2 (o2 + k * 4) x) (by kernel_rfl) ⟨hc1, hc2⟩ (fun hH => ?_)
      refine tkA 0 17 hH ?_
      try simp only [Act.put, List.setIfInBounds_toArray, List.set_cons_zero, List.set_cons_succ]
      refine tkA 1 18 hH ?_
      try simp only [Act.put, List.setIfInBounds_toArray, List.set_cons_zero, List.set_cons_succ]
      refine tkA 2 19 hH ?_
      try simp only [Act.put, List.setIfInBounds_toArray, List.set_cons_zero, List.set_cons_succ]
      refine tkA 3 20 hH ?_
      try simp only [Act.put, List.setIfInBounds_toArray, List.set_cons_zero, List.set_cons_succ]
      refine tkA 4 21 hH ?_
      try simp only [Act.put, List.setIfInBounds_toArray, List.set_cons_zero, List.set_cons_succ]
      refine tkA 5 22 hH ?_
      try simp only [Act.put, List.setIfInBounds_toArray, List.set_cons_zero, List.set_cons_succ]
      refine tkA 6 23 hH ?_
      try simp only [Act.put, List.setIfInBounds_toArray, List.set_cons_zero, List.set_cons_succ]
      refine tkA 7 24 hH ?_
      try simp only [Act.put, List.setIfInBounds_toArray, List.set_cons_zero, List.set_cons_succ]
      refine tkA 8 25 hH ?_
      try simp only [Act.put, List.setIfInBounds_toArray, List.set_cons_zero, List.set_cons_succ]
      refine wpAnyH_done (by kernel_rfl) ?_ _
      refine NoPanic.normal ?_
      go_wp2
      go_roundw
      case rel => exact ⟨k + 1, by omega, by go_num, n + 1, rfl⟩
      case measure => simp [intOf]; omega
    · go_wp2
      go_ret
      exact ⟨rfl, n, rfl⟩
end Go.Proofs.Ythaobdknpgnapaa
namespace Go.Proofs.Ythaobdknpgnapaa
open Go.RowKit
/-- What the draw of the law's entries leaves. -/
def DrawnE (w : World) (e : Ending) (w' : World) : Prop :=
  ∃ (v : Value) (es : List Ent), e = .returned v ∧ OwnE w' w.heap.size v es ∧ es.length ≤ 400 ∧ (∀ x ∈ es, Small x) ∧ Below w.heap.size w w'
set_option maxHeartbeats 400000 in
set_option maxRecDepth 100000 in
theorem drawEntriesOk_any (v : Value) (bs : List UInt8) (w : World) (hr : Rd w v bs) (hb : bs.length ≤ 4096) :
    Calls Try.prog 56 #[v] w fun e w' => DrawnE w e w' := by
  go_enter Try.func56, Try.ntmps56
  go_wp2_with fail
  refine (l1New_any v bs w hr hb).mono ?_
  rintro e w1 ⟨g, rfl, hc1⟩
  have hs1 := hc1.bel.size
  go_wp2_with fail
  refine (l3DrawAny_any w _ g hc1).mono ?_
  rintro e w2 ⟨vL, es, rfl, ho2, hl2, hsm, hc2, hg2⟩
  have HS : Hid (∀ x ∈ es, Small x) := hsm
  have b2 := hc2.bel
  clear hsm hc1 hc2 hg2
  go_wp2
  go_ret
  exact ⟨_, es, rfl, ho2.mono hs1, hl2, HS.out, b2⟩
/-- What the draw of the law's bytes leaves. -/
def DrawnY (w : World) (e : Ending) (w' : World) : Prop := ∃ (u : Value) (ys : List UInt8), e = .returned u ∧ Wr w' w.heap.size u ys ∧ ys.length ≤ 1048576 ∧ Below w.heap.size w w'
/-- What the draw of the law's two texts leaves. -/
def DrawnT (w : World) (e : Ending) (w' : World) : Prop := ∃ p q : ByteArray, e = .returned (.tuple #[.string p, .string q]) ∧ p.size ≤ 1000 ∧ q.size ≤ 1000 ∧ Below w.heap.size w w'
end Go.Proofs.Ythaobdknpgnapaa
