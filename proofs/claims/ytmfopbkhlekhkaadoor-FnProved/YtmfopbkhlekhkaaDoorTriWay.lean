/- The contracts of both Ways. -/
-- UNF Gen
import Derived.Test.YtmfopbkhlekhkaaDoorTriGrp
namespace Go.Proofs.YtmfopbkhlekhkaaDoor
open Go.RowKit
/-- The number beside a place's group of step s. -/
def besL (es : List Lef) (A s : Nat) : Int := grp (fL es) s (A / 2 ^ s ^^^ 1)
def wayL (es : List Lef) (A k : Nat) : List Int := (List.range k).map fun s => besL es A s
theorem wayL_succ (es : List Lef) (A k : Nat) : wayL es A (k + 1) = wayL es A k ++ [besL es A k] := by unfold wayL; simp [List.range_succ]
theorem wayL_len (es : List Lef) (A k : Nat) : (wayL es A k).length = k := by unfold wayL; simp
def wayR (es : List Lef) (p : Int) : List Int := if lefOk es = true ∧ 0 ≤ p ∧ p ≤ 255 then wayL es p.toNat 8 else []
theorem xor1_lt {a m : Nat} (h : a < 2 * m) : a ^^^ 1 < 2 * m := by
  have h1 : (a ^^^ 1) / 2 = a / 2 := by
    have := Nat.xor_div_two_pow (a := a) (b := 1) (n := 1)
    simpa using this
  omega
theorem xor1_bits (B : Nat) (h : B ≤ 255) : bits .xor .i64 (B : Int) 1 = ((B ^^^ 1 : Nat) : Int) := by
  have h2 : B ^^^ 1 < 256 := xor1_lt (m := 128) (by omega)
  show IntKind.i64.wrap (((BitVec.ofInt 64 (B : Int) ^^^ BitVec.ofInt 64 ((1 : Nat) : Int)).toNat : Nat) : Int) = _
  rw [BitVec.ofInt_natCast, BitVec.ofInt_natCast, BitVec.toNat_xor, BitVec.toNat_ofNat, BitVec.toNat_ofNat, Nat.mod_eq_of_lt (by omega), Nat.mod_eq_of_lt (by omega), IntKind.wrap_i64]
  omega
theorem half_i64 (B : Nat) (h : B ≤ 255) : IntKind.i64.wrap ((B : Int).tdiv 2) = ((B / 2 : Nat) : Int) := by
  rw [Int.tdiv_eq_ediv_of_nonneg (by omega), IntKind.wrap_i64]
  omega
theorem half_w64 (B : Nat) (h : B ≤ 255) : wrap64 ((B : Int) / 2) = ((B / 2 : Nat) : Int) := by
  unfold wrap64
  omega
set_option maxHeartbeats 4000000 in
set_option maxRecDepth 100000 in
theorem specWay_any (v : Value) (es : List Lef) (p : Int) (w : World) (hr : RdL w v es) :
    Calls Tryd.prog 21 #[v, .int .i64 p] w fun e w' => ∃ u, e = .returned u ∧ OwnI w' w.heap.size u (wayR es p) ∧ Below w.heap.size w w' := by
  have ho0 := ownI_none w
  have b0 := below1 w (.cells #[] 2)
  have hr0 := hr.below b0
  have HP1 := fun W => inL_any p 0 255 W
  cases hk : lefOk es with
  | false =>
    have RES : Hid (wayR es p = []) := by unfold Hid wayR; rw [hk]; simp
    have HL : ∀ u w', RdL w' u es → Calls Tryd.prog 23 #[u] w' fun e w'' => e = .returned (.bool false) ∧ Drew w' w'' := fun u w' h => by rw [← hk]; exact specLeavesOk_any u es w' h
    clear hk
    go_enter Tryd.func21, Tryd.ntmps21
    go_wp2_with (go_at_call 23; refine (HL _ _ hr0).mono ?_; rintro e w1 ⟨rfl, hd1⟩)
    go_ret
    exact ⟨_, rfl, by rw [RES.out]; exact ho0.below hd1.below, b0.trans (hd1.below.mono (by simp))⟩
  | true =>
    have HO : Hid (LefOk es) := lefOk_iff.1 hk
    have HL : ∀ u w', RdL w' u es → Calls Tryd.prog 23 #[u] w' fun e w'' => e = .returned (.bool true) ∧ Drew w' w'' := fun u w' h => by rw [← hk]; exact specLeavesOk_any u es w' h
    by_cases hp : 0 ≤ p ∧ p ≤ 255
    · rw [show decide (0 ≤ p ∧ p ≤ 255) = true from decide_eq_true hp] at HP1
      have RES : Hid (wayR es p = wayL es p.toNat 8) := by unfold Hid wayR; rw [if_pos ⟨hk, hp.1, hp.2⟩]
      obtain ⟨A, rfl⟩ : ∃ A : Nat, p = (A : Int) := ⟨p.toNat, by omega⟩
      rw [Int.toNat_natCast] at RES
      have hA : A ≤ 255 := by omega
      clear hk hp
      go_enter Tryd.func21, Tryd.ntmps21
      go_wp2_with (first
        | (go_at_call 23; refine (HL _ _ hr0).mono ?_; rintro e w1 ⟨rfl, hd1⟩)
        | (go_at_call 49; refine (HP1 _).mono ?_; rintro e w1b ⟨rfl, rfl⟩)
        | (go_at_call 57; refine (l12Row_any _ es _ (hr0.below hd1.below) HO.out).mono ?_; rintro e w2 ⟨u2, rfl, ho2, hb2⟩))
      have b1 := b0.trans (hd1.below.mono (by simp))
      have b2 := b1.trans (hb2.mono b1.size)
      have s1 := hd1.below.size
      have o1 := ho0.below hd1.below
      have o2 := o1.below hb2
      obtain ⟨a2, c2, rfl⟩ : ∃ a c, u2 = .slice a 256 c := by
        obtain ⟨a, c, h1, h2, _⟩ := ho2.rd
        rw [rowG_len] at h1
        exact ⟨a, c, h1⟩
      have hsz : w.heap.size + 1 ≤ w1b.heap.size := by simpa using s1
      have r2 : OwnI w2 (w.heap.size + 1) (.slice a2 256 c2) (rowG (fL es) 0) := ho2.mono hsz
      clear ho2 hb2 hd1 HL HP1 ho0 hr0 b0 b1 o1 hr s1 hsz
      go_loopw [1, 5, 6] (fun s1 s5 s6 wr => ∃ (s n c B : Nat) (a : Option Addr) (u : Value), s ≤ 8 ∧ s1 = .int .i64 ((B : Nat) : Int) ∧ s5 = u ∧ s6 = .slice a n c ∧ Hid (n = 2 ^ (8 - s)) ∧ Hid (B = A / 2 ^ s) ∧ OwnI wr w.heap.size u (wayL es A s) ∧ OwnI wr w.heap.size (.slice a n c) (rowG (fL es) s) ∧ Hid (∀ k, u.ownBlock = some k → (Value.slice a n c).ownBlock = some k → False) ∧ Below w.heap.size w wr) (fun _ _ s6 _ => lenV s6)
      case atStart => exact ⟨0, 256, c2, A, a2, _, by omega, rfl, rfl, rfl, rfl, by unfold Hid; simp, o2, r2.mono (by omega), (fun k h1 h2 => by have h3 := (World.ownsRow.lt r2 k h2).1; have e : w.heap.size = k := Option.some.inj h1; omega), b2⟩
      case round =>
        obtain ⟨s, n, c, B, a, u, hs, rfl, rfl, rfl, HN, HB, ho, hrow, HD, hb⟩ := hrel
        clear o2 r2 b2
        by_cases hlt : s < 8
        · have hp := pow_pos8 (s + 1)
          have hh := rowG_half hlt
          have h8 := pow_le8 s
          have hn2 : 1 < n := by rw [HN.out]; omega
          have hn3 : (1 : Int) < (n : Int) := by omega
          have hn4 : 2 ^ (8 - (s + 1)) < n := by rw [HN.out]; omega
          have HN4 : Hid (2 ^ (8 - (s + 1)) < n) := hn4
          have hBn : B < 2 * 2 ^ (8 - (s + 1)) := by
            rw [HB.out, ← hh]
            apply Nat.div_lt_of_lt_mul
            rw [← Nat.pow_add, show s + (8 - s) = 8 by omega]
            omega
          obtain ⟨j, hj⟩ : ∃ j, j = B ^^^ 1 := ⟨_, rfl⟩
          have hjn : j < n := by rw [HN.out, hh, hj]; exact xor1_lt hBn
          have hjn2 : (j : Int) < (n : Int) := by omega
          have hlr : (rowG (fL es) s).length = n := by rw [rowG_len, HN.out]
          have hxor : bits .xor .i64 (B : Int) 1 = (j : Int) := by rw [hj]; exact xor1_bits B (by have := h8; omega)
          obtain ⟨b, off, rfl, c0⟩ := hrow.rd.at j (by rw [hlr]; exact hjn)
          have hx : (rowG (fL es) s)[j]'(by rw [hlr]; exact hjn) = besL es A s := by
            rw [getD_at, rowG_get _ _ _ (by rw [← HN.out]; exact hjn)]
            unfold besL
            rw [hj, HB.out]
          rw [hx] at c0
          have e5 : Hid (wayL es A (s + 1) = wayL es A s ++ [besL es A s]) := wayL_succ es A s
          have hwl := wayL_len es A s
          have HU : Hid (∀ W, RdI W (.slice (some ⟨b, off, none⟩) n c) (rowG (fL es) s) → Calls Tryd.prog 58 #[.slice (some ⟨b, off, none⟩) n c] W fun e w' => ∃ u, e = .returned u ∧ OwnI w' W.heap.size u (rowG (fL es) (s + 1)) ∧ Below W.heap.size W w') := fun W h => by
            rw [← upR_row _ _ hlt]
            exact l12Up_any _ _ _ W h (by rw [rowG_len, hh]) h8 (rowG_i64 es s)
          generalize besL es A s = x at c0 e5
          generalize wayL es A s = ys at ho e5 hwl
          have hyl : ys.length ≤ 8 := by omega
          have HB255 : Hid (B ≤ 255) := by unfold Hid; have := h8; omega
          have hB2 := half_i64 B HB255.out
          have HB2 : Hid (B / 2 = A / 2 ^ (s + 1)) := by unfold Hid; rw [HB.out, Nat.div_div_eq_div_mul, ← Nat.pow_succ]
          clear hp hh h8 hn2 hn4 hBn hj hlr hx hwl
          go_wp2_with (at_builtin; (refine wpList_append_ints rfl _ _ rfl w.heap.size _ _ ys [x] rfl rfl (ho.below (below1 _ (.cells #[.int .i64 x] 2))) (ownI_one _ x).rd (by simp; omega) (by have := hb.size; simp; omega) ?_))
          intro u' w' ho' hg'
          have b' := (hb.alloc hb.size (.cells #[.int .i64 x] 2)).grown hg' (by have := hb.size; simp; omega) (fun k hk => (World.ownsRow.lt ho k hk).1)
          have hrow' : OwnI w' w.heap.size (.slice (some ⟨b, off, none⟩) n c) (rowG (fL es) s) := row_kept (hrow.below (below1 _ (.cells #[.int .i64 x] 2))) hg' (fun k hk e => HD.out k e hk)
          have hlu := ownI_lt ho'
          rw [← e5.out] at ho'
          clear hg' ho hb hrow HD c0
          go_wp2_with fail
          refine (HU.out _ hrow'.rd).mono ?_
          rintro e w3 ⟨u3, rfl, ho3, hb3⟩
          obtain ⟨a3, c3, e3⟩ : ∃ a c, u3 = .slice a (2 ^ (8 - (s + 1))) c := by
            obtain ⟨a, c, h1, _⟩ := ho3.rd
            rw [rowG_len] at h1
            exact ⟨a, c, h1⟩
          obtain ⟨n3, hn3'⟩ : ∃ n3, n3 = 2 ^ (8 - (s + 1)) := ⟨_, rfl⟩
          rw [← hn3'] at e3
          have HN3 : Hid (n3 = 2 ^ (8 - (s + 1))) := hn3'
          subst e3
          have b3 := b'.trans (hb3.mono b'.size)
          have o3 := ho3.mono b'.size
          have ho2 := ho'.below hb3
          have HD2 : Hid (∀ k, u'.ownBlock = some k → (Value.slice a3 n3 c3).ownBlock = some k → False) := fun k h1 h2 => by
            have := hlu k h1
            have := (World.ownsRow.lt ho3 k h2).1
            omega
          clear ho' b' ho3 hb3 hn3' hlu hrow'
          go_wp2
          go_roundw
          case rel => exact ⟨s + 1, n3, c3, B / 2, a3, u', by omega, by rw [half_w64 B HB255.out], rfl, rfl, HN3, HB2, ho2, o3, HD2, b3⟩
          case measure => show n3 < n; rw [HN3.out]; exact HN4.out
        · have hs8 : s = 8 := by omega
          subst hs8
          have hn1 : n = 1 := HN.out
          subst hn1
          clear HD hrow
          go_wp2
          go_ret
          exact ⟨_, rfl, by rw [RES.out]; exact ho, hb⟩
    · have RES : Hid (wayR es p = []) := by unfold Hid wayR; rw [if_neg (fun h => hp h.2)]
      rw [show decide (0 ≤ p ∧ p ≤ 255) = false from decide_eq_false hp] at HP1
      clear hk hp
      go_enter Tryd.func21, Tryd.ntmps21
      go_wp2_with (first
        | (go_at_call 23; refine (HL _ _ hr0).mono ?_; rintro e w1 ⟨rfl, hd1⟩)
        | (go_at_call 49; refine (HP1 _).mono ?_; rintro e w2 ⟨rfl, rfl⟩))
      go_ret
      exact ⟨_, rfl, by rw [RES.out]; exact ho0.below hd1.below, b0.trans (hd1.below.mono (by simp))⟩
end Go.Proofs.YtmfopbkhlekhkaaDoor
