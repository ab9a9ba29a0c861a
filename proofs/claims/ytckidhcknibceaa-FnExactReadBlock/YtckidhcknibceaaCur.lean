/- The contracts of the cursor's methods left and number: a number is read where the cursor stands, and the cursor goes on behind it. -/
import Derived.Test.YtckidhcknibceaaRdBase
import Derived.BigQuiet
namespace Go.Proofs.Ytckidhcknibceaa
open Go.RowKit
/-- The cursor at block g, made behind the world w0: it reads the bytes bs, which lie in w0 behind the slice v, and stands ahead of byte p. -/
structure Cur (w0 w : World) (g : Nat) (v : Value) (bs : List UInt8) (p : Nat) : Prop where
  rd : Rd w0 v bs
  ge : w0.heap.size ≤ g
  blk : w.heap[g]? = some (.cells #[v, .int .i64 (p : Int)] 59 (0, 0))
  bel : Below w0.heap.size w0 w
  le : p ≤ bs.length
theorem Cur.cells {w0 w : World} {g : Nat} {v : Value} {bs : List UInt8} {p : Nat} (h : Cur w0 w g v bs p) : w.cell? ⟨g, 0, none⟩ = some v ∧ w.cell? ⟨g, 1, none⟩ = some (.int .i64 (p : Int)) ∧ w.frozen? ⟨g, 1, none⟩ = false := by
  have := h.blk
  refine ⟨?_, ?_, ?_⟩ <;> simp [World.cell?, World.frozen?, this]
theorem cur_new {w : World} {v : Value} {bs : List UInt8} (h : Rd w v bs) : Cur w (w.alloc (.cells #[v, .int .i64 0] 59)) w.heap.size v bs 0 :=
  ⟨h, Nat.le_refl _, heap_alloc_new w _, (Below.refl _ _).alloc (Nat.le_refl _) _, Nat.zero_le _⟩
theorem Cur.drewN {w0 w : World} {g : Nat} {v : Value} {bs : List UInt8} {p : Nat} (h : Cur w0 w g v bs p) (q : Nat) : Cur w0 (w.drewN q) g v bs p := ⟨h.rd, h.ge, h.blk, below_drewN h.bel q, h.le⟩
theorem Cur.moved {w0 w : World} {g : Nat} {v : Value} {bs : List UInt8} {p : Nat} (h : Cur w0 w g v bs p) (p' : Nat) (hp : p' ≤ bs.length) : Cur w0 (w.setCell ⟨g, 1, none⟩ (.int .i64 (p' : Int))) g v bs p' :=
  ⟨h.rd, h.ge, by rw [heap_setCell_same w g 1 _ _ _ h.blk]; rfl, h.bel.setCell h.ge _, hp⟩
theorem Cur.grown {w : World} {g : Nat} (u : Value) : w.grownBy (w.setCell ⟨g, 1, none⟩ u) (some g) :=
  ⟨rfl, rfl, rfl, by simp, fun k _ hk => heap_setCell_other w ⟨g, 1, none⟩ k u (fun e => hk (by simp [e]))⟩
theorem grownBy_drewN {a w : World} {row : Option Nat} (h : a.grownBy w row) (q : Nat) : a.grownBy (w.drewN q) row := ⟨h.os, h.tape, h.output, h.size, h.block⟩
theorem grownBy_self (a : World) (row : Option Nat) : a.grownBy a row := ⟨rfl, rfl, rfl, Nat.le_refl _, fun _ _ _ => rfl⟩
theorem moved_at {w0 w : World} {g : Nat} {v : Value} {bs : List UInt8} {p : Nat} (h : Cur w0 w g v bs p) (q j : Nat) {i : Nat} (hp : p + i < bs.length) (hj : j = i + 1) : Cur w0 ((w.drewN q).setCell ⟨g, 1, none⟩ (.int .i64 ((p : Int) + ((i : Int) + 1)))) g v bs (p + j) := by
  have := (h.drewN q).moved (p + j) (by omega)
  rw [show ((p + j : Nat) : Int) = (p : Int) + ((i : Int) + 1) by omega] at this
  exact this
theorem moved_by (w : World) (q g : Nat) {u : Value} : w.grownBy ((w.drewN q).setCell ⟨g, 1, none⟩ u) (some g) := by
  have h : (w.drewN q).grownBy ((w.drewN q).setCell ⟨g, 1, none⟩ u) (some g) := Cur.grown u
  exact ⟨h.os, h.tape, h.output, h.size, h.block⟩
/-- What number leaves: the number and whether there is one; the cursor stands behind it; nothing but the cursor's own block has turned. -/
def NumPost (w0 w : World) (g : Nat) (v : Value) (bs : List UInt8) (p : Nat) (R : Nat × Nat) (e : Ending) (w' : World) : Prop :=
  ∃ p', e = .returned (.tuple #[.int .i64 (R.1 : Int), .bool (decide (R.2 ≠ 0))]) ∧ Cur w0 w' g v bs p' ∧ (R.2 ≠ 0 → p' = p + R.2) ∧ w.grownBy w' (some g)
theorem numPost_no {w0 w : World} {g : Nat} {v : Value} {bs : List UInt8} {p : Nat} {R : Nat × Nat} (h : Cur w0 w g v bs p) (hR : R = (0, 0)) (q : Nat) : NumPost w0 w g v bs p R (.returned (.tuple #[.int .i64 0, .bool false])) (w.drewN q) :=
  ⟨p, by rw [hR]; rfl, h.drewN q, fun h => by rw [hR] at h; exact absurd rfl h, grownBy_drewN (grownBy_self _ _) _⟩
theorem numPost_yes {w0 w : World} {g : Nat} {v : Value} {bs : List UInt8} {p m d i : Nat} {R : Nat × Nat} (h : Cur w0 w g v bs p) (hR : R = (m + d, i + 1)) (q : Nat) (hp : p + i < bs.length) :
    NumPost w0 w g v bs p R (.returned (.tuple #[.int .i64 ((m : Int) + (d : Int)), .bool true])) ((w.drewN q).setCell ⟨g, 1, none⟩ (.int .i64 ((p : Int) + ((i : Int) + 1)))) :=
  ⟨p + (i + 1), by rw [hR]; simp, moved_at h q (i + 1) hp rfl, fun _ => by rw [hR], moved_by _ _ _⟩

set_option maxHeartbeats 400000 in
set_option maxRecDepth 100000 in
theorem left_any (w0 w : World) (g : Nat) (v : Value) (bs : List UInt8) (p : Nat) (h : Cur w0 w g v bs p) :
    Calls Try.prog 33 #[.pointer (some ⟨g, 0, none⟩)] w fun e w' => e = .returned (.int .i64 ((bs.length : Int) - (p : Int))) ∧ ∃ q, w' = w.drewN q := by
  obtain ⟨a, cap, rfl, hl, hm, hA⟩ := h.rd
  obtain ⟨c0, c1, _⟩ := h.cells
  have hle := h.le
  unfold maxLen at hm
  clear hA h
  go_enter Try.func33, Try.ntmps33
  go_wp2
  go_quiet (fail)
  go_wp2
  go_ret
  exact ⟨rfl, _, rfl⟩

set_option maxHeartbeats 1000000 in
set_option maxRecDepth 100000 in
theorem number_any (w0 w : World) (g : Nat) (v : Value) (bs : List UInt8) (p : Nat) (h : Cur w0 w g v bs p) :
    Calls Try.prog 50 #[.pointer (some ⟨g, 0, none⟩)] w fun e w' => NumPost w0 w g v bs p (rdNum (bs.drop p)) e w' := by
  obtain ⟨R, hR⟩ : ∃ R, R = rdNum (bs.drop p) := ⟨_, rfl⟩
  rw [← hR]
  have hle := h.le
  have HC : Hid (Cur w0 w g v bs p) := h
  obtain ⟨a, cap, hv, hl, hm, hA⟩ := h.rd.below h.bel
  unfold maxLen at hm
  go_enter Try.func50, Try.ntmps50
  go_wp2_with fail
  refine (left_any w0 w g v bs p h).mono ?_
  rintro e w1 ⟨rfl, q1, rfl⟩
  clear h
  subst hv
  have HR0 : Hid (R = rdF 6 0 0 1 (bs.drop p)) := hR
  clear hR
  go_wp2
  all_goals
    go_loopw [4, 5, 11] (fun n u i wr => ∃ k m q qd : Nat, k ≤ 6 ∧ p + k ≤ bs.length ∧ i = .int .i64 k ∧ n = .int .i64 m ∧ u = .int .i64 q ∧ m < q ∧ q ≤ 4398046511104 ∧ (k < 6 → q ≤ 34359738368) ∧ Hid (q = 128 ^ k ∧ R = rdF (6 - k) k m q (bs.drop (p + k))) ∧ wr = w.drewN qd) (fun _ _ i _ => 6 - (intOf i).toNat)
    case atStart => exact ⟨0, 0, 1, q1, by omega, by omega, rfl, rfl, rfl, by omega, by omega, by omega, ⟨rfl, HR0.out⟩, rfl⟩
    case round =>
      obtain ⟨k, m, q, qd, hk6, hk, rfl, rfl, rfl, hmq, hq, hq6, HR, rfl⟩ := hrel
      by_cases hlt : p + k < bs.length
      · by_cases h6 : k < 6
        · obtain ⟨b0, off, ha, hc⟩ : ∃ b0 off, a = some ⟨b0, off, none⟩ ∧ w.cell? ⟨b0, off + (p + k), none⟩ = some (.int .u8 (bs[p + k].toNat : Int)) := by
            rcases hA with h | ⟨b, off, ha, hc⟩
            · subst h; simp at hlt
            · exact ⟨b, off, ha, hc (p + k) hlt⟩
          obtain ⟨c0, c1, f1⟩ := HC.out.cells
          rw [ha] at c0
          obtain ⟨b, hb⟩ : ∃ b, b = bs[p + k].toNat := ⟨_, rfl⟩
          rw [← hb] at hc
          have hb8 : b < 256 := by rw [hb]; exact UInt8.toNat_lt _
          have Hb : Hid (b = bs[p + k].toNat) := hb
          have hml := mul_le b q
          have hq7 := hq6 h6
          obtain ⟨d, hd⟩ : ∃ d, d = b % 128 * q := ⟨_, rfl⟩
          have Hd : Hid (d = b % 128 * q) := hd
          have hx : (b : Int) % 128 * (q : Int) = (d : Int) := by rw [hd, Int.natCast_mul, Int.natCast_emod]; rfl
          rw [← hd] at hml
          clear hA ha hq6 hd hb
          go_wp2
          go_quiet (fail)
          by_cases hb7 : b < 128
          · by_cases h40 : 1099511627776 < m + d
            · have HF : Hid (R = (0, 0)) := by
                have h := HR.out.2; rw [show 6 - k = (5 - k) + 1 by omega] at h
                exact h.trans (rdF_no _ _ _ _ _ b bs hlt Hb.out hb7 (by rw [← Hd.out]; exact .inl h40))
              go_wp2
              go_ret2
              exact numPost_no HC.out HF.out _
            · by_cases hb0 : b = 0
              · have hbz : ((b : Int) == 0) = true := by simp; omega
                by_cases hk0 : 0 < k
                · have HF : Hid (R = (0, 0)) := by
                    have h := HR.out.2; rw [show 6 - k = (5 - k) + 1 by omega] at h
                    exact h.trans (rdF_no _ _ _ _ _ b bs hlt Hb.out hb7 (.inr ⟨hk0, hb0⟩))
                  clear hb0
                  go_wp2
                  go_ret2
                  exact numPost_no HC.out HF.out _
                · have HF : Hid (R = (m + d, k + 1)) := by
                    have h := HR.out.2; rw [show 6 - k = (5 - k) + 1 by omega] at h
                    exact h.trans ((rdF_yes _ _ _ _ _ b bs hlt Hb.out hb7 (by rw [← Hd.out]; omega)).trans (by rw [← Hd.out]))
                  clear hb0
                  go_wp2
                  go_ret2
                  exact numPost_yes HC.out HF.out _ hlt
              · have hbz : ((b : Int) == 0) = false := by simp; omega
                have HF : Hid (R = (m + d, k + 1)) := by
                  have h := HR.out.2; rw [show 6 - k = (5 - k) + 1 by omega] at h
                  exact h.trans ((rdF_yes _ _ _ _ _ b bs hlt Hb.out hb7 (by rw [← Hd.out]; omega)).trans (by rw [← Hd.out]))
                clear hb0
                go_wp2
                go_ret2
                exact numPost_yes HC.out HF.out _ hlt
          · have HN : Hid (q * 128 = 128 ^ (k + 1) ∧ R = rdF (6 - (k + 1)) (k + 1) (m + d) (q * 128) (bs.drop (p + (k + 1)))) := by
              refine ⟨by rw [HR.out.1, Nat.pow_succ], ?_⟩
              have h := HR.out.2; rw [show 6 - k = (6 - (k + 1)) + 1 by omega] at h
              exact h.trans ((rdF_more _ _ _ _ _ b bs hlt Hb.out (by omega)).trans (by rw [← Hd.out, Nat.add_assoc]))
            have HQ : Hid (k + 1 < 6 → q ≤ 268435456) := fun hk5 => by
              have h1 := HR.out.1
              have h2 : (128 : Nat) ^ k ≤ 128 ^ 4 := Nat.pow_le_pow_right (by omega) (by omega)
              omega
            go_wp2
            go_roundw
            case rel => exact ⟨k + 1, m + d, q * 128, _, by omega, by omega, by go_num, by go_num, by go_num, by omega, by omega, fun h => by have := HQ.out h; omega, HN, rfl⟩
            case measure => simp [intOf]; omega
        · have HF : Hid (R = (0, 0)) := by
            have h := HR.out.2; rw [show 6 - k = 0 by omega] at h
            exact h
          go_wp2
          all_goals (go_ret2; exact numPost_no HC.out HF.out _)
      · have HF : Hid (R = (0, 0)) := HR.out.2.trans (rdF_end _ _ _ _ _ _ (by omega))
        go_wp2
        all_goals (go_ret2; exact numPost_no HC.out HF.out _)
end Go.Proofs.Ytckidhcknibceaa
