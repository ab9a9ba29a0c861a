/- The contracts of the cursor's methods left and number: a number is read where the cursor stands, and the cursor goes on behind it. The contract of the cursor's method text: a text is read where the cursor stands, and the cursor goes on behind it. The contracts of the program's readMany at texts and of both ReadTexts over any slice of bytes that can be read. The contracts of both ReadTexts over any slice of bytes that can be read. -/
import Derived.BigQuiet
import Derived.Test.YtpbbahpndgigjaaGreatDoorG15
namespace Go.Proofs.YtpbbahpndgigjaaGreatDoor
set_option maxHeartbeats 16000000
set_option maxRecDepth 100000
open Go.RowKit
structure Cur (w0 w : World) (g : Nat) (v : Value) (bs : List UInt8) (p : Nat) : Prop where
  rd : Rd w0 v bs
  ge : w0.heap.size ≤ g
  blk : w.heap[g]? = some (.cells #[v, .int .i64 (p : Int)] 78 (0, 0))
  bel : Below w0.heap.size w0 w
  le : p ≤ bs.length
theorem Cur.cells {w0 w : World} {g : Nat} {v : Value} {bs : List UInt8} {p : Nat} (h : Cur w0 w g v bs p) : w.cell? ⟨g, 0, none⟩ = some v ∧ w.cell? ⟨g, 1, none⟩ = some (.int .i64 (p : Int)) ∧ w.frozen? ⟨g, 1, none⟩ = false := by
  have := h.blk
  refine ⟨?_, ?_, ?_⟩ <;> simp [World.cell?, World.frozen?, this]
theorem cur_new {w : World} {v : Value} {bs : List UInt8} (h : Rd w v bs) : Cur w (w.alloc (.cells #[v, .int .i64 0] 78)) w.heap.size v bs 0 :=
  ⟨h, Nat.le_refl _, heap_alloc_new w _, (Below.refl _ _).alloc (Nat.le_refl _) _, Nat.zero_le _⟩
theorem Cur.drewN {w0 w : World} {g : Nat} {v : Value} {bs : List UInt8} {p : Nat} (h : Cur w0 w g v bs p) (q : Nat) : Cur w0 (w.drewN q) g v bs p := ⟨h.rd, h.ge, h.blk, below_drewN h.bel q, h.le⟩
theorem Cur.moved {w0 w : World} {g : Nat} {v : Value} {bs : List UInt8} {p : Nat} (h : Cur w0 w g v bs p) (p' : Nat) (hp : p' ≤ bs.length) : Cur w0 (w.setCell ⟨g, 1, none⟩ (.int .i64 (p' : Int))) g v bs p' :=
  ⟨h.rd, h.ge, by rw [heap_setCell_same w g 1 _ _ _ h.blk]; rfl, h.bel.setCell h.ge _, hp⟩
theorem Cur.grown {w : World} {g : Nat} (u : Value) : w.grownBy (w.setCell ⟨g, 1, none⟩ u) (some g) :=
  ⟨rfl, rfl, rfl, by simp, fun k _ hk => heap_setCell_other w ⟨g, 1, none⟩ k u (fun e => hk (by simp [e]))⟩
theorem grownBy_drewN {a w : World} {row : Option Nat} (h : a.grownBy w row) (q : Nat) : a.grownBy (w.drewN q) row := ⟨h.os, h.tape, h.output, h.size, h.block⟩
theorem grownBy_self (a : World) (row : Option Nat) : a.grownBy a row := ⟨rfl, rfl, rfl, Nat.le_refl _, fun _ _ _ => rfl⟩
theorem moved_at {w0 w : World} {g : Nat} {v : Value} {bs : List UInt8} {p : Nat} (h : Cur w0 w g v bs p) (q j : Nat) {i : Nat} (hp : p + i < bs.length) (hj : j = i + 1) : Cur w0 ((w.drewN q).setCell ⟨g, 1, none⟩ (.int .i64 ((p : Int) + ((i : Int) + 1)))) g v bs (p + j) := by
  have := (h.drewN q).moved (p + j) (by omega)
  rw [show ((p + j : Nat) : Int) = (p : Int) + ((i : Int) + 1) by omega] at this
  exact this
theorem moved_by (w : World) (q g : Nat) {u : Value} : w.grownBy ((w.drewN q).setCell ⟨g, 1, none⟩ u) (some g) := by
  have h : (w.drewN q).grownBy ((w.drewN q).setCell ⟨g, 1, none⟩ u) (some g) := Cur.grown u
  exact ⟨h.os, h.tape, h.output, h.size, h.block⟩
def NumPost (w0 w : World) (g : Nat) (v : Value) (bs : List UInt8) (p : Nat) (R : Nat × Nat) (e : Ending) (w' : World) : Prop :=
  ∃ p', e = .returned (.tuple #[.int .i64 (R.1 : Int), .bool (decide (R.2 ≠ 0))]) ∧ Cur w0 w' g v bs p' ∧ (R.2 ≠ 0 → p' = p + R.2) ∧ w.grownBy w' (some g)
theorem numPost_no {w0 w : World} {g : Nat} {v : Value} {bs : List UInt8} {p : Nat} {R : Nat × Nat} (h : Cur w0 w g v bs p) (hR : R = (0, 0)) (q : Nat) : NumPost w0 w g v bs p R (.returned (.tuple #[.int .i64 0, .bool false])) (w.drewN q) :=
  ⟨p, by rw [hR]; rfl, h.drewN q, fun h => by rw [hR] at h; exact absurd rfl h, grownBy_drewN (grownBy_self _ _) _⟩
theorem numPost_yes {w0 w : World} {g : Nat} {v : Value} {bs : List UInt8} {p m d i : Nat} {R : Nat × Nat} (h : Cur w0 w g v bs p) (hR : R = (m + d, i + 1)) (q : Nat) (hp : p + i < bs.length) :
    NumPost w0 w g v bs p R (.returned (.tuple #[.int .i64 ((m : Int) + (d : Int)), .bool true])) ((w.drewN q).setCell ⟨g, 1, none⟩ (.int .i64 ((p : Int) + ((i : Int) + 1)))) :=
  ⟨p + (i + 1), by rw [hR]; simp, moved_at h q (i + 1) hp rfl, fun _ => by rw [hR], moved_by _ _ _⟩

theorem left_any (w0 w : World) (g : Nat) (v : Value) (bs : List UInt8) (p : Nat) (h : Cur w0 w g v bs p) :
    Calls Tryz.prog 54 #[.pointer (some ⟨g, 0, none⟩)] w fun e w' => e = .returned (.int .i64 ((bs.length : Int) - (p : Int))) ∧ ∃ q, w' = w.drewN q := by
  obtain ⟨a, cap, rfl, hl, hm, hA⟩ := h.rd
  obtain ⟨c0, c1, _⟩ := h.cells
  have hle := h.le
  unfold maxLen at hm
  clear hA h
  go_enter Tryz.func54, Tryz.ntmps54
  go_wp2
  go_quiet (fail)
  go_wp2
  go_ret
  exact ⟨rfl, _, rfl⟩

theorem number_any (w0 w : World) (g : Nat) (v : Value) (bs : List UInt8) (p : Nat) (h : Cur w0 w g v bs p) :
    Calls Tryz.prog 52 #[.pointer (some ⟨g, 0, none⟩)] w fun e w' => NumPost w0 w g v bs p (rdNum (bs.drop p)) e w' := by
  obtain ⟨R, hR⟩ : ∃ R, R = rdNum (bs.drop p) := ⟨_, rfl⟩
  rw [← hR]
  have hle := h.le
  have HC : Hid (Cur w0 w g v bs p) := h
  obtain ⟨a, cap, hv, hl, hm, hA⟩ := h.rd.below h.bel
  unfold maxLen at hm
  go_enter Tryz.func52, Tryz.ntmps52
  go_wp2_with fail
  refine (left_any w0 w g v bs p h).mono ?_
  rintro e w1 ⟨rfl, q1, rfl⟩
  clear h
  subst hv
  have HR0 : Hid (R = rdF 6 0 0 1 (bs.drop p)) := hR
  clear hR
  go_wp2
  all_goals
    go_loopw [4, 5, 11] (fun n u i wr => ∃ k m q qd : Nat, k ≤ 6 ∧ p + k ≤ bs.length ∧ i = .int .i64 k ∧ n = .int .i64 m ∧ u = .int .i64 q ∧ m < q ∧ q ≤ 4398046511104 ∧ (k < 6 → q ≤ 34359738368) ∧ Hid (q = 128 ^ k ∧ R = rdF (6 - k) k m q (bs.drop (p + k))) ∧ wr = w.drewN qd) (fun _ _ i _ => 6 - (intOf i).toNat)
    case atStart => exact ⟨0, 0, 1, q1, by omega, by omega, rfl, rfl, rfl, by omega, by omega, by omega, ⟨rfl, HR0.out⟩, rfl⟩
    case round =>
      obtain ⟨k, m, q, qd, hk6, hk, rfl, rfl, rfl, hmq, hq, hq6, HR, rfl⟩ := hrel
      by_cases hlt : p + k < bs.length
      · by_cases h6 : k < 6
        · obtain ⟨b0, off, ha, hc⟩ : ∃ b0 off, a = some ⟨b0, off, none⟩ ∧ w.cell? ⟨b0, off + (p + k), none⟩ = some (.int .u8 (bs[p + k].toNat : Int)) := by
            rcases hA with h | ⟨b, off, ha, hc⟩
            · subst h; simp at hlt
            · exact ⟨b, off, ha, hc (p + k) hlt⟩
          obtain ⟨c0, c1, f1⟩ := HC.out.cells
          rw [ha] at c0
          obtain ⟨b, hb⟩ : ∃ b, b = bs[p + k].toNat := ⟨_, rfl⟩
          rw [← hb] at hc
          have hb8 : b < 256 := by rw [hb]; exact UInt8.toNat_lt _
          have Hb : Hid (b = bs[p + k].toNat) := hb
          have hml := mul_le b q
          have hq7 := hq6 h6
          obtain ⟨d, hd⟩ : ∃ d, d = b % 128 * q := ⟨_, rfl⟩
          have Hd : Hid (d = b % 128 * q) := hd
          have hx : (b : Int) % 128 * (q : Int) = (d : Int) := by rw [hd, Int.natCast_mul, Int.natCast_emod]; rfl
          rw [← hd] at hml
          clear hA ha hq6 hd hb
          go_wp2
          go_quiet (fail)
          by_cases hb7 : b < 128
          · by_cases h40 : 1099511627776 < m + d
            · have HF : Hid (R = (0, 0)) := by
                have h := HR.out.2; rw [show 6 - k = (5 - k) + 1 by omega] at h
                exact h.trans (rdF_no _ _ _ _ _ b bs hlt Hb.out hb7 (by rw [← Hd.out]; exact .inl h40))
              go_wp2
              go_ret2
              exact numPost_no HC.out HF.out _
            · by_cases hb0 : b = 0
              · have hbz : ((b : Int) == 0) = true := by simp; omega
                by_cases hk0 : 0 < k
                · have HF : Hid (R = (0, 0)) := by
                    have h := HR.out.2; rw [show 6 - k = (5 - k) + 1 by omega] at h
                    exact h.trans (rdF_no _ _ _ _ _ b bs hlt Hb.out hb7 (.inr ⟨hk0, hb0⟩))
                  clear hb0
                  go_wp2
                  go_ret2
                  exact numPost_no HC.out HF.out _
                · have HF : Hid (R = (m + d, k + 1)) := by
                    have h := HR.out.2; rw [show 6 - k = (5 - k) + 1 by omega] at h
                    exact h.trans ((rdF_yes _ _ _ _ _ b bs hlt Hb.out hb7 (by rw [← Hd.out]; omega)).trans (by rw [← Hd.out]))
                  clear hb0
                  go_wp2
                  go_ret2
                  exact numPost_yes HC.out HF.out _ hlt
              · have hbz : ((b : Int) == 0) = false := by simp; omega
                have HF : Hid (R = (m + d, k + 1)) := by
                  have h := HR.out.2; rw [show 6 - k = (5 - k) + 1 by omega] at h
                  exact h.trans ((rdF_yes _ _ _ _ _ b bs hlt Hb.out hb7 (by rw [← Hd.out]; omega)).trans (by rw [← Hd.out]))
                clear hb0
                go_wp2
                go_ret2
                exact numPost_yes HC.out HF.out _ hlt
          · have HN : Hid (q * 128 = 128 ^ (k + 1) ∧ R = rdF (6 - (k + 1)) (k + 1) (m + d) (q * 128) (bs.drop (p + (k + 1)))) := by
              refine ⟨by rw [HR.out.1, Nat.pow_succ], ?_⟩
              have h := HR.out.2; rw [show 6 - k = (6 - (k + 1)) + 1 by omega] at h
              exact h.trans ((rdF_more _ _ _ _ _ b bs hlt Hb.out (by omega)).trans (by rw [← Hd.out, Nat.add_assoc]))
            have HQ : Hid (k + 1 < 6 → q ≤ 268435456) := fun hk5 => by
              have h1 := HR.out.1
              have h2 : (128 : Nat) ^ k ≤ 128 ^ 4 := Nat.pow_le_pow_right (by omega) (by omega)
              omega
            go_wp2
            go_roundw
            case rel => exact ⟨k + 1, m + d, q * 128, _, by omega, by omega, by go_num, by go_num, by go_num, by omega, by omega, fun h => by have := HQ.out h; omega, HN, rfl⟩
            case measure => simp [intOf]; omega
        · have HF : Hid (R = (0, 0)) := by
            have h := HR.out.2; rw [show 6 - k = 0 by omega] at h
            exact h
          go_wp2
          all_goals (go_ret2; exact numPost_no HC.out HF.out _)
      · have HF : Hid (R = (0, 0)) := HR.out.2.trans (rdF_end _ _ _ _ _ _ (by omega))
        go_wp2
        all_goals (go_ret2; exact numPost_no HC.out HF.out _)
open Go.RowKit
def TextPost (w0 w : World) (g : Nat) (v : Value) (bs : List UInt8) (p : Nat) (T : List UInt8 × Nat) (e : Ending) (w' : World) : Prop :=
  ∃ p', e = .returned (.tuple #[.string ⟨T.1.toArray⟩, .bool (decide (T.2 ≠ 0))]) ∧ Cur w0 w' g v bs p' ∧ (T.2 ≠ 0 → p' = p + T.2) ∧ w.grownBy w' (some g)
theorem grown_trans {a b c : World} {row : Option Nat} (h : a.grownBy b row) (k : b.grownBy c row) : a.grownBy c row :=
  ⟨k.os.trans h.os, k.tape.trans h.tape, k.output.trans h.output, Nat.le_trans h.size k.size, fun i hi hr => (k.block i (Nat.lt_of_lt_of_le hi h.size) hr).trans (h.block i hi hr)⟩
theorem textPost_no {w0 w w1 : World} {g : Nat} {v : Value} {bs : List UInt8} {p p1 : Nat} {T : List UInt8 × Nat} (h : Cur w0 w1 g v bs p1) (hg : w.grownBy w1 (some g)) (hT : T = ([], 0)) (q : Nat) : TextPost w0 w g v bs p T (.returned (.tuple #[.string ⟨#[]⟩, .bool false])) (w1.drewN q) :=
  ⟨p1, by rw [hT]; rfl, h.drewN q, fun h => by rw [hT] at h; exact absurd rfl h, grownBy_drewN hg _⟩
theorem textPost_yes {w0 w w1 : World} {g : Nat} {v : Value} {bs l : List UInt8} {p k n : Nat} {T : List UInt8 × Nat} (h : Cur w0 w1 g v bs (p + k)) (hg : w.grownBy w1 (some g)) (hk : k ≠ 0) (hT : T = (l, k + n)) (hn : p + k + n ≤ bs.length) (q r : Nat) :
    TextPost w0 w g v bs p T (.returned (.tuple #[.string ⟨l.toArray⟩, .bool true])) ((((w1.drewN q).setCell ⟨g, 1, none⟩ (.int .i64 ((p : Int) + (k : Int) + (n : Int))))).drewN r) := by
  have hc := ((h.drewN q).moved (p + k + n) hn).drewN r
  rw [show ((p + k + n : Nat) : Int) = (p : Int) + (k : Int) + (n : Int) by omega] at hc
  refine ⟨p + k + n, ?_, hc, fun _ => by rw [hT]; omega, grownBy_drewN (grown_trans (grownBy_drewN hg q) (Cur.grown _)) r⟩
  rw [hT]
  have : decide (k + n ≠ 0) = true := by simp; omega
  rw [this]
theorem conv_cut' (w : World) (b off k n c : Nat) (bs l : List UInt8) (h : k + n ≤ bs.length) (hl : (bs.drop k).take n = l) (hc : ∀ i (h : i < bs.length), w.cell? ⟨b, off + i, none⟩ = some (.int .u8 (bs[i].toNat : Int))) :
    ∀ q, (convert 22 9 (.slice (some ⟨b, off + k, none⟩) n c)).run Tryz.prog (w.drewN q) = .ok (.string ⟨l.toArray⟩) (w.drewN q) := fun q => by rw [← hl]; exact conv_cut (w.drewN q) b off k n c bs h hc

theorem text_any (w0 w : World) (g : Nat) (v : Value) (bs : List UInt8) (p : Nat) (h : Cur w0 w g v bs p) :
    Calls Tryz.prog 53 #[.pointer (some ⟨g, 0, none⟩)] w fun e w' => TextPost w0 w g v bs p (rdText (bs.drop p)) e w' := by
  have hlen := rdNum_len (bs.drop p)
  obtain ⟨a, cap, hv, hl, hm, hA⟩ := h.rd
  unfold maxLen at hm
  subst hv
  have HA : Hid (bs = [] ∨ ∃ b off, a = some ⟨b, off, none⟩ ∧ ∀ i (h : i < bs.length), w0.cell? ⟨b, off + i, none⟩ = some (.int .u8 (bs[i].toNat : Int))) := hA
  clear hA
  obtain ⟨T, hT⟩ : ∃ T, T = rdText (bs.drop p) := ⟨_, rfl⟩
  rw [← hT]
  have HN := number_any w0 w g _ bs p h
  unfold rdText at hT
  obtain ⟨R, hR⟩ : ∃ R, R = rdNum (bs.drop p) := ⟨_, rfl⟩
  rw [← hR] at hlen HN hT
  clear hR
  obtain ⟨n, k⟩ := R
  have HT : Hid (T = if k = 0 ∨ 3000 < n ∨ (bs.drop p).length < k + n then ([], 0) else (((bs.drop p).drop k).take n, k + n)) := hT
  have HC : Hid (Calls _ _ _ _ _) := HN
  rw [List.length_drop] at hlen HT
  have hple := h.le
  clear HN hT
  simp only at hlen
  by_cases h0 : k = 0
  · have HF : Hid (T = ([], 0)) := by rw [if_pos (.inl h0)] at HT; exact HT
    clear HT
    go_enter Tryz.func53, Tryz.ntmps53
    go_wp2_with fail
    refine HC.out.mono ?_
    rintro e w1 ⟨p1, rfl, hc, hp, hg⟩
    have hb : decide ((n, k).2 ≠ 0) = false := by simp [h0]
    rw [hb]
    clear hb hp h0
    go_wp2
    go_ret2
    exact textPost_no hc hg HF.out 0
  have hb : decide ((n, k).2 ≠ 0) = true := by simp [h0]
  by_cases h1 : 3000 < n
  · have HF : Hid (T = ([], 0)) := by rw [if_pos (.inr (.inl h1))] at HT; exact HT
    clear HT
    go_enter Tryz.func53, Tryz.ntmps53
    go_wp2_with fail
    refine HC.out.mono ?_
    rintro e w1 ⟨p1, rfl, hc, hp, hg⟩
    rw [hb]
    clear hb hp
    go_wp2
    go_ret2
    exact textPost_no hc hg HF.out 0
  by_cases h2 : bs.length - p < k + n
  · have HF : Hid (T = ([], 0)) := by rw [if_pos (.inr (.inr h2))] at HT; exact HT
    clear HT
    go_enter Tryz.func53, Tryz.ntmps53
    go_wp2_with fail
    refine HC.out.mono ?_
    rintro e w1 ⟨p1, rfl, hc, hp, hg⟩
    rw [hb]
    have hp1 : p1 = p + k := hp h0
    subst hp1
    clear hb hp
    go_wp2_with fail
    refine (left_any w0 _ g _ bs _ hc).mono ?_
    rintro e w2 ⟨rfl, q2, rfl⟩
    go_wp2
    go_ret2
    exact textPost_no hc hg HF.out _
  have HF : Hid (T = (((bs.drop p).drop k).take n, k + n)) := by rw [if_neg (by omega)] at HT; exact HT
  go_enter Tryz.func53, Tryz.ntmps53
  go_wp2_with fail
  refine HC.out.mono ?_
  rintro e w1 ⟨p1, rfl, hc, hp, hg⟩
  rw [hb]
  have hp1 : p1 = p + k := hp h0
  subst hp1
  clear hb hp HT
  go_wp2_with fail
  refine (left_any w0 _ g _ bs _ hc).mono ?_
  rintro e w2 ⟨rfl, q2, rfl⟩
  obtain ⟨c0, c1, f1⟩ := hc.cells
  go_wp2
  obtain ⟨b, off, ha, hA⟩ : ∃ b off, a = some ⟨b, off, none⟩ ∧ ∀ i (h : i < bs.length), w0.cell? ⟨b, off + i, none⟩ = some (.int .u8 (bs[i].toNat : Int)) := by
    rcases HA.out with h | h
    · subst h; simp at hlen; omega
    · exact h
  have hcm := (hc.drewN q2).moved (p + k + n) (by omega)
  rw [show ((p + k + n : Nat) : Int) = (p : Int) + (k : Int) + (n : Int) by omega] at hcm
  generalize hW : (w1.drewN q2).setCell ⟨g, 1, none⟩ (.int .i64 ((p : Int) + (k : Int) + (n : Int))) = W at hcm ⊢
  have HW : Hid ((w1.drewN q2).setCell ⟨g, 1, none⟩ (.int .i64 ((p : Int) + (k : Int) + (n : Int))) = W) := hW
  have hAW : ∀ i (h : i < bs.length), W.cell? ⟨b, off + i, none⟩ = some (.int .u8 (bs[i].toNat : Int)) := fun i hi => by rw [hcm.bel.cell (World.block_lt_of_cell? w0 _ (hA i hi))]; exact hA i hi
  obtain ⟨d0, d1, e1⟩ := hcm.cells
  rw [show ((p + k + n : Nat) : Int) = (p : Int) + (k : Int) + (n : Int) by omega] at d1
  rw [ha] at d0
  generalize hl' : ((bs.drop p).drop k).take n = l at HF
  rw [List.drop_drop] at hl'
  have hcv := conv_cut' W b off (p + k) n (cap - (p + k)) bs l (by omega) hl' hAW
  have hlc : l.length = n := by rw [← hl']; exact cut_len bs (p + k) n (by omega)
  clear hW hA hcm hAW c0 c1 f1 hl' ha
  by_cases hcap : cap = p + k
  · subst hcap
    have hn0 : n = 0 := by omega
    have hl0 : l = [] := by have h := hlc; exact List.length_eq_zero_iff.1 (by omega)
    have hcn : ∀ q, (convert 22 9 (.slice (some ⟨b, off, none⟩) n 0)).run Tryz.prog (W.drewN q) = .ok (.string ⟨l.toArray⟩) (W.drewN q) := fun q => conv_none (W.drewN q) b off n 0 hn0 l hl0
    clear hcv hlc hn0 hl0
    go_quiet (fail)
    go_wp2
    go_ret2
    rw [← HW.out]
    exact textPost_yes hc hg h0 HF.out (by omega) q2 _
  · clear hlc
    go_quiet (fail)
    go_wp2
    go_ret2
    rw [← HW.out]
    exact textPost_yes hc hg h0 HF.out (by omega) q2 _
open Go.RowKit
theorem Cur.lt {w0 w : World} {g : Nat} {v : Value} {bs : List UInt8} {p : Nat} (h : Cur w0 w g v bs p) : g < w.heap.size := (Array.getElem?_eq_some_iff.1 h.blk).1
theorem Cur.alloc {w0 w : World} {g : Nat} {v : Value} {bs : List UInt8} {p : Nat} (h : Cur w0 w g v bs p) (o : Obj) : Cur w0 (w.alloc o) g v bs p :=
  ⟨h.rd, h.ge, by rw [Below.heap_alloc w o g h.lt]; exact h.blk, h.bel.alloc (by have := h.ge; have := h.lt; omega) o, h.le⟩
theorem Cur.grow {w0 w w' : World} {g : Nat} {v : Value} {bs : List UInt8} {p : Nat} {row : Option Nat} (h : Cur w0 w g v bs p) (hg : w.grownBy w' row) (hr : ∀ k, row = some k → g < k) : Cur w0 w' g v bs p :=
  ⟨h.rd, h.ge, by rw [hg.block g h.lt (fun e => by have := hr g e.symm; omega)]; exact h.blk, h.bel.grown hg (by have := h.ge; have := h.lt; omega) (fun k hk => by have := hr k hk; have := h.ge; omega), h.le⟩
def ManyI (w0 w : World) (g : Nat) (v : Value) (bs : List UInt8) (res : Option (List ByteArray × Nat)) (e : Ending) (w' : World) : Prop :=
  ∃ u p', e = .returned (.tuple #[u, .bool res.isSome]) ∧ OwnS w' w.heap.size u (res.elim [] Prod.fst) ∧ Cur w0 w' g v bs p' ∧ ∀ r, res = some r → p' = r.2
theorem manyI_no {w0 w wr : World} {B g : Nat} {v : Value} {bs : List UInt8} {p : Nat} {res : Option (List ByteArray × Nat)} {u : Value} (h : res = none) (ho : OwnS wr B u []) (hB : w.heap.size ≤ B) (hc : Cur w0 wr g v bs p) : ManyI w0 w g v bs res (.returned (.tuple #[u, .bool false])) wr := by
  subst h
  exact ⟨u, p, rfl, ho.mono hB, hc, fun r hr => by cases hr⟩
theorem manyI_yes {w0 w wr : World} {g : Nat} {v : Value} {bs : List UInt8} {p : Nat} {res : Option (List ByteArray × Nat)} {u : Value} {ss : List ByteArray} (h : res = some (ss, p)) (ho : OwnS wr w.heap.size u ss) (hc : Cur w0 wr g v bs p) : ManyI w0 w g v bs res (.returned (.tuple #[u, .bool true])) wr := by
  subst h
  exact ⟨u, p, rfl, ho, hc, fun r hr => by cases hr; rfl⟩
theorem ownS_kept {w w' : World} {B g : Nat} {u : Value} {ss : List ByteArray} (h : OwnS w B u ss) (hg : w.grownBy w' (some g)) (hB : g < B) : OwnS w' B u ss := by
  refine World.ownsRow.kept h hg ?_
  cases hu : u.ownBlock with
  | none => exact .inl rfl
  | some k => exact .inr fun e => by have := (World.ownsRow.lt h k hu).1; simp at e; omega

theorem readMany_any (w0 w : World) (g : Nat) (v : Value) (bs : List UInt8) (h : Cur w0 w g v bs 0) :
    Calls Tryz.prog 51 #[.func (.func 52) #[.pointer (some ⟨g, 0, none⟩)] #[], .int .i64 200, .func (.func 53) #[.pointer (some ⟨g, 0, none⟩)] #[]] w fun e w' => ManyI w0 w g v bs (rdAll bs) e w' := by
  have hlen := rdNum_len bs
  obtain ⟨i0, hi, hz0, hz1, hz2⟩ := info_parts Tryz.info9
  obtain ⟨res, hres⟩ : ∃ res, res = rdAll bs := ⟨_, rfl⟩
  rw [← hres]
  have HN := number_any w0 w g v bs 0 h
  rw [List.drop_zero] at HN
  unfold rdAll at hres
  obtain ⟨R, hR⟩ : ∃ R, R = rdNum bs := ⟨_, rfl⟩
  rw [← hR] at hlen HN hres
  clear hR
  obtain ⟨n, k⟩ := R
  have HR : Hid (res = if k = 0 ∨ 200 < n then none else rdAcc bs n k []) := hres
  have HC : Hid (Calls _ _ _ _ _) := HN
  have hgl := h.lt
  clear HN hres
  simp only at hlen
  by_cases h0 : k = 0
  · have HF : Hid (res = none) := by rw [if_pos (.inl h0)] at HR; exact HR
    clear HR
    go_enter Tryz.func51, Tryz.ntmps51
    go_wp2_with fail
    refine HC.out.mono ?_
    rintro e w1 ⟨p1, rfl, hc, hp, hg⟩
    have hb : decide ((n, k).2 ≠ 0) = false := by simp [h0]
    rw [hb]
    have hgs := hg.size
    clear hb hp h0 hg h
    go_wp2
    go_ret2
    exact manyI_no HF.out (ownS_none _) hgs (hc.alloc _)
  have hb : decide ((n, k).2 ≠ 0) = true := by simp [h0]
  by_cases h1 : 200 < n
  · have HF : Hid (res = none) := by rw [if_pos (.inr h1)] at HR; exact HR
    clear HR
    go_enter Tryz.func51, Tryz.ntmps51
    go_wp2_with fail
    refine HC.out.mono ?_
    rintro e w1 ⟨p1, rfl, hc, hp, hg⟩
    rw [hb]
    have hgs := hg.size
    clear hb hp hg h
    go_wp2
    go_ret2
    exact manyI_no HF.out (ownS_none _) hgs (hc.alloc _)
  have HF : Hid (res = rdAcc bs n k []) := by rw [if_neg (by omega)] at HR; exact HR
  clear HR
  go_enter Tryz.func51, Tryz.ntmps51
  go_wp2_with fail
  refine HC.out.mono ?_
  rintro e w1 ⟨p1, rfl, hc, hp, hg⟩
  rw [hb]
  have hp1 : p1 = k := by rw [hp h0]; simp
  subst hp1
  have hgs := hg.size
  have hst := (ownS_none w1).mono hgs
  have hcst := hc.alloc (.cells #[] 9)
  clear hb hp hg h HC hc
  go_wp2
  go_loopw [10, 28] (fun oo ii wr => ∃ (j p : Nat) (ss : List ByteArray), ii = .int .i64 j ∧ j ≤ n ∧ ss.length = j ∧ OwnS wr w.heap.size oo ss ∧ Cur w0 wr g v bs p ∧ w.heap.size ≤ wr.heap.size ∧ Hid (res = rdAcc bs (n - j) p ss)) (fun _ ii _ => n - (intOf ii).toNat)
  case atStart => exact ⟨0, p1, [], rfl, by omega, rfl, hst, hcst, by simp; omega, HF⟩
  case round =>
    obtain ⟨j, p, ss, rfl, hj, hsl, hown, hc, hs, HR⟩ := hrel
    have Hsl : Hid (ss.length = j) := hsl
    clear hst hcst hsl HF
    by_cases hlt : j < n
    · go_wp2_with fail
      refine (text_any w0 _ g v bs p hc).mono ?_
      obtain ⟨T, hT⟩ : ∃ T, T = rdText (bs.drop p) := ⟨_, rfl⟩
      have hRg := HR.out
      rw [show n - j = (n - (j + 1)) + 1 by omega] at hRg
      have H0 : Hid (T.2 = 0 → res = none) := fun h => hRg.trans (rdAcc_no bs _ p ss (by rw [← hT]; exact h))
      have H1 : Hid (T.2 ≠ 0 → res = rdAcc bs (n - (j + 1)) (p + T.2) (ss ++ [⟨T.1.toArray⟩])) := fun h => hRg.trans ((rdAcc_go bs _ p ss (by rw [← hT]; exact h)).trans (by rw [← hT]))
      rw [← hT]
      clear hT HR hRg
      rintro e w2 ⟨p2, rfl, hc2, hp2, hg2⟩
      have hown2 := ownS_kept hown hg2 hgl
      have hs2 := hg2.size
      by_cases hT0 : T.2 = 0
      · have hb : decide (T.2 ≠ 0) = false := by simp [hT0]
        rw [hb]
        have HF2 : Hid (res = none) := H0.out hT0
        clear hb hT0 hp2 hg2 hown hc H0 H1
        go_wp2
        go_ret2
        exact manyI_no HF2.out (ownS_none _) (by omega) (hc2.alloc _)
      · have hb : decide (T.2 ≠ 0) = true := by simp [hT0]
        rw [hb]
        have HF2 : Hid (res = rdAcc bs (n - (j + 1)) (p + T.2) (ss ++ [⟨T.1.toArray⟩])) := H1.out hT0
        have hpp := hp2 hT0
        subst hpp
        have hLs : ss.length ≤ 200 := by have := Hsl.out; omega
        clear hb hT0 hp2 hg2 hown hc H0 H1
        go_wp2_with (at_builtin; (refine wpList_append_own _ rfl _ _ 25 rfl w.heap.size 9 i0 (.string ⟨#[]⟩) 1 16 Tryz.underlying25 hi hz0 hz1 hz2 rfl (by decide) _ _ _ rfl (World.ownsRow.alloc hown2 _) ⟨w2.heap.size, 0, none⟩ 1 1 [.string ⟨T.1.toArray⟩] rfl rfl ?c1 ?c2 ?c3 ?c4 ?c5 ?_))
        case c1 => exact one_newS _ _ _
        case c2 => intro u hu; simp at hu; subst hu; rfl
        case c3 => unfold maxLen; omega
        case c4 => omega
        case c5 => simp; omega
        intro v' w3 hown' hgrow _
        have R1 := ownS_push hown'
        have R2 := (hc2.alloc _).grow hgrow (fun k hk => by have := (World.ownsRow.lt hown2 k hk).1; omega)
        have R3 : w.heap.size ≤ w3.heap.size := by have := hgrow.size; simp at this; omega
        clear hown' hgrow hown2 hc2
        go_wp2
        go_roundw
        case rel => exact ⟨j + 1, p + T.2, _, by go_num, by omega, by rw [List.length_append, Hsl.out]; simp, R1, R2, R3, HF2⟩
        case measure => simp [intOf]; omega
    · have hje : j = n := by omega
      subst hje
      have HF2 : Hid (res = some (ss, p)) := by have h := HR.out; rw [Nat.sub_self] at h; exact h
      go_wp2
      go_ret2
      exact manyI_yes HF2.out hown hc
open Go.RowKit
def TextsPost (w : World) (F : List ByteArray × Bool) (e : Ending) (w' : World) : Prop :=
  ∃ u, e = .returned (.tuple #[u, .bool F.2]) ∧ OwnS w' w.heap.size u F.1 ∧ Below w.heap.size w w'
theorem textsPost_no {w wr : World} {B : Nat} {F : List ByteArray × Bool} {u : Value} (h : F = ([], false)) (ho : OwnS wr B u []) (hB : w.heap.size ≤ B) (hb : Below w.heap.size w wr) : TextsPost w F (.returned (.tuple #[u, .bool false])) wr := by
  subst h
  exact ⟨u, rfl, ho.mono hB, hb⟩
theorem textsPost_yes {w wr : World} {B : Nat} {F : List ByteArray × Bool} {u : Value} {ss : List ByteArray} (h : F = (ss, true)) (ho : OwnS wr B u ss) (hB : w.heap.size ≤ B) (hb : Below w.heap.size w wr) : TextsPost w F (.returned (.tuple #[u, .bool true])) wr := by
  subst h
  exact ⟨u, rfl, ho.mono hB, hb⟩
theorem rdAcc_pos (bs : List UInt8) : ∀ (m p : Nat) (acc : List ByteArray) (r : List ByteArray × Nat), rdAcc bs m p acc = some r → p ≤ bs.length → p ≤ r.2 ∧ r.2 ≤ bs.length := by
  intro m
  induction m with
  | zero => intro p acc r h hp; rw [rdAcc] at h; cases h; exact ⟨Nat.le_refl _, hp⟩
  | succ m ih =>
    intro p acc r h hp
    rw [rdAcc] at h
    split at h
    · cases h
    · have hd := rdText_drop bs p
      have := ih _ _ r h (by omega)
      omega
theorem rdAll_pos (bs : List UInt8) (r : List ByteArray × Nat) (h : rdAll bs = some r) : 0 < r.2 ∧ r.2 ≤ bs.length := by
  have hl := rdNum_len bs
  unfold rdAll at h
  split at h
  · cases h
  · have := rdAcc_pos bs _ _ _ r h (by omega)
    omega

theorem specReadTexts_any (v : Value) (bs : List UInt8) (w : World) (hr : Rd w v bs) :
    Calls Tryz.prog 41 #[v] w fun e w' => TextsPost w (fin bs (rdAll bs)) e w' := by
  have HC : Hid (Calls Tryz.prog 64 #[v] w fun e w' => ManyPost w (rdAll bs) e w') := l1ReadTexts_any v bs w hr
  have hpos := rdAll_pos bs
  obtain ⟨a, cap, hv, hl, hm, _⟩ := hr
  unfold maxLen at hm
  subst hv
  obtain ⟨F, hF⟩ : ∃ F, F = fin bs (rdAll bs) := ⟨_, rfl⟩
  rw [← hF]
  generalize rdAll bs = res at HC hpos hF
  cases res with
  | none =>
    have HF : Hid (F = ([], false)) := hF
    clear hF hpos
    go_enter Tryz.func41, Tryz.ntmps41
    go_wp2_with fail
    refine HC.out.mono ?_
    rintro e w1 ⟨u, rfl, ho, hb⟩
    have hs := hb.size
    simp only [Option.elim]
    clear HC
    go_wp2
    go_ret2
    exact textsPost_no HF.out (ownS_none _) hs (hb.alloc hs _)
  | some r =>
    obtain ⟨ss, p⟩ := r
    have hp := hpos _ rfl
    simp only at hp
    have hp0 : ((p : Int) == 0) = false := by simp; omega
    by_cases hpl : p = bs.length
    · have HF : Hid (F = (ss, true)) := by show _ = _; rw [hF]; simp [fin, hpl]
      clear hF hpos
      have hpe : ((p : Int) != (bs.length : Int)) = false := by simp; omega
      clear hpl
      go_enter Tryz.func41, Tryz.ntmps41
      go_wp2_with fail
      refine HC.out.mono ?_
      rintro e w1 ⟨u, rfl, ho, hb⟩
      simp only [Option.elim] at ho ⊢
      clear HC
      go_wp2
      go_ret2
      exact textsPost_yes HF.out ho (Nat.le_refl _) hb
    · have HF : Hid (F = ([], false)) := by show _ = _; rw [hF]; simp [fin, hpl]
      clear hF hpos
      have hpe : ((p : Int) != (bs.length : Int)) = true := by simp; omega
      clear hpl
      go_enter Tryz.func41, Tryz.ntmps41
      go_wp2_with fail
      refine HC.out.mono ?_
      rintro e w1 ⟨u, rfl, ho, hb⟩
      have hs := hb.size
      simp only [Option.elim] at ho ⊢
      clear HC
      go_wp2
      go_ret2
      exact textsPost_no HF.out (ownS_none _) hs (hb.alloc hs _)

theorem implReadTexts_any (v : Value) (bs : List UInt8) (w : World) (hr : Rd w v bs) :
    Calls Tryz.prog 31 #[v] w fun e w' => TextsPost w (fin bs (rdAll bs)) e w' := by
  have HM : Hid (Calls Tryz.prog 51 _ _ fun e w' => ManyI w _ _ v bs (rdAll bs) e w') := readMany_any w _ w.heap.size v bs (cur_new hr)
  have hpos := rdAll_pos bs
  obtain ⟨a, cap, hv, hl, hm, _⟩ := hr
  unfold maxLen at hm
  subst hv
  obtain ⟨F, hF⟩ : ∃ F, F = fin bs (rdAll bs) := ⟨_, rfl⟩
  rw [← hF]
  generalize rdAll bs = res at HM hpos hF
  cases res with
  | none =>
    have HF : Hid (F = ([], false)) := hF
    clear hF hpos
    go_enter Tryz.func31, Tryz.ntmps31
    go_wp2_with fail
    refine HM.out.mono ?_
    rintro e w1 ⟨u, p', rfl, ho, hc, _⟩
    simp only [Option.isSome]
    have hb := hc.bel
    have hs := hb.size
    clear HM
    go_wp2
    go_ret2
    exact textsPost_no HF.out (ownS_none _) hs (hb.alloc hs _)
  | some r =>
    obtain ⟨ss, p⟩ := r
    have hp := hpos _ rfl
    simp only at hp
    by_cases hpl : p = bs.length
    · have HF : Hid (F = (ss, true)) := by show _ = _; rw [hF]; simp [fin, hpl]
      clear hF hpos
      have hpe : ¬ 0 < (bs.length : Int) - (p : Int) := by omega
      clear hpl
      go_enter Tryz.func31, Tryz.ntmps31
      go_wp2_with fail
      refine HM.out.mono ?_
      rintro e w1 ⟨u, p', rfl, ho, hc, hpp⟩
      have hpp' : p' = p := hpp _ rfl
      subst hpp'
      simp only [Option.isSome, Option.elim] at ho ⊢
      clear HM hpp
      go_wp2_with fail
      refine (left_any w _ _ _ bs _ hc).mono ?_
      rintro e w2 ⟨rfl, q2, rfl⟩
      go_wp2
      go_ret2
      exact textsPost_yes HF.out (ho.drewN q2) (by simp) (below_drewN hc.bel q2)
    · have HF : Hid (F = ([], false)) := by show _ = _; rw [hF]; simp [fin, hpl]
      clear hF hpos
      have hpe : 0 < (bs.length : Int) - (p : Int) := by omega
      clear hpl
      go_enter Tryz.func31, Tryz.ntmps31
      go_wp2_with fail
      refine HM.out.mono ?_
      rintro e w1 ⟨u, p', rfl, ho, hc, hpp⟩
      have hpp' : p' = p := hpp _ rfl
      subst hpp'
      simp only [Option.isSome, Option.elim] at ho ⊢
      clear HM hpp
      go_wp2_with fail
      refine (left_any w _ _ _ bs _ hc).mono ?_
      rintro e w2 ⟨rfl, q2, rfl⟩
      have hb := below_drewN hc.bel q2
      have hs := hc.bel.size
      go_wp2
      go_ret2
      exact textsPost_no HF.out (ownS_none _) (by simpa using hs) (hb.alloc (by simpa using hs) _)
end Go.Proofs.YtpbbahpndgigjaaGreatDoor
