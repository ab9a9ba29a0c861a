/- The contract of the cursor's method text: a text is read where the cursor stands, and the cursor goes on behind it. -/
import Derived.Test.YtckidhcknibceaaCur
import Derived.Test.YtckidhcknibceaaRdText
namespace Go.Proofs.Ytckidhcknibceaa
open Go.RowKit
/-- What text leaves: the text and whether there is one; the cursor stands behind it; nothing but the cursor's own block has turned. -/
def TextPost (w0 w : World) (g : Nat) (v : Value) (bs : List UInt8) (p : Nat) (T : List UInt8 × Nat) (e : Ending) (w' : World) : Prop :=
  ∃ p', e = .returned (.tuple #[.string ⟨T.1.toArray⟩, .bool (decide (T.2 ≠ 0))]) ∧ Cur w0 w' g v bs p' ∧ (T.2 ≠ 0 → p' = p + T.2) ∧ w.grownBy w' (some g)
theorem grown_trans {a b c : World} {row : Option Nat} (h : a.grownBy b row) (k : b.grownBy c row) : a.grownBy c row :=
  ⟨k.os.trans h.os, k.tape.trans h.tape, k.output.trans h.output, Nat.le_trans h.size k.size, fun i hi hr => (k.block i (Nat.lt_of_lt_of_le hi h.size) hr).trans (h.block i hi hr)⟩
theorem textPost_no {w0 w w1 : World} {g : Nat} {v : Value} {bs : List UInt8} {p p1 : Nat} {T : List UInt8 × Nat} (h : Cur w0 w1 g v bs p1) (hg : w.grownBy w1 (some g)) (hT : T = ([], 0)) (q : Nat) : TextPost w0 w g v bs p T (.returned (.tuple #[.string ⟨#[]⟩, .bool false])) (w1.drewN q) :=
  ⟨p1, by rw [hT]; rfl, h.drewN q, fun h => by rw [hT] at h; exact absurd rfl h, grownBy_drewN hg _⟩
theorem textPost_yes {w0 w w1 : World} {g : Nat} {v : Value} {bs l : List UInt8} {p k n : Nat} {T : List UInt8 × Nat} (h : Cur w0 w1 g v bs (p + k)) (hg : w.grownBy w1 (some g)) (hk : k ≠ 0) (hT : T = (l, k + n)) (hn : p + k + n ≤ bs.length) (q r : Nat) :
    TextPost w0 w g v bs p T (.returned (.tuple #[.string ⟨l.toArray⟩, .bool true])) ((((w1.drewN q).setCell ⟨g, 1, none⟩ (.int .i64 ((p : Int) + (k : Int) + (n : Int))))).drewN r) := by
  have hc := ((h.drewN q).moved (p + k + n) hn).drewN r
  rw [show ((p + k + n : Nat) : Int) = (p : Int) + (k : Int) + (n : Int) by omega] at hc
  refine ⟨p + k + n, ?_, hc, fun _ => by rw [hT]; omega, grownBy_drewN (grown_trans (grownBy_drewN hg q) (Cur.grown _)) r⟩
  rw [hT]
  have : decide (k + n ≠ 0) = true := by simp; omega
  rw [this]
theorem conv_cut' (w : World) (b off k n c : Nat) (bs l : List UInt8) (h : k + n ≤ bs.length) (hl : (bs.drop k).take n = l) (hc : ∀ i (h : i < bs.length), w.cell? ⟨b, off + i, none⟩ = some (.int .u8 (bs[i].toNat : Int))) :
    ∀ q, (convert 43 9 (.slice (some ⟨b, off + k, none⟩) n c)).run Try.prog (w.drewN q) = .ok (.string ⟨l.toArray⟩) (w.drewN q) := fun q => by rw [← hl]; exact conv_cut (w.drewN q) b off k n c bs h hc

set_option maxHeartbeats 1000000 in
set_option maxRecDepth 100000 in
theorem text_any (w0 w : World) (g : Nat) (v : Value) (bs : List UInt8) (p : Nat) (h : Cur w0 w g v bs p) :
    Calls Try.prog 51 #[.pointer (some ⟨g, 0, none⟩)] w fun e w' => TextPost w0 w g v bs p (rdText (bs.drop p)) e w' := by
  have hlen := rdNum_len (bs.drop p)
  obtain ⟨a, cap, hv, hl, hm, hA⟩ := h.rd
  unfold maxLen at hm
  subst hv
  have HA : Hid (bs = [] ∨ ∃ b off, a = some ⟨b, off, none⟩ ∧ ∀ i (h : i < bs.length), w0.cell? ⟨b, off + i, none⟩ = some (.int .u8 (bs[i].toNat : Int))) := hA
  clear hA
  obtain ⟨T, hT⟩ : ∃ T, T = rdText (bs.drop p) := ⟨_, rfl⟩
  rw [← hT]
  have HN := number_any w0 w g _ bs p h
  unfold rdText at hT
  obtain ⟨R, hR⟩ : ∃ R, R = rdNum (bs.drop p) := ⟨_, rfl⟩
  rw [← hR] at hlen HN hT
  clear hR
  obtain ⟨n, k⟩ := R
  have HT : Hid (T = if k = 0 ∨ 3000 < n ∨ (bs.drop p).length < k + n then ([], 0) else (((bs.drop p).drop k).take n, k + n)) := hT
  have HC : Hid (Calls _ _ _ _ _) := HN
  rw [List.length_drop] at hlen HT
  have hple := h.le
  clear HN hT
  simp only at hlen
  by_cases h0 : k = 0
  · have HF : Hid (T = ([], 0)) := by rw [if_pos (.inl h0)] at HT; exact HT
    clear HT
    go_enter Try.func51, Try.ntmps51
    go_wp2_with fail
    refine HC.out.mono ?_
    rintro e w1 ⟨p1, rfl, hc, hp, hg⟩
    have hb : decide ((n, k).2 ≠ 0) = false := by simp [h0]
    rw [hb]
    clear hb hp h0
    go_wp2
    go_ret2
    exact textPost_no hc hg HF.out 0
  have hb : decide ((n, k).2 ≠ 0) = true := by simp [h0]
  by_cases h1 : 3000 < n
  · have HF : Hid (T = ([], 0)) := by rw [if_pos (.inr (.inl h1))] at HT; exact HT
    clear HT
    go_enter Try.func51, Try.ntmps51
    go_wp2_with fail
    refine HC.out.mono ?_
    rintro e w1 ⟨p1, rfl, hc, hp, hg⟩
    rw [hb]
    clear hb hp
    go_wp2
    go_ret2
    exact textPost_no hc hg HF.out 0
  by_cases h2 : bs.length - p < k + n
  · have HF : Hid (T = ([], 0)) := by rw [if_pos (.inr (.inr h2))] at HT; exact HT
    clear HT
    go_enter Try.func51, Try.ntmps51
    go_wp2_with fail
    refine HC.out.mono ?_
    rintro e w1 ⟨p1, rfl, hc, hp, hg⟩
    rw [hb]
    have hp1 : p1 = p + k := hp h0
    subst hp1
    clear hb hp
    go_wp2_with fail
    refine (left_any w0 _ g _ bs _ hc).mono ?_
    rintro e w2 ⟨rfl, q2, rfl⟩
    go_wp2
    go_ret2
    exact textPost_no hc hg HF.out _
  have HF : Hid (T = (((bs.drop p).drop k).take n, k + n)) := by rw [if_neg (by omega)] at HT; exact HT
  go_enter Try.func51, Try.ntmps51
  go_wp2_with fail
  refine HC.out.mono ?_
  rintro e w1 ⟨p1, rfl, hc, hp, hg⟩
  rw [hb]
  have hp1 : p1 = p + k := hp h0
  subst hp1
  clear hb hp HT
  go_wp2_with fail
  refine (left_any w0 _ g _ bs _ hc).mono ?_
  rintro e w2 ⟨rfl, q2, rfl⟩
  obtain ⟨c0, c1, f1⟩ := hc.cells
  go_wp2
  obtain ⟨b, off, ha, hA⟩ : ∃ b off, a = some ⟨b, off, none⟩ ∧ ∀ i (h : i < bs.length), w0.cell? ⟨b, off + i, none⟩ = some (.int .u8 (bs[i].toNat : Int)) := by
    rcases HA.out with h | h
    · subst h; simp at hlen; omega
    · exact h
  have hcm := (hc.drewN q2).moved (p + k + n) (by omega)
  rw [show ((p + k + n : Nat) : Int) = (p : Int) + (k : Int) + (n : Int) by omega] at hcm
  generalize hW : (w1.drewN q2).setCell ⟨g, 1, none⟩ (.int .i64 ((p : Int) + (k : Int) + (n : Int))) = W at hcm ⊢
  have HW : Hid ((w1.drewN q2).setCell ⟨g, 1, none⟩ (.int .i64 ((p : Int) + (k : Int) + (n : Int))) = W) := hW
  have hAW : ∀ i (h : i < bs.length), W.cell? ⟨b, off + i, none⟩ = some (.int .u8 (bs[i].toNat : Int)) := fun i hi => by rw [hcm.bel.cell (World.block_lt_of_cell? w0 _ (hA i hi))]; exact hA i hi
  obtain ⟨d0, d1, e1⟩ := hcm.cells
  rw [show ((p + k + n : Nat) : Int) = (p : Int) + (k : Int) + (n : Int) by omega] at d1
  rw [ha] at d0
  generalize hl' : ((bs.drop p).drop k).take n = l at HF
  rw [List.drop_drop] at hl'
  have hcv := conv_cut' W b off (p + k) n (cap - (p + k)) bs l (by omega) hl' hAW
  have hlc : l.length = n := by rw [← hl']; exact cut_len bs (p + k) n (by omega)
  clear hW hA hcm hAW c0 c1 f1 hl' ha
  by_cases hcap : cap = p + k
  · subst hcap
    have hn0 : n = 0 := by omega
    have hl0 : l = [] := by have h := hlc; exact List.length_eq_zero_iff.1 (by omega)
    have hcn : ∀ q, (convert 43 9 (.slice (some ⟨b, off, none⟩) n 0)).run Try.prog (W.drewN q) = .ok (.string ⟨l.toArray⟩) (W.drewN q) := fun q => conv_none (W.drewN q) b off n 0 hn0 l hl0
    clear hcv hlc hn0 hl0
    go_quiet (fail)
    go_wp2
    go_ret2
    rw [← HW.out]
    exact textPost_yes hc hg h0 HF.out (by omega) q2 _
  · clear hlc
    go_quiet (fail)
    go_wp2
    go_ret2
    rw [← HW.out]
    exact textPost_yes hc hg h0 HF.out (by omega) q2 _
end Go.Proofs.Ytckidhcknibceaa
