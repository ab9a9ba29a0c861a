/- The contract of the heap's exchange. -/
import Derived.Test.YtihacdfchmobpaaHpLess
import Derived.RegionTactic
import Derived.ChangeAlike
namespace Go.Proofs.Ytihacdfchmobpaa
open Go.RowKit
theorem swap_row {w : World} {base g n cap : Nat} {hs : List Src} {i j : Nat} (hown : OwnH w base (.slice (some ⟨g, 0, none⟩) n cap) hs) (hi : i < hs.length) (hj : j < hs.length) :
    OwnH ((((w.setCell ⟨g, i * 2, none⟩ (sN hs j).v).setCell ⟨g, i * 2 + 1, none⟩ (.int .i64 (sN hs j).no)).setCell ⟨g, j * 2, none⟩ (sN hs i).v).setCell ⟨g, j * 2 + 1, none⟩ (.int .i64 (sN hs i).no)) base (.slice (some ⟨g, 0, none⟩) n cap) (swapS hs i j) ∧
    w.grownBy ((((w.setCell ⟨g, i * 2, none⟩ (sN hs j).v).setCell ⟨g, i * 2 + 1, none⟩ (.int .i64 (sN hs j).no)).setCell ⟨g, j * 2, none⟩ (sN hs i).v).setCell ⟨g, j * 2 + 1, none⟩ (.int .i64 (sN hs i).no)) (some g) := by
  have hn : n = hs.length := by
    rcases hown.2 with ⟨h0, _⟩ | ⟨g', cap', cur, hv, _⟩
    · cases h0
    · simp only [Value.slice.injEq] at hv; exact hv.2.1
  subst hn
  have r1 := World.ownsRow.stored hown (i * 2) (sN hs j).v
  have r2 := World.ownsRow.stored r1.1 (i * 2 + 1) (.int .i64 (sN hs j).no)
  have r3 := World.ownsRow.stored r2.1 (j * 2) (sN hs i).v
  have r4 := World.ownsRow.stored r3.1 (j * 2 + 1) (.int .i64 (sN hs i).no)
  have tr : ∀ {a b c : World}, a.grownBy b (some g) → b.grownBy c (some g) → a.grownBy c (some g) := fun h k =>
    ⟨k.os.trans h.os, k.tape.trans h.tape, k.output.trans h.output, Nat.le_trans h.size k.size, fun i hi hr => (k.block i (Nat.lt_of_lt_of_le hi h.size) hr).trans (h.block i hi hr)⟩
  refine ⟨?_, tr (tr (tr r1.2 r2.2) r3.2) r4.2⟩
  have e : HV (swapS hs i j) = ((((HV hs).set (i * 2) (sN hs j).v).set (i * 2 + 1) (.int .i64 (sN hs j).no)).set (j * 2) (sN hs i).v).set (j * 2 + 1) (.int .i64 (sN hs i).no) := by
    unfold swapS
    rw [HV_set _ j _ (by simpa using hj), HV_set _ i _ hi]
  unfold OwnH
  rw [e, swapS_len]
  exact r4.1
set_option maxHeartbeats 4000000 in
set_option maxRecDepth 100000 in
theorem swap_any (w : World) (base g n cap : Nat) (hs : List Src) (i j : Nat) (hown : OwnH w base (.slice (some ⟨g, 0, none⟩) n cap) hs) (hi : i < hs.length) (hj : j < hs.length) (hsl : ∀ s ∈ hs, ∃ a n c, s.v = .slice a n c) :
    Calls Try.prog 100 #[.slice (some ⟨g, 0, none⟩) n cap, .int .i64 i, .int .i64 j] w fun e w' => e = .returned (.tuple #[]) ∧ OwnH w' base (.slice (some ⟨g, 0, none⟩) n cap) (swapS hs i j) ∧ w.grownBy w' (some g) := by
  obtain ⟨g', cap', hv', hlc, hcm⟩ := ownH_shape hown (by omega)
  simp only [Value.slice.injEq] at hv'
  obtain ⟨-, hn, hcc⟩ := hv'
  rw [← hcc] at hlc hcm
  have hso := hown
  unfold OwnH at hso
  rw [hn] at hso
  obtain ⟨k1, k2⟩ := ownH_at hown i hi
  obtain ⟨k3, k4⟩ := ownH_at hown j hj
  have f1 := World.ownsRow.frozenAt hso (i * 2)
  have f2 := World.ownsRow.frozenAt hso (i * 2 + 1)
  have f3 := World.ownsRow.frozenAt hso (j * 2)
  have f4 := World.ownsRow.frozenAt hso (j * 2 + 1)
  have R := swap_row hown hi hj
  obtain ⟨a1, n1, c1, hva⟩ := hsl _ (sN_mem hi)
  obtain ⟨a2, n2, c2, hvb⟩ := hsl _ (sN_mem hj)
  rw [hva] at k1 R
  rw [hvb] at k3 R
  generalize hs' : swapS hs i j = hs2 at R
  obtain ⟨na, hna⟩ : ∃ na, na = (sN hs i).no := ⟨_, rfl⟩
  obtain ⟨nb, hnb⟩ : ∃ nb, nb = (sN hs j).no := ⟨_, rfl⟩
  rw [← hna] at k2 R
  rw [← hnb] at k4 R
  have HR : Hid (_ ∧ _) := R
  have hic : i < n := by omega
  have hjc : j < n := by omega
  have hnc : n ≤ cap := by omega
  unfold maxLen at hcm
  by_cases hij : i = j
  · subst hij
    have e1 : a2 = a1 ∧ n2 = n1 ∧ c2 = c1 := by rw [hva] at hvb; simp only [Value.slice.injEq] at hvb; exact ⟨hvb.1.symm, hvb.2.1.symm, hvb.2.2.symm⟩
    obtain ⟨rfl, rfl, rfl⟩ := e1
    obtain rfl : nb = na := by rw [hna, hnb]
    clear hso hown hsl R hna hnb hva hvb hs' hn hcc hlc hi hj
    go_enter Try.func100, Try.ntmps100
    go_wp2
    go_region
    all_goals (go_end0; exact ⟨rfl, HR.out.1, gr_dr HR.out.2⟩)
  · have hji : ¬ j = i := fun e => hij e.symm
    clear hso hown hsl R hna hnb hva hvb hs' hn hcc hlc hi hj
    go_enter Try.func100, Try.ntmps100
    go_wp2
    go_region
    all_goals (go_end0; exact ⟨rfl, HR.out.1, gr_dr HR.out.2⟩)
where
  gr_dr {a w : World} {row : Option Nat} (h : a.grownBy w row) : a.grownBy w.drew row := ⟨h.os, h.tape, h.output, h.size, h.block⟩
end Go.Proofs.Ytihacdfchmobpaa
