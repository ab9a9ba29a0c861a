/- The contract of the model's ReadText over any slice of bytes that can be read. -/
import Derived.Test.YtckidhcknibceaaRdNum
import Derived.Test.YtckidhcknibceaaAid
import Derived.Laws.IdiomStrings
import Derived.Laws.BytesArg
namespace Go.Proofs.Ytckidhcknibceaa
open Go.RowKit
/-- The text with which the bytes begin, and how many bytes it takes with its number; none and 0 where there is none. -/
def rdText (bs : List UInt8) : List UInt8 × Nat :=
  if (rdNum bs).2 = 0 ∨ 3000 < (rdNum bs).1 ∨ bs.length < (rdNum bs).2 + (rdNum bs).1 then ([], 0) else ((bs.drop (rdNum bs).2).take (rdNum bs).1, (rdNum bs).2 + (rdNum bs).1)
theorem cut_len (bs : List UInt8) (k n : Nat) (h : k + n ≤ bs.length) : ((bs.drop k).take n).length = n := by rw [List.length_take, List.length_drop]; omega
theorem conv_cut (w : World) (b off k n c : Nat) (bs : List UInt8) (h : k + n ≤ bs.length) (hc : ∀ i (h : i < bs.length), w.cell? ⟨b, off + i, none⟩ = some (.int .u8 (bs[i].toNat : Int))) :
    (convert 43 9 (.slice (some ⟨b, off + k, none⟩) n c)).run Try.prog w = .ok (.string ⟨((bs.drop k).take n).toArray⟩) w :=
  conv_at w b (off + k) n c _ (cut_len bs k n h) fun j hj => by
    rw [cut_len bs k n h] at hj
    have := hc (k + j) (by omega)
    rw [← Nat.add_assoc] at this
    rw [this]
    simp
theorem conv_none (w : World) (b off n c : Nat) (h : n = 0) (l : List UInt8) (hl : l = []) : (convert 43 9 (.slice (some ⟨b, off, none⟩) n c)).run Try.prog w = .ok (.string ⟨l.toArray⟩) w := by
  subst h
  subst hl
  exact conv_at w b off 0 c [] rfl fun j hj => by simp at hj
set_option maxHeartbeats 1000000 in
set_option maxRecDepth 100000 in
theorem specReadText_any (v : Value) (bs : List UInt8) (w : World) (hr : Rd w v bs) :
    Calls Try.prog 46 #[v] w fun e w' => e = .returned (.tuple #[.string ⟨(rdText bs).1.toArray⟩, .int .i64 ((rdText bs).2 : Int)]) ∧ w' = w := by
  have hlen := rdNum_len bs
  obtain ⟨T, hT⟩ : ∃ T, T = rdText bs := ⟨_, rfl⟩
  rw [← hT]
  have HN := specReadNumber_any v bs w hr
  unfold rdText at hT
  obtain ⟨n, hn⟩ : ∃ n, n = (rdNum bs).1 := ⟨_, rfl⟩
  obtain ⟨k, hk⟩ : ∃ k, k = (rdNum bs).2 := ⟨_, rfl⟩
  rw [← hn, ← hk] at hlen HN hT
  clear hn hk
  have HT : Hid (T = if k = 0 ∨ 3000 < n ∨ bs.length < k + n then ([], 0) else ((bs.drop k).take n, k + n)) := hT
  have HC : Hid (Calls _ _ _ _ _) := HN
  clear HN hT
  obtain ⟨a, cap, hv, hl, hm, hA⟩ := hr
  unfold maxLen at hm
  subst hv
  by_cases h0 : k = 0
  · have HF : Hid (T = ([], 0)) := by rw [if_pos (.inl h0)] at HT; exact HT
    have hk0 : ((k : Int) == 0) = true := by simp; omega
    clear hA h0 HT
    go_enter Try.func46, Try.ntmps46
    go_wp2_with fail
    refine HC.out.mono ?_
    rintro e w1 ⟨rfl, rfl⟩
    go_wp2
    go_ret2
    exact ⟨by rw [HF.out]; rfl, rfl⟩
  have hk0 : ((k : Int) == 0) = false := by simp; omega
  by_cases h1 : 3000 < n
  · have HF : Hid (T = ([], 0)) := by rw [if_pos (.inr (.inl h1))] at HT; exact HT
    clear hA HT
    go_enter Try.func46, Try.ntmps46
    go_wp2_with fail
    refine HC.out.mono ?_
    rintro e w1 ⟨rfl, rfl⟩
    go_wp2
    go_ret2
    exact ⟨by rw [HF.out]; rfl, rfl⟩
  by_cases h2 : bs.length < k + n
  · have HF : Hid (T = ([], 0)) := by rw [if_pos (.inr (.inr h2))] at HT; exact HT
    clear hA HT
    go_enter Try.func46, Try.ntmps46
    go_wp2_with fail
    refine HC.out.mono ?_
    rintro e w1 ⟨rfl, rfl⟩
    go_wp2
    go_ret2
    exact ⟨by rw [HF.out]; rfl, rfl⟩
  have HF : Hid (T = ((bs.drop k).take n, k + n)) := by rw [if_neg (by omega)] at HT; exact HT
  have hz : bs ≠ [] := by intro h; subst h; simp at h2; omega
  rcases hA with h | ⟨b, off, rfl, hc⟩
  · exact absurd h hz
  generalize hl' : (bs.drop k).take n = l at HF
  have HL : Hid ((bs.drop k).take n = l) := hl'
  clear hl' hz HT
  by_cases hcap : cap = k
  · have hcv := conv_none w b off n 0 (by omega) l (by have h := cut_len bs k n (by omega); rw [HL.out] at h; exact List.length_eq_zero_iff.1 (by omega))
    clear hc
    subst hcap
    go_enter Try.func46, Try.ntmps46
    go_wp2_with fail
    refine HC.out.mono ?_
    rintro e w1 ⟨rfl, rfl⟩
    go_wp2
    go_ret2
    exact ⟨by rw [HF.out]; simp, rfl⟩
  · have hcv := conv_cut w b off k n (cap - k) bs (by omega) hc
    rw [HL.out] at hcv
    clear hc
    go_enter Try.func46, Try.ntmps46
    go_wp2_with fail
    refine HC.out.mono ?_
    rintro e w1 ⟨rfl, rfl⟩
    go_wp2
    go_ret2
    exact ⟨by rw [HF.out]; simp, rfl⟩
end Go.Proofs.Ytckidhcknibceaa
