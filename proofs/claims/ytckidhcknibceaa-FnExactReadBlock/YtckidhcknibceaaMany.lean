/- The contract of the model's l1ReadTexts over any slice of bytes that can be read. -/
import Derived.Test.YtckidhcknibceaaManyBase
namespace Go.Proofs.Ytckidhcknibceaa
open Go.RowKit
set_option maxHeartbeats 1000000 in
set_option maxRecDepth 100000 in
theorem l1ReadTexts_any (v : Value) (bs : List UInt8) (w : World) (hr : Rd w v bs) :
    Calls Try.prog 31 #[v] w fun e w' => ManyPost w (rdAll bs) e w' := by
  have hlen := rdNum_len bs
  obtain ⟨i0, hi, hz0, hz1, hz2⟩ := info_parts Try.info9
  obtain ⟨res, hres⟩ : ∃ res, res = rdAll bs := ⟨_, rfl⟩
  rw [← hres]
  have HN := specReadNumber_any v bs w hr
  unfold rdAll at hres
  obtain ⟨n, hn⟩ : ∃ n, n = (rdNum bs).1 := ⟨_, rfl⟩
  obtain ⟨k, hk⟩ : ∃ k, k = (rdNum bs).2 := ⟨_, rfl⟩
  rw [← hn, ← hk] at hlen HN hres
  clear hn hk
  have HR : Hid (res = if k = 0 ∨ 200 < n then none else rdAcc bs n k []) := hres
  have HC : Hid (Calls _ _ _ _ _) := HN
  clear HN hres
  obtain ⟨a, cap, hv, hl, hm, hA⟩ := hr
  subst hv
  by_cases h0 : k = 0
  · have HF : Hid (res = none) := by rw [if_pos (.inl h0)] at HR; exact HR
    have hk0 : ((k : Int) == 0) = true := by simp; omega
    clear hA h0 HR hm
    go_enter Try.func31, Try.ntmps31
    go_wp2_with fail
    refine HC.out.mono ?_
    rintro e w1 ⟨rfl, rfl⟩
    go_wp2
    go_ret2
    exact manyPost_no HF.out (ownS_none _) (Nat.le_refl _) ((Below.refl _ _).alloc (Nat.le_refl _) _)
  have hk0 : ((k : Int) == 0) = false := by simp; omega
  by_cases h1 : 200 < n
  · have HF : Hid (res = none) := by rw [if_pos (.inr h1)] at HR; exact HR
    clear hA HR hm
    go_enter Try.func31, Try.ntmps31
    go_wp2_with fail
    refine HC.out.mono ?_
    rintro e w1 ⟨rfl, rfl⟩
    go_wp2
    go_ret2
    exact manyPost_no HF.out (ownS_none _) (Nat.le_refl _) ((Below.refl _ _).alloc (Nat.le_refl _) _)
  have HF : Hid (res = rdAcc bs n k []) := by rw [if_neg (by omega)] at HR; exact HR
  clear HR
  rcases hA with h | ⟨b, off, rfl, hc⟩
  · subst h; simp at hlen; omega
  have Hm : Hid (cap ≤ maxLen) := hm
  have HA : Hid (∀ i (h : i < bs.length), w.cell? ⟨b, off + i, none⟩ = some (.int .u8 (bs[i].toNat : Int))) := hc
  unfold maxLen at hm
  clear hc
  go_enter Try.func31, Try.ntmps31
  go_wp2_with fail
  refine HC.out.mono ?_
  rintro e w1 ⟨rfl, rfl⟩
  clear HC
  go_wp2
  go_loopw [4, 5, 6] (fun nn aa oo wr => ∃ (m p : Nat) (ss : List ByteArray), nn = .int .i64 m ∧ aa = .int .i64 p ∧ m + ss.length ≤ 200 ∧ p ≤ bs.length ∧ OwnS wr w1.heap.size oo ss ∧ Below w1.heap.size w1 wr ∧ Hid (res = rdAcc bs m p ss)) (fun nn _ _ _ => (intOf nn).toNat)
  case atStart => exact ⟨n, k, [], rfl, rfl, by simp; omega, by omega, ownS_none _, (Below.refl _ _).alloc (Nat.le_refl _) _, HF⟩
  case round =>
    obtain ⟨m, p, ss, rfl, rfl, hms, hp, hown, hb, HR⟩ := hrel
    have hs := hb.size
    by_cases hlt : 0 < m
    · obtain ⟨m', rfl⟩ : ∃ m', m = m' + 1 := ⟨m - 1, by omega⟩
      have hcr : ∀ i (h : i < bs.length), wr.cell? ⟨b, off + i, none⟩ = some (.int .u8 (bs[i].toNat : Int)) := fun i hi => by rw [hb.cell (World.block_lt_of_cell? w1 _ (HA.out i hi))]; exact HA.out i hi
      have HRd : Hid (Rd wr (.slice (some ⟨b, off + p, none⟩) (bs.length - p) (cap - p)) (bs.drop p)) := rd_drop hl Hm.out hcr
      have hTl := rdText_drop bs p
      clear hcr HF
      by_cases hcap : cap = p
      · subst hcap
        have hT0 : (rdText (bs.drop cap)).2 = 0 := by omega
        have HF2 : Hid (res = none) := HR.out.trans (rdAcc_no bs m' cap ss hT0)
        have HRe : ∀ a, Rd wr (.slice a 0 0) (bs.drop cap) := fun a => by
          rw [List.drop_eq_nil_of_le hl]
          exact rd_empty wr a 0 (Nat.zero_le _)
        have HT0 : Hid ((rdText (bs.drop cap)).2 = 0) := hT0
        have HRh : Hid (∀ a, Rd wr (.slice a 0 0) (bs.drop cap)) := HRe
        clear hT0 HRe HRd hTl HR
        go_wp2_with fail
        refine (specReadText_any _ (bs.drop cap) _ (HRh.out _)).mono ?_
        rw [HT0.out]
        rintro e w2 ⟨rfl, rfl⟩
        go_wp2
        go_ret2
        exact manyPost_no HF2.out (ownS_none _) hs (hb.alloc hs _)
      · go_wp2_with fail
        refine (specReadText_any _ (bs.drop p) _ HRd.out).mono ?_
        obtain ⟨t, ht⟩ : ∃ t, t = (rdText (bs.drop p)).1 := ⟨_, rfl⟩
        obtain ⟨c, hc⟩ : ∃ c, c = (rdText (bs.drop p)).2 := ⟨_, rfl⟩
        have H0 : Hid (c = 0 → res = none) := fun h => HR.out.trans (rdAcc_no bs m' p ss (by rw [← hc]; exact h))
        have H1 : Hid (c ≠ 0 → res = rdAcc bs m' (p + c) (ss ++ [⟨t.toArray⟩])) := fun h => HR.out.trans ((rdAcc_go bs m' p ss (by rw [← hc]; exact h)).trans (by rw [← hc, ← ht]))
        rw [← hc] at hTl
        rw [← ht, ← hc]
        clear ht hc HR HRd
        rintro e w2 ⟨rfl, rfl⟩
        by_cases hc0 : c = 0
        · have HF2 : Hid (res = none) := H0.out hc0
          have hcz : ((c : Int) == 0) = true := by simp; omega
          clear hc0
          go_wp2
          go_ret2
          exact manyPost_no HF2.out (ownS_none _) hs (hb.alloc hs _)
        · have HF2 : Hid (res = rdAcc bs m' (p + c) (ss ++ [⟨t.toArray⟩])) := H1.out hc0
          have hcz : ((c : Int) == 0) = false := by simp; omega
          clear hc0 H0 H1
          go_wp2_with (at_builtin; (refine wpList_append_own _ rfl _ _ 25 rfl w1.heap.size 9 i0 (.string ⟨#[]⟩) 1 16 Try.underlying25 hi hz0 hz1 hz2 rfl (by decide) _ _ _ rfl (World.ownsRow.alloc hown _) ⟨w2.heap.size, 0, none⟩ 1 1 [.string ⟨t.toArray⟩] rfl rfl ?c1 ?c2 ?c3 ?c4 ?c5 ?_))
          case c1 => exact one_newS _ _ _
          case c2 => intro u hu; simp at hu; subst hu; rfl
          case c3 => unfold maxLen; omega
          case c4 => omega
          case c5 => simp; omega
          intro v' w3 hown' hgrow _
          have R1 := ownS_push hown'
          have R2 := pushS_below hown (Nat.le_refl _) hb hs hgrow
          clear hown' hgrow hown hb
          go_wp2
          go_roundw
          case rel => exact ⟨m', p + c, _, by go_num, by go_num, by rw [List.length_append]; simp; omega, by omega, R1, R2, HF2⟩
          case measure => simp [intOf]
    · have hm0 : m = 0 := by omega
      subst hm0
      have HF2 : Hid (res = some (ss, p)) := HR
      go_wp2
      go_ret2
      exact manyPost_yes HF2.out hown hb
end Go.Proofs.Ytckidhcknibceaa
