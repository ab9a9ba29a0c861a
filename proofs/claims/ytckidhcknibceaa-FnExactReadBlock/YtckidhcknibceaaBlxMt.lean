/- The contract of readMany over texts, wherever the cursor stands. -/
-- UNF Gen
import Derived.Test.YtckidhcknibceaaBlxMv
namespace Go.Proofs.Ytckidhcknibceaa
open Go.RowKit
theorem rdAcc_at (bs : List UInt8) (q : Nat) : ∀ (m p : Nat) (acc : List ByteArray), rdAcc bs m (q + p) acc = (rdAcc (bs.drop q) m p acc).map (fun r => (r.1, q + r.2))
  | 0, p, acc => rfl
  | m + 1, p, acc => by
    have hd : (bs.drop q).drop p = bs.drop (q + p) := by rw [List.drop_drop]
    by_cases h : (rdText (bs.drop (q + p))).2 = 0
    · rw [rdAcc_no bs m _ acc h, rdAcc_no (bs.drop q) m p acc (by rw [hd]; exact h)]; rfl
    · rw [rdAcc_go bs m _ acc h, rdAcc_go (bs.drop q) m p acc (by rw [hd]; exact h), hd, Nat.add_assoc, rdAcc_at bs q m]
/-- The texts that stand at byte q. -/
def rdT (bs : List UInt8) (q : Nat) : Option (List ByteArray × Nat) := (rdAll (bs.drop q)).map (fun r => (r.1, q + r.2))
theorem rdT_eq (bs : List UInt8) (q : Nat) : rdT bs q = if (rdNum (bs.drop q)).2 = 0 ∨ 200 < (rdNum (bs.drop q)).1 then none else rdAcc bs (rdNum (bs.drop q)).1 (q + (rdNum (bs.drop q)).2) [] := by
  unfold rdT rdAll
  split
  · rfl
  · rw [rdAcc_at bs q]
/-- What readMany leaves. -/
def MtP (w0 w : World) (g : Nat) (v : Value) (bs : List UInt8) (q : Nat) (e : Ending) (w' : World) : Prop :=
  ∃ (p' : Nat) (u : Value) (ss : List ByteArray) (ok : Bool), e = .returned (.tuple #[u, .bool ok]) ∧ OwnS w' w.heap.size u ss ∧ Cur w0 w' g v bs p' ∧ Touch [g] w w' ∧ (ok = false → rdT bs q = none) ∧ (ok = true → rdT bs q = some (ss, p'))
set_option maxHeartbeats 2000000 in
set_option maxRecDepth 100000 in
theorem manyTexts_any (w0 w : World) (g : Nat) (v : Value) (bs : List UInt8) (p : Nat) (hc : Cur w0 w g v bs p) :
    Calls Try.prog 49 #[.func (.func 50) #[.pointer (some ⟨g, 0, none⟩)] #[], .int .i64 200, .func (.func 51) #[.pointer (some ⟨g, 0, none⟩)] #[]] w fun e w' => MtP w0 w g v bs p e w' := by
  obtain ⟨i0, hi, hz0', hz1', hz2'⟩ := info_parts Try.info9
  have HC : Hid (Cur w0 w g v bs p) := hc
  have HGL : Hid (g < w.heap.size ∧ w0.heap.size ≤ w.heap.size) := ⟨hc.lt, hc.bel.size⟩
  obtain ⟨res, hres⟩ : ∃ res, res = rdT bs p := ⟨_, rfl⟩
  have HRS : Hid (res = rdT bs p) := hres
  rw [rdT_eq] at hres
  obtain ⟨n, hn⟩ : ∃ n, n = (rdNum (bs.drop p)).1 := ⟨_, rfl⟩
  obtain ⟨z, hz⟩ : ∃ z, z = (rdNum (bs.drop p)).2 := ⟨_, rfl⟩
  have HN := number_any w0 w g v bs p hc
  unfold NumPost at HN
  rw [← hn, ← hz] at HN hres
  have HNU : Hid (Calls _ _ _ _ _) := HN
  have HRI : Hid (res = if z = 0 ∨ 200 < n then none else rdAcc bs n (p + z) []) := hres
  have hnm : n ≤ 1099511627776 := by have := rdNum_len (bs.drop p); rw [← hn] at this; exact this.2.1
  clear HN hn hz hc hres
  by_cases hz0 : z = 0
  · have hzd : decide (z ≠ 0) = false := by simp [hz0]
    have HF : Hid (rdT bs p = none) := by unfold Hid; rw [← HRS.out, HRI.out, if_pos (.inl hz0)]
    go_enter Try.func49, Try.ntmps49
    go_wp2_with fail
    refine HNU.out.mono ?_
    rintro e w1 ⟨p1, rfl, hc1, hp1, hg1⟩
    rw [hzd]
    have HT1 : Hid (Touch [g] w w1) := Touch.of_grown hg1 (fun q hq => by simp at hq; simp [hq])
    have HC1 : Hid (Cur w0 (w1.alloc (.cells #[] 9)) g v bs p1) := hc1.alloc _
    have HO1 : Hid (OwnS (w1.alloc (.cells #[] 9)) w.heap.size (.slice (some ⟨w1.heap.size, 0, none⟩) 0 0) []) := (ownS_none w1).mono HT1.out.size
    have HT2 : Hid (Touch [g] w (w1.alloc (.cells #[] 9))) := HT1.out.two (below1 _ _)
    clear hzd hz0 hp1 hg1 hc1
    go_wp2
    go_ret2
    exact ⟨p1, _, [], false, rfl, HO1.out, HC1.out, HT2.out, fun _ => HF.out, fun h => by cases h⟩
  have hzd : decide (z ≠ 0) = true := by simp [hz0]
  by_cases h7 : 200 < n
  · have HF : Hid (rdT bs p = none) := by unfold Hid; rw [← HRS.out, HRI.out, if_pos (.inr h7)]
    go_enter Try.func49, Try.ntmps49
    go_wp2_with fail
    refine HNU.out.mono ?_
    rintro e w1 ⟨p1, rfl, hc1, hp1, hg1⟩
    rw [hzd]
    have HT1 : Hid (Touch [g] w w1) := Touch.of_grown hg1 (fun q hq => by simp at hq; simp [hq])
    have HC1 : Hid (Cur w0 (w1.alloc (.cells #[] 9)) g v bs p1) := hc1.alloc _
    have HO1 : Hid (OwnS (w1.alloc (.cells #[] 9)) w.heap.size (.slice (some ⟨w1.heap.size, 0, none⟩) 0 0) []) := (ownS_none w1).mono HT1.out.size
    have HT2 : Hid (Touch [g] w (w1.alloc (.cells #[] 9))) := HT1.out.two (below1 _ _)
    clear hzd hz0 hp1 hg1 hc1
    go_wp2
    go_ret2
    exact ⟨p1, _, [], false, rfl, HO1.out, HC1.out, HT2.out, fun _ => HF.out, fun h => by cases h⟩
  have hn7 : n ≤ 200 := by omega
  have HRA : Hid (rdT bs p = rdAcc bs n (p + z) []) := by unfold Hid; rw [← HRS.out, HRI.out, if_neg (by omega)]
  go_enter Try.func49, Try.ntmps49
  go_wp2_with fail
  refine HNU.out.mono ?_
  rintro e w1 ⟨p1, rfl, hc1, hp1, hg1⟩
  rw [hzd]
  have hp1z := hp1 hz0
  have HT1 : Hid (Touch [g] w w1) := Touch.of_grown hg1 (fun q hq => by simp at hq; simp [hq])
  have HC1 : Hid (Cur w0 (w1.alloc (.cells #[] 9)) g v bs p1) := hc1.alloc _
  have HO1 : Hid (OwnS (w1.alloc (.cells #[] 9)) w.heap.size (.slice (some ⟨w1.heap.size, 0, none⟩) 0 0) []) := (ownS_none w1).mono HT1.out.size
  have HT2 : Hid (Touch [g] w (w1.alloc (.cells #[] 9))) := HT1.out.two (below1 _ _)
  rw [← hp1z] at HRA
  clear hzd hz0 hp1 hg1 hc1 h7 hp1z HNU HRI HC
  go_wp2
  go_loopw [10, 28] (fun oo ii wr => ∃ (j p2 : Nat) (oa : Option Addr) (oc : Nat) (l : List ByteArray), ii = .int .i64 j ∧ j ≤ n ∧ oo = .slice oa j oc ∧ Hid (l.length = j) ∧ Hid (OwnS wr w.heap.size (.slice oa j oc) l) ∧ Hid (Cur w0 wr g v bs p2) ∧ Hid (Touch [g] w wr) ∧ Hid (rdT bs p = rdAcc bs (n - j) p2 l)) (fun _ ii _ => n - (intOf ii).toNat)
  case atStart => exact ⟨0, p1, some ⟨w1.heap.size, 0, none⟩, 0, [], rfl, by omega, rfl, rfl, HO1, HC1, HT2, HRA⟩
  case round =>
    obtain ⟨j, p2, oa, oc, l, rfl, hj, rfl, HL, HO, HC, HT, HKJ⟩ := hrel
    clear HT1 HC1 HO1 HT2
    by_cases hlt : j < n
    · go_wp2_with fail
      refine (text_any w0 _ g v bs p2 HC.out).mono ?_
      obtain ⟨TX, hTX⟩ : ∃ TX, TX = rdText (bs.drop p2) := ⟨_, rfl⟩
      have hRg := HKJ.out
      rw [show n - j = (n - (j + 1)) + 1 by omega] at hRg
      have H0 : Hid (TX.2 = 0 → rdT bs p = none) := fun h => hRg.trans (rdAcc_no bs _ p2 l (by rw [← hTX]; exact h))
      have H1 : Hid (TX.2 ≠ 0 → rdT bs p = rdAcc bs (n - (j + 1)) (p2 + TX.2) (l ++ [⟨TX.1.toArray⟩])) := fun h => hRg.trans ((rdAcc_go bs _ p2 l (by rw [← hTX]; exact h)).trans (by rw [← hTX]))
      unfold TextPost
      rw [← hTX]
      clear hTX hRg
      obtain ⟨tx, tk⟩ := TX
      simp only at H0 H1 ⊢
      rintro e w2 ⟨p3, rfl, hc2, hp2, hg2⟩
      have ht2 : Touch [g] wr w2 := Touch.of_grown hg2 (fun q hq => by simp at hq; simp [hq])
      have HT3 : Hid (Touch [g] w w2) := HT.out.trans ht2
      have HC3 : Hid (Cur w0 w2 g v bs p3) := hc2
      have HO3 : Hid (OwnS w2 w.heap.size (.slice oa j oc) l) := ht2.row HO.out (fun q hq e => by have h1 := (World.ownsRow.lt HO.out q hq).1; have h2 := List.mem_singleton.1 e; have h3 := HGL.out; omega)
      have hs2 := HT3.out.size
      clear hc2 ht2 hg2 HC HT HO
      by_cases htk : tk = 0
      · have hb : decide (tk ≠ 0) = false := by simp [htk]
        have HF : Hid (rdT bs p = none) := H0.out htk
        rw [hb]
        have HC4 : Hid (Cur w0 (w2.alloc (.cells #[] 9)) g v bs p3) := HC3.out.alloc _
        have HO4 : Hid (OwnS (w2.alloc (.cells #[] 9)) w.heap.size (.slice (some ⟨w2.heap.size, 0, none⟩) 0 0) []) := (ownS_none w2).mono hs2
        have HT4 : Hid (Touch [g] w (w2.alloc (.cells #[] 9))) := HT3.out.two (below1 _ _)
        clear hb htk hp2
        go_wp2
        go_ret2
        exact ⟨p3, _, [], false, rfl, HO4.out, HC4.out, HT4.out, fun _ => HF.out, fun h => by cases h⟩
      · have hb : decide (tk ≠ 0) = true := by simp [htk]
        have hpp := hp2 htk
        have HKN : Hid (rdT bs p = rdAcc bs (n - (j + 1)) p3 (l ++ [⟨tx.toArray⟩])) := by unfold Hid; rw [hpp]; exact H1.out htk
        have HO5 : Hid (OwnS (w2.alloc (.cells #[.string ⟨tx.toArray⟩] 9)) w.heap.size (.slice oa j oc) l) := OwnS.below HO3.out (below1 w2 _)
        have HC5 : Hid (Cur w0 (w2.alloc (.cells #[.string ⟨tx.toArray⟩] 9)) g v bs p3) := HC3.out.alloc _
        have HT5 : Hid (Touch [g] w (w2.alloc (.cells #[.string ⟨tx.toArray⟩] 9))) := HT3.out.two (below1 _ _)
        have hs5 := HT5.out.size
        have HLN : Hid ((l ++ [(⟨tx.toArray⟩ : ByteArray)]).length = j + 1) := by unfold Hid; rw [List.length_append, HL.out]; rfl
        have hOR : w2.alloc (.cells #[.string ⟨tx.toArray⟩] 9) = w2.alloc (.cells #[.string ⟨tx.toArray⟩] 9) := rfl
        have HRR : Hid (RdS (w2.alloc (.cells #[.string ⟨tx.toArray⟩] 9)) (.slice (some ⟨w2.heap.size, 0, none⟩) 1 1) [⟨tx.toArray⟩]) := OwnS.rd (World.ownsRow_lit w2 #[.string ⟨tx.toArray⟩] 1 (Nat.le_refl _) (by unfold maxLen; omega) rfl)
        rw [hb]
        clear hb htk hp2 hpp H0 H1 hOR
        go_wp2_with (at_builtin; (refine wpList_append_txts rfl _ _ rfl w.heap.size (.slice oa j oc) _ l [⟨tx.toArray⟩] rfl rfl HO5.out HRR.out (fun n c h => by cases h) (by have := HL.out; simp; omega) hs5 ?_))
        intro v6 w6 ho6 hg6
        have HC6 : Hid (Cur w0 w6 g v bs p3) := HC5.out.grow hg6 (fun q hq => by have h1 := (World.ownsRow.lt HO5.out q hq).1; have h2 := HGL.out; omega)
        have HT6 : Hid (Touch [g] w w6) := by
          have h1 := HT5.out
          have h2 := HO5.out
          exact ⟨hg6.os.trans h1.os, hg6.tape.trans h1.tape, hg6.output.trans h1.output, Nat.le_trans h1.size hg6.size, fun q hq hn => (hg6.block q (Nat.lt_of_lt_of_le hq h1.size) (fun e => by have h3 := (World.ownsRow.lt h2 q e.symm).1; omega)).trans (h1.block q hq hn)⟩
        obtain ⟨va, vc, hv6⟩ := ownSlX ho6
        rw [HLN.out] at hv6
        subst hv6
        have HO6 : Hid (OwnS w6 w.heap.size (.slice va (j + 1) vc) (l ++ [⟨tx.toArray⟩])) := ho6
        clear ho6 hg6 HO5 HRR HC5 HT5 hs5 HO3 HC3 HT3
        go_wp2
        go_roundw
        case rel => exact ⟨j + 1, p3, va, vc, _, by go_num, by omega, rfl, HLN, HO6, HC6, HT6, HKN⟩
        case measure => simp [intOf]; omega
    · have hje : n = j := by omega
      subst hje
      have HFN : Hid (rdT bs p = some (l, p2)) := by have h := HKJ.out; rw [Nat.sub_self] at h; exact h
      go_wp2
      go_ret2
      exact ⟨p2, _, l, true, rfl, HO.out, HC.out, HT.out, (fun h => by cases h), fun _ => HFN.out⟩
end Go.Proofs.Ytckidhcknibceaa
