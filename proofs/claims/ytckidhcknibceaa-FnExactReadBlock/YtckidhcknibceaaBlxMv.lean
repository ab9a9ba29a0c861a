/- The contract of readMany over votes, where four numbers of a block were read. -/
-- UNF Gen
import Derived.Test.YtckidhcknibceaaBlxNs
namespace Go.Proofs.Ytckidhcknibceaa
open Go.RowKit
/-- Votes of numbers in turn. -/
def votL : List Int → List Vot
  | x :: y :: r => ⟨0, 0, x, y⟩ :: votL r
  | _ => []
theorem votL_snoc : ∀ (n : Nat) (l : List Int) (x y : Int), l.length = 2 * n → votL (l ++ [x, y]) = votL l ++ [⟨0, 0, x, y⟩]
  | 0, l, x, y, h => by
    have : l = [] := List.length_eq_zero_iff.1 (by omega)
    subst this; rfl
  | n + 1, a :: b :: r, x, y, h => by
    have h1 := votL_snoc n r x y (by simp only [List.length_cons] at h; omega)
    simp only [List.cons_append, votL, h1]
  | n + 1, [], x, y, h => by simp at h
  | n + 1, [a], x, y, h => by simp only [List.length_cons, List.length_nil] at h; omega
theorem votL_len : ∀ (n : Nat) (l : List Int), l.length = 2 * n → (votL l).length = n
  | 0, l, h => by
    have : l = [] := List.length_eq_zero_iff.1 (by omega)
    subst this; rfl
  | n + 1, a :: b :: r, h => by
    have h1 := votL_len n r (by simp only [List.length_cons] at h; omega)
    simp only [votL, List.length_cons, h1]
  | n + 1, [], h => by simp at h
  | n + 1, [a], h => by simp only [List.length_cons, List.length_nil] at h; omega
theorem ownVo_one9 (w : World) (x : Vot) : OwnVo (w.alloc (.cells #[.int .i64 x.vw, .int .i64 x.nm, .int .i64 x.sv, .int .i64 x.tg] 72)) w.heap.size (.slice (some ⟨w.heap.size, 0, none⟩) 1 1) [x] :=
  World.ownsRow_lit w #[.int .i64 x.vw, .int .i64 x.nm, .int .i64 x.sv, .int .i64 x.tg] 1 (Nat.le_refl _) (by unfold maxLen; omega) rfl
/-- What readMany leaves. -/
def MvP (w0 w : World) (g : Nat) (v : Value) (bs : List UInt8) (ns : List Int) (e : Ending) (w' : World) : Prop :=
  ∃ (p' : Nat) (u : Value) (vs : List Vot) (ok : Bool), e = .returned (.tuple #[u, .bool ok]) ∧ OwnVo w' w.heap.size u vs ∧ vs.length ≤ 7 ∧ Cur w0 w' g v bs p' ∧ Touch [g] w w' ∧ (ok = false → rdB bs = none) ∧
    (ok = true → ∃ (n : Nat) (l : List Int) (p5 : Nat), n ≤ 7 ∧ rdK bs 5 = some (ns ++ [(n : Int)], p5) ∧ rdK bs (5 + 2 * n) = some (ns ++ [(n : Int)] ++ l, p') ∧ vs = votL l)
theorem Touch.two {bs : List Nat} {a b c : World} (h : Touch bs a b) (k : Below b.heap.size b c) : Touch bs a c := h.trans (Touch.of_below k)
set_option maxHeartbeats 2000000 in
set_option maxRecDepth 100000 in
theorem manyVotes_any (w0 w : World) (g : Nat) (v : Value) (bs : List UInt8) (p : Nat) (ns : List Int) (hc : Cur w0 w g v bs p) (hk : rdK bs 4 = some (ns, p)) :
    Calls Try.prog 58 #[.func (.func 50) #[.pointer (some ⟨g, 0, none⟩)] #[], .int .i64 7, .func (.func 59) #[.pointer (some ⟨g, 0, none⟩)] #[]] w fun e w' => MvP w0 w g v bs ns e w' := by
  have HC : Hid (Cur w0 w g v bs p) := hc
  have HK : Hid (rdK bs 4 = some (ns, p)) := hk
  have HGL : Hid (g < w.heap.size ∧ w0.heap.size ≤ w.heap.size) := ⟨hc.lt, hc.bel.size⟩
  have HNL : Hid (ns.length = 4) := (rdK_back _ _ _ hk).1
  obtain ⟨n, hn⟩ : ∃ n, n = (rdNum (bs.drop p)).1 := ⟨_, rfl⟩
  obtain ⟨z, hz⟩ : ∃ z, z = (rdNum (bs.drop p)).2 := ⟨_, rfl⟩
  have HN := number_any w0 w g v bs p hc
  unfold NumPost at HN
  rw [← hn, ← hz] at HN
  have HNU : Hid (Calls _ _ _ _ _) := HN
  have hnm : n ≤ 1099511627776 := by have := rdNum_len (bs.drop p); rw [← hn] at this; exact this.2.1
  have HNZ : Hid (n = (rdNum (bs.drop p)).1 ∧ z = (rdNum (bs.drop p)).2) := ⟨hn, hz⟩
  clear HN hn hz hc hk
  by_cases hz0 : z = 0
  · have hzd : decide (z ≠ 0) = false := by simp [hz0]
    have HF : Hid (rdB bs = none) := rdB_no5 (rdK_no HK.out (by rw [← HNZ.out.2]; exact hz0))
    go_enter Try.func58, Try.ntmps58
    go_wp2_with fail
    refine HNU.out.mono ?_
    rintro e w1 ⟨p1, rfl, hc1, hp1, hg1⟩
    rw [hzd]
    have HT1 : Hid (Touch [g] w w1) := Touch.of_grown hg1 (fun q hq => by simp at hq; simp [hq])
    have HC1 : Hid (Cur w0 (w1.alloc (.cells #[] 72)) g v bs p1) := hc1.alloc _
    have HO1 : Hid (OwnVo (w1.alloc (.cells #[] 72)) w.heap.size (.slice (some ⟨w1.heap.size, 0, none⟩) 0 0) []) := (ownVo_none w1).mono HT1.out.size
    have HT2 : Hid (Touch [g] w (w1.alloc (.cells #[] 72))) := HT1.out.two (below1 _ _)
    clear hzd hz0 hp1 hg1 hc1
    go_wp2
    go_ret2
    exact ⟨p1, _, [], false, rfl, HO1.out, by simp, HC1.out, HT2.out, fun _ => HF.out, fun h => by cases h⟩
  have hzd : decide (z ≠ 0) = true := by simp [hz0]
  have HK5 : Hid (rdK bs 5 = some (ns ++ [(n : Int)], p + z)) := by unfold Hid; rw [show 5 = 4 + 1 from rfl, rdK_go HK.out (by rw [← HNZ.out.2]; exact hz0), ← HNZ.out.1, ← HNZ.out.2]
  have HG4 : Hid (gI (ns ++ [(n : Int)]) 4 = (n : Int)) := by
    unfold Hid gI
    rw [List.getD_eq_getElem?_getD, List.getElem?_append_right (by rw [HNL.out]; exact Nat.le_refl _), HNL.out]
    rfl
  by_cases h7 : 7 < n
  · have HF : Hid (rdB bs = none) := rdB_no7 HK5.out (by rw [HG4.out]; omega)
    go_enter Try.func58, Try.ntmps58
    go_wp2_with fail
    refine HNU.out.mono ?_
    rintro e w1 ⟨p1, rfl, hc1, hp1, hg1⟩
    rw [hzd]
    have HT1 : Hid (Touch [g] w w1) := Touch.of_grown hg1 (fun q hq => by simp at hq; simp [hq])
    have HC1 : Hid (Cur w0 (w1.alloc (.cells #[] 72)) g v bs p1) := hc1.alloc _
    have HO1 : Hid (OwnVo (w1.alloc (.cells #[] 72)) w.heap.size (.slice (some ⟨w1.heap.size, 0, none⟩) 0 0) []) := (ownVo_none w1).mono HT1.out.size
    have HT2 : Hid (Touch [g] w (w1.alloc (.cells #[] 72))) := HT1.out.two (below1 _ _)
    clear hzd hz0 hp1 hg1 hc1
    go_wp2
    go_ret2
    exact ⟨p1, _, [], false, rfl, HO1.out, by simp, HC1.out, HT2.out, fun _ => HF.out, fun h => by cases h⟩
  have hn7 : n ≤ 7 := by omega
  go_enter Try.func58, Try.ntmps58
  go_wp2_with fail
  refine HNU.out.mono ?_
  rintro e w1 ⟨p1, rfl, hc1, hp1, hg1⟩
  rw [hzd]
  have hp1z := hp1 hz0
  have HT1 : Hid (Touch [g] w w1) := Touch.of_grown hg1 (fun q hq => by simp at hq; simp [hq])
  have HC1 : Hid (Cur w0 (w1.alloc (.cells #[] 72)) g v bs p1) := hc1.alloc _
  have HO1 : Hid (OwnVo (w1.alloc (.cells #[] 72)) w.heap.size (.slice (some ⟨w1.heap.size, 0, none⟩) 0 0) []) := (ownVo_none w1).mono HT1.out.size
  have HT2 : Hid (Touch [g] w (w1.alloc (.cells #[] 72))) := HT1.out.two (below1 _ _)
  rw [← hp1z] at HK5
  clear hzd hz0 hp1 hg1 hc1 h7 hp1z HNU HNZ HC
  go_wp2
  go_loopw [10, 28] (fun oo ii wr => ∃ (j p : Nat) (oa : Option Addr) (oc : Nat) (l : List Int), ii = .int .i64 j ∧ j ≤ n ∧ oo = .slice oa j oc ∧ Hid (l.length = 2 * j) ∧ Hid (OwnVo wr w.heap.size (.slice oa j oc) (votL l)) ∧ Hid (Cur w0 wr g v bs p) ∧ Hid (Touch [g] w wr) ∧ Hid (rdK bs (5 + 2 * j) = some (ns ++ [(n : Int)] ++ l, p))) (fun _ ii _ => n - (intOf ii).toNat)
  case atStart => exact ⟨0, p1, some ⟨w1.heap.size, 0, none⟩, 0, [], rfl, by omega, rfl, rfl, HO1, HC1, HT2, by unfold Hid; rw [List.append_nil]; exact HK5.out⟩
  case round =>
    obtain ⟨j, p, oa, oc, l, rfl, hj, rfl, HL, HO, HC, HT, HKJ⟩ := hrel
    clear HT1 HC1 HO1 HT2
    by_cases hlt : j < n
    · have HVT : Hid (Calls Try.prog 59 #[.pointer (some ⟨g, 0, none⟩)] wr fun e w' => VoteP w0 wr g v bs (5 + 2 * j) (ns ++ [(n : Int)] ++ l) e w') := vote_any w0 wr g v bs _ p _ HC.out HKJ.out
      go_wp2_with fail
      refine HVT.out.mono ?_
      rintro e w2 ⟨p2, x, y, ok, rfl, hc2, ht2, hy2, hn2⟩
      have HT3 : Hid (Touch [g] w w2) := HT.out.trans ht2
      have HC3 : Hid (Cur w0 w2 g v bs p2) := hc2
      have HO3 : Hid (OwnVo w2 w.heap.size (.slice oa j oc) (votL l)) := ht2.row HO.out (fun q hq e => by have h1 := (World.ownsRow.lt HO.out q hq).1; have h2 := List.mem_singleton.1 e; have h3 := HGL.out; omega)
      have HY2 : Hid (ok = true → rdK bs (5 + 2 * j + 2) = some (ns ++ [(n : Int)] ++ l ++ [x, y], p2)) := hy2
      have HN2 : Hid (ok = false → rdK bs (5 + 2 * j + 2) = none) := hn2
      have hs2 := HT3.out.size
      clear hc2 ht2 hy2 hn2 HVT
      cases ok with
      | false =>
        have HF : Hid (rdB bs = none) := rdB_noK HK5.out HG4.out (rdK_more (HN2.out rfl) _ (by omega))
        have HC4 : Hid (Cur w0 ((w2.alloc (.cells #[.int .i64 0, .int .i64 0, .int .i64 x, .int .i64 y] 72)).alloc (.cells #[] 72)) g v bs p2) := (HC3.out.alloc _).alloc _
        have HO4 : Hid (OwnVo ((w2.alloc (.cells #[.int .i64 0, .int .i64 0, .int .i64 x, .int .i64 y] 72)).alloc (.cells #[] 72)) w.heap.size (.slice (some ⟨w2.heap.size + 1, 0, none⟩) 0 0) []) := by
          have h := (ownVo_none (w2.alloc (.cells #[.int .i64 0, .int .i64 0, .int .i64 x, .int .i64 y] 72)))
          rw [szR] at h
          exact h.mono (by omega)
        have HT4 : Hid (Touch [g] w ((w2.alloc (.cells #[.int .i64 0, .int .i64 0, .int .i64 x, .int .i64 y] 72)).alloc (.cells #[] 72))) := (HT3.out.two (below1 _ _)).two (below1 _ _)
        go_wp2
        go_ret2
        exact ⟨p2, _, [], false, rfl, HO4.out, by simp, HC4.out, HT4.out, fun _ => HF.out, fun h => by cases h⟩
      | true =>
        have X9 := bx_new w2 72 #[.int .i64 0, .int .i64 0, .int .i64 x, .int .i64 y]
        obtain ⟨w3, hw3⟩ : ∃ w3, w3 = w2.alloc (.cells #[.int .i64 0, .int .i64 0, .int .i64 x, .int .i64 y] 72) := ⟨_, rfl⟩
        have s3 : w3.heap.size = w2.heap.size + 1 := by rw [hw3]; simp
        rw [← hw3] at X9
        have HB3 : Hid (Below w2.heap.size w2 (w3.alloc (.cells #[.int .i64 0, .int .i64 0, .int .i64 x, .int .i64 y] 72))) := by rw [hw3]; exact below2 w2 _ _
        have HO5 : Hid (OwnVo (w3.alloc (.cells #[.int .i64 0, .int .i64 0, .int .i64 x, .int .i64 y] 72)) w.heap.size (.slice oa j oc) (votL l)) := OwnVo.below HO3.out HB3.out
        have HR5 : Hid (RdVo (w3.alloc (.cells #[.int .i64 0, .int .i64 0, .int .i64 x, .int .i64 y] 72)) (.slice (some ⟨w3.heap.size, 0, none⟩) 1 1) [⟨0, 0, x, y⟩]) := (ownVo_one9 w3 ⟨0, 0, x, y⟩).rd
        rw [s3] at HR5
        have HC5 : Hid (Cur w0 (w3.alloc (.cells #[.int .i64 0, .int .i64 0, .int .i64 x, .int .i64 y] 72)) g v bs p2) := by rw [hw3]; exact (HC3.out.alloc _).alloc _
        have HT5 : Hid (Touch [g] w (w3.alloc (.cells #[.int .i64 0, .int .i64 0, .int .i64 x, .int .i64 y] 72))) := HT3.out.two HB3.out
        have HVN : Hid (votL l ++ [⟨0, 0, x, y⟩] = votL (l ++ [x, y])) := (votL_snoc j l x y HL.out).symm
        have HLN : Hid ((l ++ [x, y]).length = 2 * (j + 1)) := by unfold Hid; rw [List.length_append, HL.out]; simp; omega
        have HKN : Hid (rdK bs (5 + 2 * (j + 1)) = some (ns ++ [(n : Int)] ++ (l ++ [x, y]), p2)) := by
          have h := HY2.out rfl
          unfold Hid
          rw [show 5 + 2 * (j + 1) = 5 + 2 * j + 2 by omega, h, List.append_assoc (ns ++ [(n : Int)])]
        have HVL : Hid ((votL l).length = j) := votL_len j l HL.out
        have hs5 := HT5.out.size
        obtain ⟨q0, q1, q2, q3⟩ := X9.c4
        rw [hw3] at HO5 HR5 HC5 HT5 hs5 q0 q1 q2 q3
        clear hw3 s3 X9 HY2 HN2 HB3 w3
        go_wp2_with (at_builtin; (refine wpList_append_votes rfl _ _ rfl w.heap.size (.slice oa j oc) _ (votL l) [⟨0, 0, x, y⟩] rfl rfl HO5.out HR5.out (by have := HVL.out; simp; omega) hs5 ?_))
        intro v6 w6 ho6 hg6
        have HC6 : Hid (Cur w0 w6 g v bs p2) := HC5.out.grow hg6 (fun q hq => by have h1 := (World.ownsRow.lt HO5.out q hq).1; have h2 := HGL.out; omega)
        have HT6 : Hid (Touch [g] w w6) := by
          have h1 := HT5.out
          have h2 := HO5.out
          exact ⟨hg6.os.trans h1.os, hg6.tape.trans h1.tape, hg6.output.trans h1.output, Nat.le_trans h1.size hg6.size, fun q hq hn => (hg6.block q (Nat.lt_of_lt_of_le hq h1.size) (fun e => by have h3 := (World.ownsRow.lt h2 q e.symm).1; omega)).trans (h1.block q hq hn)⟩
        obtain ⟨va, vc, hv6⟩ := ownSlX ho6
        have hl6 : (votL l ++ [(⟨0, 0, x, y⟩ : Vot)]).length = j + 1 := by rw [List.length_append, HVL.out]; rfl
        rw [hl6] at hv6
        subst hv6
        have HO6 : Hid (OwnVo w6 w.heap.size (.slice va (j + 1) vc) (votL (l ++ [x, y]))) := by unfold Hid; rw [← HVN.out]; exact ho6
        clear ho6 hg6 HO5 HR5 HC5 HT5 hs5 q0 q1 q2 q3 hl6 HO3 HC3 HT3
        go_wp2
        go_roundw
        case rel => exact ⟨j + 1, p2, va, vc, _, by go_num, by omega, rfl, HLN, HO6, HC6, HT6, HKN⟩
        case measure => simp [intOf]; omega
    · have hje : n = j := by omega
      subst hje
      go_wp2
      go_ret2
      exact ⟨p, _, votL l, true, rfl, HO.out, by rw [votL_len _ _ HL.out]; omega, HC.out, HT.out, (fun h => by cases h), fun _ => ⟨n, l, p1, by omega, HK5.out, HKJ.out, rfl⟩⟩
end Go.Proofs.Ytckidhcknibceaa
