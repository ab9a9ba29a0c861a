/- The contract of the cursor's proof, where two numbers of a block were read. -/
-- UNF Gen
import Derived.Test.YtckidhcknibceaaBlxMv
import Derived.Test.YtckidhcknibceaaPrfAdv
namespace Go.Proofs.Ytckidhcknibceaa
open Go.RowKit
theorem votL_evn : ∀ (n : Nat) (l : List Int), l.length = 2 * n → (votL l).map (·.sv) = evn l ∧ (votL l).map (·.tg) = odd l
  | 0, l, h => by
    have : l = [] := List.length_eq_zero_iff.1 (by omega)
    subst this; exact ⟨rfl, rfl⟩
  | n + 1, a :: b :: r, h => by
    have h1 := votL_evn n r (by simp only [List.length_cons] at h; omega)
    simp only [votL, List.map_cons, evn, odd, h1.1, h1.2, and_self]
  | n + 1, [], h => by simp at h
  | n + 1, [a], h => by simp only [List.length_cons, List.length_nil] at h; omega
theorem Cur.aside {w0 w wr wx : World} {g B : Nat} {v : Value} {bs : List UInt8} {p : Nat} (h : Cur w0 w g v bs p) (h1 : Below B wx w) (h2 : Below B wx wr) (hg : g < B) (hB : w0.heap.size ≤ B) (hs : B ≤ wr.heap.size) : Cur w0 wr g v bs p :=
  ⟨h.rd, h.ge, by rw [h2.block g hg, ← h1.block g hg]; exact h.blk, ⟨by rw [h2.os, ← h1.os]; exact h.bel.os, by rw [h2.tape, ← h1.tape]; exact h.bel.tape, by rw [h2.output, ← h1.output]; exact h.bel.output, Nat.le_trans hB hs, fun k hk => by rw [h2.block k (by omega), ← h1.block k (by omega)]; exact h.bel.block k hk⟩, h.le⟩
theorem Touch.aside {bs : List Nat} {w wa wr wx : World} {B : Nat} (h : Touch bs w wa) (h1 : Below B wx wa) (h2 : Below B wx wr) (hB : w.heap.size ≤ B) (hs : B ≤ wr.heap.size) : Touch bs w wr :=
  ⟨by rw [h2.os, ← h1.os]; exact h.os, by rw [h2.tape, ← h1.tape]; exact h.tape, by rw [h2.output, ← h1.output]; exact h.output, Nat.le_trans hB hs, fun k hk hn => by rw [h2.block k (by omega), ← h1.block k (by omega)]; exact h.block k hk hn⟩
/-- What proof leaves. -/
def PfP (w0 w : World) (g : Nat) (v : Value) (bs : List UInt8) (ns : List Int) (e : Ending) (w' : World) : Prop :=
  ∃ (p' : Nat) (Y : PrX) (ok : Bool), e = .returned (.tuple #[.agg #[.int .i64 Y.p.vw, .int .i64 Y.p.nm, Y.vs, Y.vt], .bool ok]) ∧ OwnPr w' w.heap.size Y ∧ Cur w0 w' g v bs p' ∧ Touch [g] w w' ∧ (ok = false → rdB bs = none) ∧
    (ok = true → ∃ (n : Nat) (l : List Int) (p5 : Nat), n ≤ 7 ∧ rdK bs 5 = some (ns ++ [Y.p.vw, Y.p.nm] ++ [(n : Int)], p5) ∧ rdK bs (5 + 2 * n) = some (ns ++ [Y.p.vw, Y.p.nm] ++ [(n : Int)] ++ l, p') ∧ Y.p.sv = evn l ∧ Y.p.tg = odd l)
set_option maxHeartbeats 4000000 in
set_option maxRecDepth 100000 in
theorem proof_any (w0 w : World) (g : Nat) (v : Value) (bs : List UInt8) (p : Nat) (ns : List Int) (hc : Cur w0 w g v bs p) (hk : rdK bs 2 = some (ns, p)) :
    Calls Try.prog 48 #[.pointer (some ⟨g, 0, none⟩)] w fun e w' => PfP w0 w g v bs ns e w' := by
  have HGL : Hid (g < w.heap.size ∧ w0.heap.size ≤ w.heap.size) := ⟨hc.lt, hc.bel.size⟩
  obtain ⟨A, hA⟩ : ∃ A, A = Obj.cells #[.int .i64 0, .int .i64 0, .slice none 0 0, .slice none 0 0] 30 := ⟨_, rfl⟩
  obtain ⟨Q, hQ⟩ : ∃ Q, Q = Obj.cells #[.pointer (some ⟨w.heap.size + 1, 0, none⟩), .pointer (some ⟨w.heap.size + 1, 1, none⟩)] 77 := ⟨_, rfl⟩
  obtain ⟨W3, hW3⟩ : ∃ W3, W3 = ((w.alloc A).alloc A).alloc Q := ⟨_, rfl⟩
  have t3 : Bx W3 w.heap.size 30 #[.int .i64 0, .int .i64 0, .slice none 0 0, .slice none 0 0] := by rw [hW3, hA]; exact ((bx_new w _ _).below (below1 _ _)).below (below1 _ _)
  have r3 : Bx W3 (w.heap.size + 1) 30 #[.int .i64 0, .int .i64 0, .slice none 0 0, .slice none 0 0] := by
    have h := (bx_new (w.alloc A) 30 #[.int .i64 0, .int .i64 0, .slice none 0 0, .slice none 0 0]).below (below1 _ Q)
    rw [szR] at h
    rw [hW3, hA]; rw [hA] at h; exact h
  have hrow : ∀ j (hj : j < [0, 1].length), W3.cell? ⟨w.heap.size + 2, j, none⟩ = some (.pointer (some ⟨w.heap.size + 1, [0, 1][j], none⟩)) := fun j hj => by
    have h := ptr_two ((w.alloc A).alloc A) 77 ⟨w.heap.size + 1, 0, none⟩ ⟨w.heap.size + 1, 1, none⟩ j hj rfl rfl rfl
    rw [szR, szR] at h
    rw [hW3, hQ]; exact h
  have hb3 : Below w.heap.size w W3 := by rw [hW3]; exact ((below1 w A).alloc (by simp) A).alloc (by simp; omega) Q
  have hc3 : Cur w0 W3 g v bs p := by rw [hW3]; exact ((hc.alloc A).alloc A).alloc Q
  have s3 : W3.heap.size = w.heap.size + 3 := by rw [hW3]; simp
  have HNU : Hid (Calls Try.prog 47 #[.pointer (some ⟨g, 0, none⟩), .slice (some ⟨w.heap.size + 2, 0, none⟩) 2 2] W3 fun e w' => NumsP w0 W3 g v bs 2 ns (w.heap.size + 1) 30 #[.int .i64 0, .int .i64 0, .slice none 0 0, .slice none 0 0] [0, 1] e w') :=
    numbers_any w0 W3 g v bs 2 p ns (w.heap.size + 1) 30 (w.heap.size + 2) #[.int .i64 0, .int .i64 0, .slice none 0 0, .slice none 0 0] [0, 1] hc3 hk r3 (by have := HGL.out; omega) (by have := HGL.out; omega) (by simp) hrow (by have := HGL.out; omega) (by omega) (by simp)
  have HW := hW3.symm
  rw [hA, hQ] at HW
  have HWW : Hid (((w.alloc (Obj.cells #[.int .i64 0, .int .i64 0, .slice none 0 0, .slice none 0 0] 30)).alloc (Obj.cells #[.int .i64 0, .int .i64 0, .slice none 0 0, .slice none 0 0] 30)).alloc (Obj.cells #[.pointer (some ⟨w.heap.size + 1, 0, none⟩), .pointer (some ⟨w.heap.size + 1, 1, none⟩)] 77) = W3) := HW
  have HB3 : Hid (Below w.heap.size w W3 ∧ W3.heap.size = w.heap.size + 3) := ⟨hb3, s3⟩
  clear hA hQ hW3 HW hrow r3 hc3 hc hk hb3 s3
  go_enter Try.func48, Try.ntmps48
  go_wp2_with fail
  rw [HWW.out]
  refine HNU.out.mono ?_
  rintro e w4 ⟨p4, xs, hxl, rfl, hc4, hx4, ht4, hy, hn⟩
  have t4 : Bx w4 w.heap.size 30 #[.int .i64 0, .int .i64 0, .slice none 0 0, .slice none 0 0] := t3.touch ht4 (by have := HGL.out; simp; omega)
  have HT4 : Hid (Touch [g] w w4) :=
    ⟨ht4.os.trans HB3.out.1.os, ht4.tape.trans HB3.out.1.tape, ht4.output.trans HB3.out.1.output, Nat.le_trans HB3.out.1.size ht4.size, fun q hq hg => (ht4.block q (Nat.lt_of_lt_of_le hq HB3.out.1.size) (by simp at hg; simp [hg]; omega)).trans (HB3.out.1.block q hq)⟩
  have HS4 : Hid (w.heap.size + 3 ≤ w4.heap.size) := by unfold Hid; rw [← HB3.out.2]; exact ht4.size
  have HC4 : Hid (Cur w0 w4 g v bs p4) := hc4
  have HTT4 : Hid (Bx w4 w.heap.size 30 #[.int .i64 0, .int .i64 0, .slice none 0 0, .slice none 0 0]) := t4
  clear t3 t4 hc4 HNU
  by_cases h2 : xs.length = 2
  case neg =>
    have hok : decide (xs.length = [0, 1].length) = false := decide_eq_false h2
    have HF : Hid (rdB bs = none) := rdB_no5 (rdK_more (hn (Nat.lt_of_le_of_ne hxl h2)) 5 (by simp))
    rw [hok]
    clear hok hy hn hx4 ht4 h2
    obtain ⟨c0, c1, c2, c3⟩ := HTT4.out.c4
    obtain ⟨f0, f1, f2, f3⟩ := HTT4.out.f4
    go_wp2
    obtain ⟨z0, z1, z2, z3⟩ := (Bx.put4 HTT4.out (.int .i64 0) (.int .i64 0) (.slice none 0 0) (.slice none 0 0)).c4
    have HCZ : Hid (Cur w0 (put4B w4 w.heap.size (.int .i64 0) (.int .i64 0) (.slice none 0 0) (.slice none 0 0)) g v bs p4) := HC4.out.touch put4B_touch (by have := HGL.out; simp; omega) (fun q hq => by have h1 := List.mem_singleton.1 hq; have h2 := HGL.out; omega)
    have HTZ : Hid (Touch [g] w (put4B w4 w.heap.size (.int .i64 0) (.int .i64 0) (.slice none 0 0) (.slice none 0 0))) := by
      have h1 := put4B_touch (W := w4) (b := w.heap.size) (u0 := .int .i64 0) (u1 := .int .i64 0) (u2 := .slice none 0 0) (u3 := .slice none 0 0)
      exact ⟨h1.os.trans HT4.out.os, h1.tape.trans HT4.out.tape, h1.output.trans HT4.out.output, Nat.le_trans HT4.out.size h1.size, fun q hq hg => (h1.block q (Nat.lt_of_lt_of_le hq HT4.out.size) (by simp; omega)).trans (HT4.out.block q hq hg)⟩
    unfold put4B at z0 z1 z2 z3 HCZ HTZ
    exact bodyPost_ret (v := .tuple #[.agg #[.int .i64 0, .int .i64 0, .slice none 0 0, .slice none 0 0], .bool false]) (by simp [results, Try.results48, go_sem, z0, z1, z2, z3]) rfl ⟨p4, prxZ, false, rfl, ownPr_zero _ _ 0 0, HCZ.out, HTZ.out, fun _ => HF.out, fun h => by cases h⟩
  case pos =>
    obtain ⟨x, y, rfl⟩ : ∃ x y, xs = [x, y] := by
      match xs, h2 with
      | [a, b], _ => exact ⟨a, b, rfl⟩
    have hok : decide ([x, y].length = [0, 1].length) = true := rfl
    have HK4 : Hid (rdK bs 4 = some (ns ++ [x, y], p4)) := hy rfl
    have HX4 : Hid (Bx w4 (w.heap.size + 1) 30 #[.int .i64 x, .int .i64 y, .slice none 0 0, .slice none 0 0]) := hx4
    have HMV : Hid (Calls Try.prog 58 #[.func (.func 50) #[.pointer (some ⟨g, 0, none⟩)] #[], .int .i64 7, .func (.func 59) #[.pointer (some ⟨g, 0, none⟩)] #[]] w4 fun e w' => MvP w0 w4 g v bs (ns ++ [x, y]) e w') := manyVotes_any w0 w4 g v bs p4 _ HC4.out HK4.out
    rw [hok]
    clear hok hy hn hx4 ht4 h2 hxl
    go_wp2_with fail
    refine HMV.out.mono ?_
    rintro e w5 ⟨p5, u, vs, ok, rfl, ou, hv7, hc5, ht5, hf5, hy5⟩
    have HC5 : Hid (Cur w0 w5 g v bs p5) := hc5
    have HT5 : Hid (Touch [g] w w5) := HT4.out.trans ht5
    have HTT5 : Hid (Bx w5 w.heap.size 30 #[.int .i64 0, .int .i64 0, .slice none 0 0, .slice none 0 0]) := HTT4.out.touch ht5 (by have := HGL.out; simp; omega)
    have HX5 : Hid (Bx w5 (w.heap.size + 1) 30 #[.int .i64 x, .int .i64 y, .slice none 0 0, .slice none 0 0]) := HX4.out.touch ht5 (by have := HGL.out; simp; omega)
    have HS5 : Hid (w.heap.size + 3 ≤ w5.heap.size) := Nat.le_trans HS4.out ht5.size
    have HF5 : Hid (ok = false → rdB bs = none) := hf5
    have HY5 : Hid (ok = true → ∃ (n : Nat) (l : List Int) (q5 : Nat), n ≤ 7 ∧ rdK bs 5 = some (ns ++ [x, y] ++ [(n : Int)], q5) ∧ rdK bs (5 + 2 * n) = some (ns ++ [x, y] ++ [(n : Int)] ++ l, p5) ∧ vs = votL l) := hy5
    obtain ⟨ua, uc, hu⟩ := ownSlX ou
    obtain ⟨m, hm⟩ : ∃ m, m = vs.length := ⟨_, rfl⟩
    have HM : Hid (m = vs.length) := hm
    rw [← hm] at hu hv7
    subst hu
    obtain ⟨wx, hwx, hbx⟩ := cut_world w5 (w.heap.size + 1) (by have := HS5.out; omega)
    have HWX : Hid (wx.heap.size = w.heap.size + 1 ∧ Below (w.heap.size + 1) wx w5) := ⟨hwx, hbx⟩
    have L0 : PrBxV wx w5 (w.heap.size + 1) #[.int .i64 x, .int .i64 y, .slice none 0 0, .slice none 0 0] ⟨⟨x, y, [], []⟩, .slice none 0 0, .slice none 0 0⟩ w4.heap.size (.slice ua m uc) vs :=
      ⟨⟨by rw [hwx]; exact Nat.le_refl _, HX5.out, ownPr_zero _ _ x y, by rw [hwx]; exact hbx⟩, ou⟩
    clear hc5 ht5 hf5 hy5 hm hwx hbx ou HMV HX4 HX5
    go_wp2
    go_loopw [27] (fun ii wr => ∃ (j : Nat) (a : Option Addr) (n1 c : Nat) (b : Option Addr) (n2 d : Nat) (sv tg : List Int), j ≤ m ∧ ii = .int .i64 j ∧ PrBxV wx wr (w.heap.size + 1) #[.int .i64 x, .int .i64 y, .slice a n1 c, .slice b n2 d] ⟨⟨x, y, sv, tg⟩, .slice a n1 c, .slice b n2 d⟩ w4.heap.size (.slice ua m uc) vs ∧ Hid (sv = (vs.take j).map (·.sv)) ∧ Hid (tg = (vs.take j).map (·.tg))) (fun ii _ => m - (intOf ii).toNat)
    case atStart => exact ⟨0, none, 0, 0, none, 0, 0, [], [], Nat.zero_le _, rfl, L0, rfl, rfl⟩
    case round =>
      obtain ⟨j, a, n1, c, b, n2, d, sv, tg, hj, rfl, L, HSV, HTG⟩ := hrel
      clear L0
      have HL : Hid (PrBxV wx wr (w.heap.size + 1) #[.int .i64 x, .int .i64 y, .slice a n1 c, .slice b n2 d] ⟨⟨x, y, sv, tg⟩, .slice a n1 c, .slice b n2 d⟩ w4.heap.size (.slice ua m uc) vs) := L
      by_cases hlt : j < m
      · have hjv : j < vs.length := by rw [← HM.out]; exact hlt
        obtain ⟨vb, vo, rfl, hva⟩ := L.vo.rd.at HM.out j hjv
        obtain ⟨V, hV⟩ : ∃ V, V = nthVo vs j := ⟨_, rfl⟩
        rw [← hV] at hva
        have HVJ : Hid (V = vs[j]) := by unfold Hid; rw [hV, nthVo_eq hjv]
        obtain ⟨q0, q1, q2, q3⟩ := hva
        have HLN : Hid (sv.length ≤ 1000 ∧ tg.length ≤ 1000) := by unfold Hid; rw [HSV.out, HTG.out]; simp; omega
        obtain ⟨wv, hwv⟩ : ∃ wv, wv = wr.alloc (.cells #[.int .i64 V.vw, .int .i64 V.nm, .int .i64 V.sv, .int .i64 V.tg] 72) := ⟨_, rfl⟩
        have HLV : Hid (PrBxV wx wv (w.heap.size + 1) #[.int .i64 x, .int .i64 y, .slice a n1 c, .slice b n2 d] ⟨⟨x, y, sv, tg⟩, .slice a n1 c, .slice b n2 d⟩ w4.heap.size (.slice (some ⟨vb, vo, none⟩) m uc) vs) := by rw [hwv]; exact HL.out.below (below1 wr _)
        have HAD : Hid (Calls Try.prog 60 #[.pointer (some ⟨w.heap.size + 1, 0, none⟩), .agg #[.int .i64 V.vw, .int .i64 V.nm, .int .i64 V.sv, .int .i64 V.tg]] wv fun e w' => AddV w4.heap.size (.slice (some ⟨vb, vo, none⟩) m uc) vs wx (w.heap.size + 1) ⟨x, y, sv, tg⟩ V e w') := add_atV _ _ _ wx wv _ x y sv tg a b n1 c n2 d V HLV.out HLN.out.1 HLN.out.2
        have HWV : Hid (wr.alloc (.cells #[.int .i64 V.vw, .int .i64 V.nm, .int .i64 V.sv, .int .i64 V.tg] 72) = wv) := hwv.symm
        have hj1 : (j : Int) < (m : Int) := by omega
        clear hV hwv L
        go_wp2_with fail
        rw [HWV.out]
        refine HAD.out.mono ?_
        rintro e w6 ⟨X, rfl, L6, hX⟩
        obtain ⟨a', c', b', d', hs1, hs2⟩ := L6.own.slices
        obtain ⟨⟨xv, xn, xsv, xtg⟩, ys, yt⟩ := X
        simp only [Prf.mk.injEq] at hX hs1 hs2 L6
        obtain ⟨rfl, rfl, rfl, rfl⟩ := hX
        have HSV2 : Hid (sv ++ [V.sv] = (vs.take (j + 1)).map (·.sv)) := by unfold Hid; rw [List.take_succ_eq_append_getElem (by rw [← HM.out]; exact hlt), List.map_append, ← HSV.out, ← HVJ.out]; rfl
        have HTG2 : Hid (tg ++ [V.tg] = (vs.take (j + 1)).map (·.tg)) := by unfold Hid; rw [List.take_succ_eq_append_getElem (by rw [← HM.out]; exact hlt), List.map_append, ← HTG.out, ← HVJ.out]; rfl
        generalize (sv ++ [V.sv]).length = m1 at hs1
        generalize (tg ++ [V.tg]).length = m2 at hs2
        subst hs1 hs2
        clear q0 q1 q2 q3 HL HLV HAD HWV
        go_wp2
        go_roundw
        case rel => exact ⟨j + 1, a', m1, c', b', m2, d', _, _, by omega, by go_num, L6, HSV2, HTG2⟩
        case measure => simp [intOf]; omega
      · have hje : j = m := by omega
        have HSV3 : Hid (sv = vs.map (·.sv)) := by unfold Hid; rw [HSV.out, hje, HM.out, List.take_length]
        have HTG3 : Hid (tg = vs.map (·.tg)) := by unfold Hid; rw [HTG.out, hje, HM.out, List.take_length]
        have HBW : Hid (Below (w.heap.size + 1) wx wr ∧ w.heap.size + 1 ≤ wr.heap.size) := by
          have h1 := L.bel
          rw [HWX.out.1] at h1
          exact ⟨h1, by have := L.box.lt; omega⟩
        have HR : Hid (Bx wr w.heap.size 30 #[.int .i64 0, .int .i64 0, .slice none 0 0, .slice none 0 0]) := by
          have h1 : wr.heap[w.heap.size]? = w5.heap[w.heap.size]? := by rw [HBW.out.1.block _ (by omega), ← HWX.out.2.block _ (by omega)]
          exact HTT5.out.of_block h1
        have HCR : Hid (Cur w0 wr g v bs p5) := HC5.out.aside HWX.out.2 HBW.out.1 (by have := HGL.out; omega) (by have := HGL.out; omega) HBW.out.2
        have HTR : Hid (Touch [g] w wr) := HT5.out.aside HWX.out.2 HBW.out.1 (by omega) HBW.out.2
        have HOR : Hid (OwnPr wr (w.heap.size + 1) ⟨⟨x, y, sv, tg⟩, .slice a n1 c, .slice b n2 d⟩) := by have h1 := L.own; rw [HWX.out.1] at h1; exact h1
        obtain ⟨p0, p1, p2, p3⟩ := L.box.c4
        obtain ⟨c0, c1, c2, c3⟩ := HR.out.c4
        obtain ⟨f0, f1, f2, f3⟩ := HR.out.f4
        clear L HL hje
        go_wp2
        obtain ⟨z0, z1, z2, z3⟩ := (Bx.put4 HR.out (.int .i64 x) (.int .i64 y) (.slice a n1 c) (.slice b n2 d)).c4
        have HCZ : Hid (Cur w0 (put4B wr w.heap.size (.int .i64 x) (.int .i64 y) (.slice a n1 c) (.slice b n2 d)) g v bs p5) := HCR.out.touch put4B_touch (by have := HGL.out; simp; omega) (fun q hq => by have h1 := List.mem_singleton.1 hq; have h2 := HGL.out; omega)
        have HTZ : Hid (Touch [g] w (put4B wr w.heap.size (.int .i64 x) (.int .i64 y) (.slice a n1 c) (.slice b n2 d))) := by
          have h1 := put4B_touch (W := wr) (b := w.heap.size) (u0 := .int .i64 x) (u1 := .int .i64 y) (u2 := .slice a n1 c) (u3 := .slice b n2 d)
          exact ⟨h1.os.trans HTR.out.os, h1.tape.trans HTR.out.tape, h1.output.trans HTR.out.output, Nat.le_trans HTR.out.size h1.size, fun q hq hg => (h1.block q (Nat.lt_of_lt_of_le hq HTR.out.size) (by simp; omega)).trans (HTR.out.block q hq hg)⟩
        have HOZ : Hid (OwnPr (put4B wr w.heap.size (.int .i64 x) (.int .i64 y) (.slice a n1 c) (.slice b n2 d)) w.heap.size ⟨⟨x, y, sv, tg⟩, .slice a n1 c, .slice b n2 d⟩) := (HOR.out.touch put4B_touch (fun q hq e => by have h1 := (HOR.out.bound hq).1; have h2 := List.mem_singleton.1 e; omega)).mono (by omega)
        unfold put4B at z0 z1 z2 z3 HCZ HTZ HOZ
        refine bodyPost_ret (v := .tuple #[.agg #[.int .i64 x, .int .i64 y, .slice a n1 c, .slice b n2 d], .bool ok]) (by simp [results, Try.results48, go_sem, z0, z1, z2, z3]) rfl ⟨p5, ⟨⟨x, y, sv, tg⟩, .slice a n1 c, .slice b n2 d⟩, ok, rfl, HOZ.out, HCZ.out, HTZ.out, HF5.out, fun h => ?_⟩
        obtain ⟨n, l, q5, hn7, e1, e2, e3⟩ := HY5.out h
        have hl := (rdK_back _ _ _ e2).1
        have hl4 := (rdK_back _ _ _ HK4.out).1
        have h9 := votL_evn n l (by simp only [List.length_append] at hl hl4; simp only [List.length_cons, List.length_nil] at hl hl4; omega)
        exact ⟨n, l, q5, hn7, e1, e2, by show sv = _; rw [HSV3.out, e3, h9.1], by show tg = _; rw [HTG3.out, e3, h9.2]⟩
end Go.Proofs.Ytckidhcknibceaa
