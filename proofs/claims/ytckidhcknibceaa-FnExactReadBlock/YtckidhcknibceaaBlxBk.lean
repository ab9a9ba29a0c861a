/- The contract of the cursor's block, from the first byte on. -/
-- UNF Gen
import Derived.Test.YtckidhcknibceaaBlxPf
import Derived.Test.YtckidhcknibceaaBlxMt
import Derived.Test.YtckidhcknibceaaBlxCp
import Derived.Deep.DeepCutAuto
namespace Go.Proofs.Ytckidhcknibceaa
open Go.RowKit
theorem Touch.res {g : Nat} {w w1 w2 : World} (h : Touch [g] w w1) (k : Touch [w.heap.size] w1 w2) : Touch [g] w w2 :=
  ⟨k.os.trans h.os, k.tape.trans h.tape, k.output.trans h.output, Nat.le_trans h.size k.size, fun q hq hn => (k.block q (Nat.lt_of_lt_of_le hq h.size) (by simp; omega)).trans (h.block q hq hn)⟩
/-- Nothing that was there but the cursor has turned, and of what is new only one box. -/
theorem Touch.new {g T : Nat} {w w1 w2 : World} (h : Touch [g] w w1) (k : Touch [g, T] w1 w2) (hT : w.heap.size ≤ T) : Touch [g] w w2 :=
  ⟨k.os.trans h.os, k.tape.trans h.tape, k.output.trans h.output, Nat.le_trans h.size k.size, fun q hq hn => (k.block q (Nat.lt_of_lt_of_le hq h.size) (by simp at hn; simp [hn]; omega)).trans (h.block q hq hn)⟩
theorem ownPr_nil (w : World) (B : Nat) (v n : Int) : OwnPr w B ⟨⟨v, n, [], []⟩, .slice none 0 0, .slice none 0 0⟩ := ownPr_zero w B v n
theorem ownS_nil (w : World) (B : Nat) : OwnS w B (.slice none 0 0) [] := ⟨rfl, .inl ⟨rfl, rfl⟩⟩
theorem ownBl_of {w : World} {B : Nat} {b : Blk} {vs vt vm : Value} (h : OwnPr w B ⟨b.p, vs, vt⟩) (k : OwnS w B vm b.mo) : OwnBl w B ⟨b, vs, vt, vm⟩ :=
  ⟨h, k, fun q h1 h2 => rows_apart h.sv k (by decide) q h1 h2, fun q h1 h2 => rows_apart h.tg k (by decide) q h1 h2⟩
/-- What block leaves. -/
def BkP (w0 w : World) (g : Nat) (v : Value) (bs : List UInt8) (e : Ending) (w' : World) : Prop :=
  ∃ (p' : Nat) (Y : BlX) (ok : Bool), e = .returned (.tuple #[.agg #[.int .i64 Y.b.vw, .int .i64 Y.b.pa, .int .i64 Y.b.p.vw, .int .i64 Y.b.p.nm, Y.vs, Y.vt, Y.vm, .int .i64 Y.b.sv], .bool ok]) ∧ OwnBl w' w.heap.size Y ∧ Cur w0 w' g v bs p' ∧ Touch [g] w w' ∧ (ok = false → rdB bs = none) ∧ (ok = true → rdB bs = some (Y.b, p'))
theorem gI_three (a b c d e : Int) (r : List Int) : gI (a :: b :: c :: d :: e :: r) 0 = a ∧ gI (a :: b :: c :: d :: e :: r) 1 = b ∧ gI (a :: b :: c :: d :: e :: r) 2 = c ∧ gI (a :: b :: c :: d :: e :: r) 3 = d ∧ gI (a :: b :: c :: d :: e :: r) 4 = e := ⟨rfl, rfl, rfl, rfl, rfl⟩
set_option maxHeartbeats 8000000 in
set_option maxRecDepth 100000 in
theorem block_any (w0 w : World) (g : Nat) (v : Value) (bs : List UInt8) (hc : Cur w0 w g v bs 0) :
    Calls Try.prog 32 #[.pointer (some ⟨g, 0, none⟩)] w fun e w' => BkP w0 w g v bs e w' := by
  have HGL : Hid (g < w.heap.size ∧ w0.heap.size ≤ w.heap.size) := ⟨hc.lt, hc.bel.size⟩
  obtain ⟨A, hA⟩ : ∃ A, A = Obj.cells #[.int .i64 0, .int .i64 0, .int .i64 0, .int .i64 0, .slice none 0 0, .slice none 0 0, .slice none 0 0, .int .i64 0] 32 := ⟨_, rfl⟩
  obtain ⟨Q, hQ⟩ : ∃ Q, Q = Obj.cells #[.pointer (some ⟨w.heap.size + 1, 0, none⟩), .pointer (some ⟨w.heap.size + 1, 1, none⟩)] 77 := ⟨_, rfl⟩
  obtain ⟨W3, hW3⟩ : ∃ W3, W3 = ((w.alloc A).alloc A).alloc Q := ⟨_, rfl⟩
  have t3 : Bx W3 w.heap.size 32 #[.int .i64 0, .int .i64 0, .int .i64 0, .int .i64 0, .slice none 0 0, .slice none 0 0, .slice none 0 0, .int .i64 0] := by rw [hW3, hA]; exact ((bx_new w _ _).below (below1 _ _)).below (below1 _ _)
  have r3 : Bx W3 (w.heap.size + 1) 32 #[.int .i64 0, .int .i64 0, .int .i64 0, .int .i64 0, .slice none 0 0, .slice none 0 0, .slice none 0 0, .int .i64 0] := by
    have h := (bx_new (w.alloc A) 32 #[.int .i64 0, .int .i64 0, .int .i64 0, .int .i64 0, .slice none 0 0, .slice none 0 0, .slice none 0 0, .int .i64 0]).below (below1 _ Q)
    rw [szR] at h
    rw [hW3, hA]; rw [hA] at h; exact h
  have hrow : ∀ j (hj : j < [0, 1].length), W3.cell? ⟨w.heap.size + 2, j, none⟩ = some (.pointer (some ⟨w.heap.size + 1, [0, 1][j], none⟩)) := fun j hj => by
    have h := ptr_two ((w.alloc A).alloc A) 77 ⟨w.heap.size + 1, 0, none⟩ ⟨w.heap.size + 1, 1, none⟩ j hj rfl rfl rfl
    rw [szR, szR] at h
    rw [hW3, hQ]; exact h
  have hb3 : Below w.heap.size w W3 := by rw [hW3]; exact ((below1 w A).alloc (by simp) A).alloc (by simp; omega) Q
  have hc3 : Cur w0 W3 g v bs 0 := by rw [hW3]; exact ((hc.alloc A).alloc A).alloc Q
  have s3 : W3.heap.size = w.heap.size + 3 := by rw [hW3]; simp
  have HNU : Hid (Calls Try.prog 47 #[.pointer (some ⟨g, 0, none⟩), .slice (some ⟨w.heap.size + 2, 0, none⟩) 2 2] W3 fun e w' => NumsP w0 W3 g v bs 0 [] (w.heap.size + 1) 32 #[.int .i64 0, .int .i64 0, .int .i64 0, .int .i64 0, .slice none 0 0, .slice none 0 0, .slice none 0 0, .int .i64 0] [0, 1] e w') :=
    numbers_any w0 W3 g v bs 0 0 [] (w.heap.size + 1) 32 (w.heap.size + 2) #[.int .i64 0, .int .i64 0, .int .i64 0, .int .i64 0, .slice none 0 0, .slice none 0 0, .slice none 0 0, .int .i64 0] [0, 1] hc3 rfl r3 (by have := HGL.out; omega) (by have := HGL.out; omega) (by simp) hrow (by have := HGL.out; omega) (by omega) (by simp)
  have HW := hW3.symm
  rw [hA, hQ] at HW
  have HWW : Hid (((w.alloc (Obj.cells #[.int .i64 0, .int .i64 0, .int .i64 0, .int .i64 0, .slice none 0 0, .slice none 0 0, .slice none 0 0, .int .i64 0] 32)).alloc (Obj.cells #[.int .i64 0, .int .i64 0, .int .i64 0, .int .i64 0, .slice none 0 0, .slice none 0 0, .slice none 0 0, .int .i64 0] 32)).alloc (Obj.cells #[.pointer (some ⟨w.heap.size + 1, 0, none⟩), .pointer (some ⟨w.heap.size + 1, 1, none⟩)] 77) = W3) := HW
  have HT3 : Hid (Touch [g] w W3) := Touch.of_below hb3
  have HS3 : Hid (W3.heap.size = w.heap.size + 3) := s3
  clear hA hQ hW3 HW hrow r3 hc3 hc hb3 s3
  go_enter Try.func32, Try.ntmps32
  go_wp2_with fail
  rw [HWW.out]
  refine HNU.out.mono ?_
  rintro e w4 ⟨q4, xs, hxl, rfl, hc4, hx4, ht4, hy, hn⟩
  have HRB : Hid (Bx w4 w.heap.size 32 #[.int .i64 0, .int .i64 0, .int .i64 0, .int .i64 0, .slice none 0 0, .slice none 0 0, .slice none 0 0, .int .i64 0]) := t3.touch ht4 (by have := HGL.out; simp; omega)
  have HTX : Hid (Touch [g] w w4) := HT3.out.new (T := w.heap.size + 1) ht4 (by omega)
  have HS4 : Hid (w.heap.size + 3 ≤ w4.heap.size) := by unfold Hid; rw [← HS3.out]; exact ht4.size
  have HCX : Hid (Cur w0 w4 g v bs q4) := hc4
  clear t3 hc4 HNU HT3 HWW
  by_cases h2 : xs.length = 2
  case neg =>
    have hok : decide (xs.length = [0, 1].length) = false := decide_eq_false h2
    have HF : Hid (rdB bs = none) := rdB_no5 (rdK_more (hn (Nat.lt_of_le_of_ne hxl h2)) 5 (by simp))
    obtain ⟨x, y, hxy⟩ : ∃ x y : Int, putN #[.int .i64 0, .int .i64 0, .int .i64 0, .int .i64 0, .slice none 0 0, .slice none 0 0, .slice none 0 0, .int .i64 0] [0, 1] xs = #[.int .i64 x, .int .i64 y, .int .i64 0, .int .i64 0, .slice none 0 0, .slice none 0 0, .slice none 0 0, .int .i64 0] := by
      match xs, hxl with
      | [], _ => exact ⟨0, 0, rfl⟩
      | [a], _ => exact ⟨a, 0, rfl⟩
      | [a, b], _ => exact ⟨a, b, rfl⟩
      | a :: b :: c :: r, h => simp only [List.length_cons, List.length_nil] at h; omega
    rw [hxy] at hx4
    have HBX : Hid (Bx w4 (w.heap.size + 1) 32 #[.int .i64 x, .int .i64 y, .int .i64 0, .int .i64 0, .slice none 0 0, .slice none 0 0, .slice none 0 0, .int .i64 0]) := hx4
    have HOX : Hid (OwnBl w4 (w.heap.size + 1) ⟨⟨x, y, prfZ, [], 0⟩, .slice none 0 0, .slice none 0 0, .slice none 0 0⟩) := ownBl_of (ownPr_zero _ _ 0 0) (ownS_nil _ _)
    rw [hok]
    clear hok hy hn hx4 ht4 h2 hxy
    obtain ⟨r0, r1, r2, r3, r4, r5, r6, r7⟩ := HBX.out.c8
    obtain ⟨c0, c1, c2, c3, c4, c5, c6, c7⟩ := HRB.out.c8
    obtain ⟨f0, f1, f2, f3, f4, f5, f6, f7⟩ := HRB.out.f8
    go_wp2
    obtain ⟨z0, z1, z2, z3, z4, z5, z6, z7⟩ := (Bx.put8 HRB.out (.int .i64 x) (.int .i64 y) (.int .i64 0) (.int .i64 0) (.slice none 0 0) (.slice none 0 0) (.slice none 0 0) (.int .i64 0)).c8
    have HCZ : Hid (Cur w0 (put8B w4 w.heap.size (.int .i64 x) (.int .i64 y) (.int .i64 0) (.int .i64 0) (.slice none 0 0) (.slice none 0 0) (.slice none 0 0) (.int .i64 0)) g v bs q4) := HCX.out.touch put8B_touch (by have := HGL.out; simp; omega) (fun q hq => by have h1 := List.mem_singleton.1 hq; have h2 := HGL.out; omega)
    have HTZ : Hid (Touch [g] w (put8B w4 w.heap.size (.int .i64 x) (.int .i64 y) (.int .i64 0) (.int .i64 0) (.slice none 0 0) (.slice none 0 0) (.slice none 0 0) (.int .i64 0))) := HTX.out.res put8B_touch
    have HOZ : Hid (OwnBl (put8B w4 w.heap.size (.int .i64 x) (.int .i64 y) (.int .i64 0) (.int .i64 0) (.slice none 0 0) (.slice none 0 0) (.slice none 0 0) (.int .i64 0)) w.heap.size ⟨⟨x, y, prfZ, [], 0⟩, .slice none 0 0, .slice none 0 0, .slice none 0 0⟩) := (HOX.out.touch put8B_touch (fun q hq e => by have h1 := (HOX.out.bound hq).1; have h2 := List.mem_singleton.1 e; omega)).mono (by omega)
    unfold put8B at z0 z1 z2 z3 z4 z5 z6 z7 HCZ HTZ HOZ
    exact bodyPost_ret (v := .tuple #[.agg #[.int .i64 x, .int .i64 y, .int .i64 0, .int .i64 0, .slice none 0 0, .slice none 0 0, .slice none 0 0, .int .i64 0], .bool false]) (by simp [results, Try.results32, go_sem, z0, z1, z2, z3, z4, z5, z6, z7]) rfl ⟨q4, ⟨⟨x, y, prfZ, [], 0⟩, .slice none 0 0, .slice none 0 0, .slice none 0 0⟩, false, rfl, HOZ.out, HCZ.out, HTZ.out, (fun _ => HF.out), (fun h => by cases h)⟩
  case pos =>
    obtain ⟨x, y, rfl⟩ : ∃ x y, xs = [x, y] := by
      match xs, h2 with
      | [a, b], _ => exact ⟨a, b, rfl⟩
    have hok : decide ([x, y].length = [0, 1].length) = true := rfl
    have HK2 : Hid (rdK bs 2 = some ([x, y], q4)) := hy rfl
    have HX4 : Hid (Bx w4 (w.heap.size + 1) 32 #[.int .i64 x, .int .i64 y, .int .i64 0, .int .i64 0, .slice none 0 0, .slice none 0 0, .slice none 0 0, .int .i64 0]) := hx4
    have HPF : Hid (Calls Try.prog 48 #[.pointer (some ⟨g, 0, none⟩)] w4 fun e w' => PfP w0 w4 g v bs [x, y] e w') := proof_any w0 w4 g v bs q4 _ HCX.out HK2.out
    rw [hok]
    clear hok hy hn hx4 ht4 h2 hxl
    go_wp2_with fail
    refine HPF.out.mono ?_
    rintro e w5 ⟨p5, Y, ok, rfl, oY, hc5, ht5, hf5, hy5⟩
    obtain ⟨⟨pv, pn, sv, tg⟩, vs, vt⟩ := Y
    obtain ⟨a1, k1, a2, k2, hs1, hs2⟩ := oY.slices
    simp only at hs1 hs2 oY hy5
    generalize sv.length = n1 at hs1
    generalize tg.length = n2 at hs2
    subst hs1 hs2
    have HF5 : Hid (ok = false → rdB bs = none) := hf5
    have HY5 : Hid (ok = true → ∃ (n : Nat) (l : List Int) (q5 : Nat), n ≤ 7 ∧ rdK bs 5 = some ([x, y] ++ [pv, pn] ++ [(n : Int)], q5) ∧ rdK bs (5 + 2 * n) = some ([x, y] ++ [pv, pn] ++ [(n : Int)] ++ l, p5) ∧ sv = evn l ∧ tg = odd l) := hy5
    have X5 : Bx w5 (w.heap.size + 1) 32 _ := HX4.out.touch ht5 (by have := HGL.out; simp; omega)
    have R5 : Bx w5 w.heap.size 32 #[.int .i64 0, .int .i64 0, .int .i64 0, .int .i64 0, .slice none 0 0, .slice none 0 0, .slice none 0 0, .int .i64 0] := HRB.out.touch ht5 (by have := HGL.out; simp; omega)
    have X6 := X5.putP (.int .i64 pv) (.int .i64 pn) (.slice a1 n1 k1) (.slice a2 n2 k2)
    have tp := putPB_touch (W := w5) (b := w.heap.size + 1) (u0 := .int .i64 pv) (u1 := .int .i64 pn) (u2 := .slice a1 n1 k1) (u3 := .slice a2 n2 k2)
    obtain ⟨w6, hw6⟩ : ∃ w6, w6 = putPB w5 (w.heap.size + 1) (.int .i64 pv) (.int .i64 pn) (.slice a1 n1 k1) (.slice a2 n2 k2) := ⟨_, rfl⟩
    rw [← hw6] at X6 tp
    have HW6 : Hid ((((w5.setCell ⟨w.heap.size + 1, 2, none⟩ (.int .i64 pv)).setCell ⟨w.heap.size + 1, 3, none⟩ (.int .i64 pn)).setCell ⟨w.heap.size + 1, 4, none⟩ (.slice a1 n1 k1)).setCell ⟨w.heap.size + 1, 5, none⟩ (.slice a2 n2 k2) = w6) := hw6.symm
    have T6 : Touch [g] w w6 := (HTX.out.trans ht5).new (T := w.heap.size + 1) (tp.more (fun q hq => by simp at hq; simp [hq])) (by omega)
    have C6 : Cur w0 w6 g v bs p5 := hc5.touch tp (by have := HGL.out; simp; omega) (fun q hq => by have h1 := List.mem_singleton.1 hq; have h2 := HGL.out; omega)
    have R6 : Bx w6 w.heap.size 32 #[.int .i64 0, .int .i64 0, .int .i64 0, .int .i64 0, .slice none 0 0, .slice none 0 0, .slice none 0 0, .int .i64 0] := R5.touch tp (by simp)
    have O6 : OwnPr w6 (w.heap.size + 3) ⟨⟨pv, pn, sv, tg⟩, .slice a1 n1 k1, .slice a2 n2 k2⟩ := (oY.touch tp (fun q hq e => by have h1 := (oY.bound hq).1; have h2 := List.mem_singleton.1 e; have h3 := HS4.out; omega)).mono HS4.out
    have HS6 : Hid (w.heap.size + 3 ≤ w6.heap.size) := Nat.le_trans HS4.out (Nat.le_trans ht5.size tp.size)
    obtain ⟨p0, p1, p2, p3, p4, p5', p6, p7⟩ := X5.c8
    obtain ⟨f0, f1, f2, f3, f4, f5, f6, f7⟩ := X5.f8
    clear HCX HTX HRB hc5 ht5 hf5 hy5 X5 R5 oY tp hw6 HPF HX4
    cases ok with
    | false =>
      have HF : Hid (rdB bs = none) := HF5.out rfl
      have HBX : Hid (Bx w6 (w.heap.size + 1) 32 #[.int .i64 x, .int .i64 y, .int .i64 pv, .int .i64 pn, .slice a1 n1 k1, .slice a2 n2 k2, .slice none 0 0, .int .i64 0]) := X6
      have HRB : Hid (Bx w6 w.heap.size 32 #[.int .i64 0, .int .i64 0, .int .i64 0, .int .i64 0, .slice none 0 0, .slice none 0 0, .slice none 0 0, .int .i64 0]) := R6
      have HCX : Hid (Cur w0 w6 g v bs p5) := C6
      have HTX : Hid (Touch [g] w w6) := T6
      have HOX : Hid (OwnBl w6 (w.heap.size + 1) ⟨⟨x, y, ⟨pv, pn, sv, tg⟩, [], 0⟩, .slice a1 n1 k1, .slice a2 n2 k2, .slice none 0 0⟩) := ownBl_of (O6.mono (by omega)) (ownS_nil _ _)
      clear X6 R6 C6 T6 O6
      go_upto_region 7 with fail
      rw [HW6.out]
      clear p0 p1 p2 p3 p4 p5' p6 p7 f0 f1 f2 f3 f4 f5 f6 f7
      obtain ⟨r0, r1, r2, r3, r4, r5, r6, r7⟩ := HBX.out.c8
      obtain ⟨c0, c1, c2, c3, c4, c5, c6, c7⟩ := HRB.out.c8
      obtain ⟨f0, f1, f2, f3, f4, f5, f6, f7⟩ := HRB.out.f8
      go_wp2
      obtain ⟨z0, z1, z2, z3, z4, z5, z6, z7⟩ := (Bx.put8 HRB.out (.int .i64 x) (.int .i64 y) (.int .i64 pv) (.int .i64 pn) (.slice a1 n1 k1) (.slice a2 n2 k2) (.slice none 0 0) (.int .i64 0)).c8
      have HCZ : Hid (Cur w0 (put8B w6 w.heap.size (.int .i64 x) (.int .i64 y) (.int .i64 pv) (.int .i64 pn) (.slice a1 n1 k1) (.slice a2 n2 k2) (.slice none 0 0) (.int .i64 0)) g v bs p5) := HCX.out.touch put8B_touch (by have := HGL.out; simp; omega) (fun q hq => by have h1 := List.mem_singleton.1 hq; have h2 := HGL.out; omega)
      have HTZ : Hid (Touch [g] w (put8B w6 w.heap.size (.int .i64 x) (.int .i64 y) (.int .i64 pv) (.int .i64 pn) (.slice a1 n1 k1) (.slice a2 n2 k2) (.slice none 0 0) (.int .i64 0))) := HTX.out.res put8B_touch
      have HOZ : Hid (OwnBl (put8B w6 w.heap.size (.int .i64 x) (.int .i64 y) (.int .i64 pv) (.int .i64 pn) (.slice a1 n1 k1) (.slice a2 n2 k2) (.slice none 0 0) (.int .i64 0)) w.heap.size ⟨⟨x, y, ⟨pv, pn, sv, tg⟩, [], 0⟩, .slice a1 n1 k1, .slice a2 n2 k2, .slice none 0 0⟩) := (HOX.out.touch put8B_touch (fun q hq e => by have h1 := (HOX.out.bound hq).1; have h2 := List.mem_singleton.1 e; omega)).mono (by omega)
      unfold put8B at z0 z1 z2 z3 z4 z5 z6 z7 HCZ HTZ HOZ
      exact bodyPost_ret (v := .tuple #[.agg #[.int .i64 x, .int .i64 y, .int .i64 pv, .int .i64 pn, .slice a1 n1 k1, .slice a2 n2 k2, .slice none 0 0, .int .i64 0], .bool false]) (by simp [results, Try.results32, go_sem, z0, z1, z2, z3, z4, z5, z6, z7]) rfl ⟨p5, ⟨⟨x, y, ⟨pv, pn, sv, tg⟩, [], 0⟩, .slice a1 n1 k1, .slice a2 n2 k2, .slice none 0 0⟩, false, rfl, HOZ.out, HCZ.out, HTZ.out, (fun _ => HF.out), (fun h => by cases h)⟩
    | true =>
      obtain ⟨n, l, q5, hn7, e1, e2, e3, e4⟩ := HY5.out rfl
      have HE : Hid (n ≤ 7 ∧ rdK bs 5 = some ([x, y] ++ [pv, pn] ++ [(n : Int)], q5) ∧ rdK bs (5 + 2 * n) = some ([x, y] ++ [pv, pn] ++ [(n : Int)] ++ l, p5) ∧ sv = evn l ∧ tg = odd l) := ⟨hn7, e1, e2, e3, e4⟩
      have HMT : Hid (Calls Try.prog 49 #[.func (.func 50) #[.pointer (some ⟨g, 0, none⟩)] #[], .int .i64 200, .func (.func 51) #[.pointer (some ⟨g, 0, none⟩)] #[]] w6 fun e w' => MtP w0 w6 g v bs p5 e w') := manyTexts_any w0 w6 g v bs p5 C6
      clear e1 e2 e3 e4 hn7 HY5 HF5
      go_wp2_with fail
      rw [HW6.out]
      refine HMT.out.mono ?_
      rintro e w7 ⟨q7, u, ss, ok, rfl, ou, hc7, ht7, hf7, hy7⟩
      have X7 : Bx w7 (w.heap.size + 1) 32 _ := X6.touch ht7 (by have := HGL.out; simp; omega)
      have R7 : Bx w7 w.heap.size 32 #[.int .i64 0, .int .i64 0, .int .i64 0, .int .i64 0, .slice none 0 0, .slice none 0 0, .slice none 0 0, .int .i64 0] := R6.touch ht7 (by have := HGL.out; simp; omega)
      have O7 : OwnPr w7 (w.heap.size + 3) ⟨⟨pv, pn, sv, tg⟩, .slice a1 n1 k1, .slice a2 n2 k2⟩ := O6.touch ht7 (fun q hq e => by have h1 := (O6.bound hq).1; have h2 := List.mem_singleton.1 e; have h3 := HGL.out; omega)
      obtain ⟨ua, uc, hu⟩ := ownSlX ou
      have HSS : Hid (ok = false → rdT bs p5 = none) := hf7
      have HSY : Hid (ok = true → rdT bs p5 = some (ss, q7)) := hy7
      generalize ss.length = un at hu
      subst hu
      have X8 := X7.set 6 (.slice ua un uc)
      simp only [List.setIfInBounds_toArray, List.set_cons_zero, List.set_cons_succ] at X8
      have tq : Touch [w.heap.size + 1] w7 (w7.setCell ⟨w.heap.size + 1, 6, none⟩ (.slice ua un uc)) := Touch.set (by simp)
      obtain ⟨w8, hw8⟩ : ∃ w8, w8 = w7.setCell ⟨w.heap.size + 1, 6, none⟩ (.slice ua un uc) := ⟨_, rfl⟩
      rw [← hw8] at X8 tq
      have s8 : w8.heap.size = w7.heap.size := by rw [hw8]; simp
      have HW8 : Hid (w7.setCell ⟨w.heap.size + 1, 6, none⟩ (.slice ua un uc) = w8) := hw8.symm
      have T8 : Touch [g] w w8 := (T6.trans ht7).new (T := w.heap.size + 1) (tq.more (fun q hq => by simp at hq; simp [hq])) (by omega)
      have C8 : Cur w0 w8 g v bs q7 := hc7.touch tq (by have := HGL.out; simp; omega) (fun q hq => by have h1 := List.mem_singleton.1 hq; have h2 := HGL.out; omega)
      have R8 : Bx w8 w.heap.size 32 #[.int .i64 0, .int .i64 0, .int .i64 0, .int .i64 0, .slice none 0 0, .slice none 0 0, .slice none 0 0, .int .i64 0] := R7.touch tq (by simp)
      have O8 : OwnPr w8 (w.heap.size + 3) ⟨⟨pv, pn, sv, tg⟩, .slice a1 n1 k1, .slice a2 n2 k2⟩ := O7.touch tq (fun q hq e => by have h1 := (O7.bound hq).1; have h2 := List.mem_singleton.1 e; omega)
      have U8 : OwnS w8 (w.heap.size + 3) (.slice ua un uc) ss := tq.row (ou.mono HS6.out) (fun q hq e => by have h1 := (World.ownsRow.lt ou q hq).1; have h2 := List.mem_singleton.1 e; have h3 := HS6.out; omega)
      have HS8 : Hid (w.heap.size + 3 ≤ w8.heap.size) := Nat.le_trans HS6.out (Nat.le_trans ht7.size tq.size)
      clear p0 p1 p2 p3 p4 p5' p6 p7 f0 f1 f2 f3 f4 f5 f6 f7
      obtain ⟨p0, p1, p2, p3, p4, p5', p6, p7⟩ := X7.c8
      obtain ⟨f0, f1, f2, f3, f4, f5, f6, f7⟩ := X7.f8
      clear X6 R6 C6 T6 O6 hc7 ht7 hf7 hy7 X7 R7 O7 tq hw8 ou HMT HW6
      cases ok with
      | false =>
        have HF : Hid (rdB bs = none) := by
          have h1 := HSS.out rfl
          have h2 : rdAll (bs.drop p5) = none := by unfold rdT at h1; exact Option.map_eq_none_iff.1 h1
          exact rdB_noT HE.out.2.1 rfl HE.out.2.2.1 h2
        have HBX : Hid (Bx w8 (w.heap.size + 1) 32 #[.int .i64 x, .int .i64 y, .int .i64 pv, .int .i64 pn, .slice a1 n1 k1, .slice a2 n2 k2, .slice ua un uc, .int .i64 0]) := X8
        have HRB : Hid (Bx w8 w.heap.size 32 #[.int .i64 0, .int .i64 0, .int .i64 0, .int .i64 0, .slice none 0 0, .slice none 0 0, .slice none 0 0, .int .i64 0]) := R8
        have HCX : Hid (Cur w0 w8 g v bs q7) := C8
        have HTX : Hid (Touch [g] w w8) := T8
        have HOX : Hid (OwnBl w8 (w.heap.size + 1) ⟨⟨x, y, ⟨pv, pn, sv, tg⟩, ss, 0⟩, .slice a1 n1 k1, .slice a2 n2 k2, .slice ua un uc⟩) := ownBl_of (O8.mono (by omega)) (U8.mono (by omega))
        clear X8 R8 C8 T8 O8 U8 s8
        go_upto_region 7 with fail
        rw [HW8.out]
        clear p0 p1 p2 p3 p4 p5' p6 p7 f0 f1 f2 f3 f4 f5 f6 f7
        obtain ⟨r0, r1, r2, r3, r4, r5, r6, r7⟩ := HBX.out.c8
        obtain ⟨c0, c1, c2, c3, c4, c5, c6, c7⟩ := HRB.out.c8
        obtain ⟨f0, f1, f2, f3, f4, f5, f6, f7⟩ := HRB.out.f8
        go_wp2
        obtain ⟨z0, z1, z2, z3, z4, z5, z6, z7⟩ := (Bx.put8 HRB.out (.int .i64 x) (.int .i64 y) (.int .i64 pv) (.int .i64 pn) (.slice a1 n1 k1) (.slice a2 n2 k2) (.slice ua un uc) (.int .i64 0)).c8
        have HCZ : Hid (Cur w0 (put8B w8 w.heap.size (.int .i64 x) (.int .i64 y) (.int .i64 pv) (.int .i64 pn) (.slice a1 n1 k1) (.slice a2 n2 k2) (.slice ua un uc) (.int .i64 0)) g v bs q7) := HCX.out.touch put8B_touch (by have := HGL.out; simp; omega) (fun q hq => by have h1 := List.mem_singleton.1 hq; have h2 := HGL.out; omega)
        have HTZ : Hid (Touch [g] w (put8B w8 w.heap.size (.int .i64 x) (.int .i64 y) (.int .i64 pv) (.int .i64 pn) (.slice a1 n1 k1) (.slice a2 n2 k2) (.slice ua un uc) (.int .i64 0))) := HTX.out.res put8B_touch
        have HOZ : Hid (OwnBl (put8B w8 w.heap.size (.int .i64 x) (.int .i64 y) (.int .i64 pv) (.int .i64 pn) (.slice a1 n1 k1) (.slice a2 n2 k2) (.slice ua un uc) (.int .i64 0)) w.heap.size ⟨⟨x, y, ⟨pv, pn, sv, tg⟩, ss, 0⟩, .slice a1 n1 k1, .slice a2 n2 k2, .slice ua un uc⟩) := (HOX.out.touch put8B_touch (fun q hq e => by have h1 := (HOX.out.bound hq).1; have h2 := List.mem_singleton.1 e; omega)).mono (by omega)
        unfold put8B at z0 z1 z2 z3 z4 z5 z6 z7 HCZ HTZ HOZ
        exact bodyPost_ret (v := .tuple #[.agg #[.int .i64 x, .int .i64 y, .int .i64 pv, .int .i64 pn, .slice a1 n1 k1, .slice a2 n2 k2, .slice ua un uc, .int .i64 0], .bool false]) (by simp [results, Try.results32, go_sem, z0, z1, z2, z3, z4, z5, z6, z7]) rfl ⟨q7, ⟨⟨x, y, ⟨pv, pn, sv, tg⟩, ss, 0⟩, .slice a1 n1 k1, .slice a2 n2 k2, .slice ua un uc⟩, false, rfl, HOZ.out, HCZ.out, HTZ.out, (fun _ => HF.out), (fun h => by cases h)⟩
      | true =>
        have X9 : Bx (w8.alloc (Obj.cells #[.pointer (some ⟨w.heap.size + 1, 7, none⟩)] 77)) (w.heap.size + 1) 32 _ := X8.below (below1 _ _)
        have R9 : Bx (w8.alloc (Obj.cells #[.pointer (some ⟨w.heap.size + 1, 7, none⟩)] 77)) w.heap.size 32 _ := R8.below (below1 _ _)
        have O9 := OwnPr.below O8 (below1 w8 (Obj.cells #[.pointer (some ⟨w.heap.size + 1, 7, none⟩)] 77))
        have U9 := OwnS.below U8 (below1 w8 (Obj.cells #[.pointer (some ⟨w.heap.size + 1, 7, none⟩)] 77))
        have T9 : Touch [g] w (w8.alloc (Obj.cells #[.pointer (some ⟨w.heap.size + 1, 7, none⟩)] 77)) := T8.two (below1 _ _)
        have C9 : Cur w0 (w8.alloc (Obj.cells #[.pointer (some ⟨w.heap.size + 1, 7, none⟩)] 77)) g v bs q7 := C8.alloc _
        have hrow9 := ptr_one w8 77 (w.heap.size + 1) 7
        have HNB : Hid (Calls Try.prog 47 #[.pointer (some ⟨g, 0, none⟩), .slice (some ⟨w8.heap.size, 0, none⟩) 1 1] (w8.alloc (Obj.cells #[.pointer (some ⟨w.heap.size + 1, 7, none⟩)] 77)) fun e w' => NumsF w0 (w8.alloc (Obj.cells #[.pointer (some ⟨w.heap.size + 1, 7, none⟩)] 77)) g v bs q7 0 [] (w.heap.size + 1) 32 #[.int .i64 x, .int .i64 y, .int .i64 pv, .int .i64 pn, .slice a1 n1 k1, .slice a2 n2 k2, .slice ua un uc, .int .i64 0] [7] e w') :=
          numbersF_any w0 _ g v bs q7 0 q7 [] (w.heap.size + 1) 32 w8.heap.size _ [7] C9 rfl X9 (by have := HGL.out; omega) (by have := HGL.out; omega) (by simp) hrow9 (by have := HGL.out; have := HS8.out; omega) (by have := HS8.out; omega) (by simp)
        have HXX : Hid (∀ w', Touch [g, w.heap.size + 1] (w8.alloc (Obj.cells #[.pointer (some ⟨w.heap.size + 1, 7, none⟩)] 77)) w' → Bx w' w.heap.size 32 #[.int .i64 0, .int .i64 0, .int .i64 0, .int .i64 0, .slice none 0 0, .slice none 0 0, .slice none 0 0, .int .i64 0] ∧ Touch [g] w w' ∧ OwnPr w' (w.heap.size + 3) ⟨⟨pv, pn, sv, tg⟩, .slice a1 n1 k1, .slice a2 n2 k2⟩ ∧ OwnS w' (w.heap.size + 3) (.slice ua un uc) ss) := fun w' ht =>
          ⟨R9.touch ht (by have := HGL.out; simp; omega), T9.new (T := w.heap.size + 1) ht (by omega), O9.touch ht (fun q hq e => by have h1 := (O9.bound hq).1; have h3 := HGL.out; simp at e; omega), ht.row U9 (fun q hq e => by have h1 := (World.ownsRow.lt U9 q hq).1; have h3 := HGL.out; simp at e; omega)⟩
        rw [s8] at HNB
        clear X9 R9 O9 U9 T9 C9 hrow9 X8 R8 C8 T8 O8 U8 s8
        go_wp2_with fail
        rw [HW8.out]
        refine HNB.out.mono ?_
        rintro e w9 ⟨q9, xs, hxl, rfl, hc9, hx9, ht9, hy, hn⟩
        have HXW := HXX.out w9 ht9
        have HRB : Hid (Bx w9 w.heap.size 32 #[.int .i64 0, .int .i64 0, .int .i64 0, .int .i64 0, .slice none 0 0, .slice none 0 0, .slice none 0 0, .int .i64 0]) := HXW.1
        have HTX : Hid (Touch [g] w w9) := HXW.2.1
        have HCX : Hid (Cur w0 w9 g v bs q9) := hc9
        have HTA : Hid (rdAll (bs.drop p5) = some (ss, q7 - p5) ∧ p5 + (q7 - p5) = q7) := by
          have h1 := HSY.out (by first | exact rfl | trivial)
          unfold rdT at h1
          obtain ⟨r, h2, h3⟩ := Option.map_eq_some_iff.1 h1
          simp only [Prod.mk.injEq] at h3
          obtain ⟨h3, h4⟩ := h3
          have h5 : q7 - p5 = r.2 := by omega
          refine ⟨?_, by omega⟩
          rw [h5, ← h3]; exact h2
        clear p0 p1 p2 p3 p4 p5' p6 p7 f0 f1 f2 f3 f4 f5 f6 f7 HW8 HNB HXX hc9 ht9
        have HRB2 := rdB_all (n := n) HE.out.2.1 rfl HE.out.1 HE.out.2.2.1 HTA.out.1
        rw [HTA.out.2] at HRB2
        by_cases h1 : xs.length = 1
        case neg =>
          have hok : decide (xs.length = [7].length) = false := decide_eq_false h1
          have hx0 : xs = [] := List.length_eq_zero_iff.1 (by simp only [List.length_cons, List.length_nil] at hxl; omega)
          subst hx0
          have HF : Hid (rdB bs = none) := by
            have h9 := hn (by simp)
            simp only [rdKf, List.length_cons, List.length_nil] at h9
            unfold Hid
            rw [HRB2]
            by_cases hz : (rdNum (bs.drop q7)).2 = 0
            · rw [if_pos hz]
            · rw [if_neg hz] at h9; cases h9
          have HBX : Hid (Bx w9 (w.heap.size + 1) 32 #[.int .i64 x, .int .i64 y, .int .i64 pv, .int .i64 pn, .slice a1 n1 k1, .slice a2 n2 k2, .slice ua un uc, .int .i64 0]) := hx9
          have HOX : Hid (OwnBl w9 (w.heap.size + 1) ⟨⟨x, y, ⟨pv, pn, sv, tg⟩, ss, 0⟩, .slice a1 n1 k1, .slice a2 n2 k2, .slice ua un uc⟩) := ownBl_of (HXW.2.2.1.mono (by omega)) (HXW.2.2.2.mono (by omega))
          rw [hok]
          clear hok hy hn hx9 h1 HXW HRB2 hxl
          obtain ⟨r0, r1, r2, r3, r4, r5, r6, r7⟩ := HBX.out.c8
          obtain ⟨c0, c1, c2, c3, c4, c5, c6, c7⟩ := HRB.out.c8
          obtain ⟨f0, f1, f2, f3, f4, f5, f6, f7⟩ := HRB.out.f8
          go_wp2
          obtain ⟨z0, z1, z2, z3, z4, z5, z6, z7⟩ := (Bx.put8 HRB.out (.int .i64 x) (.int .i64 y) (.int .i64 pv) (.int .i64 pn) (.slice a1 n1 k1) (.slice a2 n2 k2) (.slice ua un uc) (.int .i64 0)).c8
          have HCZ : Hid (Cur w0 (put8B w9 w.heap.size (.int .i64 x) (.int .i64 y) (.int .i64 pv) (.int .i64 pn) (.slice a1 n1 k1) (.slice a2 n2 k2) (.slice ua un uc) (.int .i64 0)) g v bs q9) := HCX.out.touch put8B_touch (by have := HGL.out; simp; omega) (fun q hq => by have h1 := List.mem_singleton.1 hq; have h2 := HGL.out; omega)
          have HTZ : Hid (Touch [g] w (put8B w9 w.heap.size (.int .i64 x) (.int .i64 y) (.int .i64 pv) (.int .i64 pn) (.slice a1 n1 k1) (.slice a2 n2 k2) (.slice ua un uc) (.int .i64 0))) := HTX.out.res put8B_touch
          have HOZ : Hid (OwnBl (put8B w9 w.heap.size (.int .i64 x) (.int .i64 y) (.int .i64 pv) (.int .i64 pn) (.slice a1 n1 k1) (.slice a2 n2 k2) (.slice ua un uc) (.int .i64 0)) w.heap.size ⟨⟨x, y, ⟨pv, pn, sv, tg⟩, ss, 0⟩, .slice a1 n1 k1, .slice a2 n2 k2, .slice ua un uc⟩) := (HOX.out.touch put8B_touch (fun q hq e => by have h1 := (HOX.out.bound hq).1; have h2 := List.mem_singleton.1 e; omega)).mono (by omega)
          unfold put8B at z0 z1 z2 z3 z4 z5 z6 z7 HCZ HTZ HOZ
          exact bodyPost_ret (v := .tuple #[.agg #[.int .i64 x, .int .i64 y, .int .i64 pv, .int .i64 pn, .slice a1 n1 k1, .slice a2 n2 k2, .slice ua un uc, .int .i64 0], .bool false]) (by simp [results, Try.results32, go_sem, z0, z1, z2, z3, z4, z5, z6, z7]) rfl ⟨q9, ⟨⟨x, y, ⟨pv, pn, sv, tg⟩, ss, 0⟩, .slice a1 n1 k1, .slice a2 n2 k2, .slice ua un uc⟩, false, rfl, HOZ.out, HCZ.out, HTZ.out, (fun _ => HF.out), (fun h => by cases h)⟩
        case pos =>
          obtain ⟨bb, rfl⟩ : ∃ bb, xs = [bb] := by
            match xs, h1 with
            | [a], _ => exact ⟨a, rfl⟩
          have hok : decide ([bb].length = [7].length) = true := rfl
          have HF : Hid (rdB bs = some (⟨x, y, ⟨pv, pn, sv, tg⟩, ss, bb⟩, q9)) := by
            have h9 := hy rfl
            simp only [rdKf, List.length_cons, List.length_nil] at h9
            unfold Hid
            rw [HRB2]
            by_cases hz : (rdNum (bs.drop q7)).2 = 0
            · rw [if_pos hz] at h9; cases h9
            · rw [if_neg hz] at h9 ⊢
              simp only [List.nil_append, Option.some.injEq, Prod.mk.injEq, List.cons.injEq, and_true] at h9
              rw [h9.1, h9.2, HE.out.2.2.2.1, HE.out.2.2.2.2]
              rfl
          have HBX : Hid (Bx w9 (w.heap.size + 1) 32 #[.int .i64 x, .int .i64 y, .int .i64 pv, .int .i64 pn, .slice a1 n1 k1, .slice a2 n2 k2, .slice ua un uc, .int .i64 bb]) := hx9
          have HOX : Hid (OwnBl w9 (w.heap.size + 1) ⟨⟨x, y, ⟨pv, pn, sv, tg⟩, ss, bb⟩, .slice a1 n1 k1, .slice a2 n2 k2, .slice ua un uc⟩) := ownBl_of (HXW.2.2.1.mono (by omega)) (HXW.2.2.2.mono (by omega))
          rw [hok]
          clear hok hy hn hx9 h1 HXW HRB2 hxl
          obtain ⟨r0, r1, r2, r3, r4, r5, r6, r7⟩ := HBX.out.c8
          obtain ⟨c0, c1, c2, c3, c4, c5, c6, c7⟩ := HRB.out.c8
          obtain ⟨f0, f1, f2, f3, f4, f5, f6, f7⟩ := HRB.out.f8
          go_wp2
          obtain ⟨z0, z1, z2, z3, z4, z5, z6, z7⟩ := (Bx.put8 HRB.out (.int .i64 x) (.int .i64 y) (.int .i64 pv) (.int .i64 pn) (.slice a1 n1 k1) (.slice a2 n2 k2) (.slice ua un uc) (.int .i64 bb)).c8
          have HCZ : Hid (Cur w0 (put8B w9 w.heap.size (.int .i64 x) (.int .i64 y) (.int .i64 pv) (.int .i64 pn) (.slice a1 n1 k1) (.slice a2 n2 k2) (.slice ua un uc) (.int .i64 bb)) g v bs q9) := HCX.out.touch put8B_touch (by have := HGL.out; simp; omega) (fun q hq => by have h1 := List.mem_singleton.1 hq; have h2 := HGL.out; omega)
          have HTZ : Hid (Touch [g] w (put8B w9 w.heap.size (.int .i64 x) (.int .i64 y) (.int .i64 pv) (.int .i64 pn) (.slice a1 n1 k1) (.slice a2 n2 k2) (.slice ua un uc) (.int .i64 bb))) := HTX.out.res put8B_touch
          have HOZ : Hid (OwnBl (put8B w9 w.heap.size (.int .i64 x) (.int .i64 y) (.int .i64 pv) (.int .i64 pn) (.slice a1 n1 k1) (.slice a2 n2 k2) (.slice ua un uc) (.int .i64 bb)) w.heap.size ⟨⟨x, y, ⟨pv, pn, sv, tg⟩, ss, bb⟩, .slice a1 n1 k1, .slice a2 n2 k2, .slice ua un uc⟩) := (HOX.out.touch put8B_touch (fun q hq e => by have h1 := (HOX.out.bound hq).1; have h2 := List.mem_singleton.1 e; omega)).mono (by omega)
          unfold put8B at z0 z1 z2 z3 z4 z5 z6 z7 HCZ HTZ HOZ
          exact bodyPost_ret (v := .tuple #[.agg #[.int .i64 x, .int .i64 y, .int .i64 pv, .int .i64 pn, .slice a1 n1 k1, .slice a2 n2 k2, .slice ua un uc, .int .i64 bb], .bool true]) (by simp [results, Try.results32, go_sem, z0, z1, z2, z3, z4, z5, z6, z7]) rfl ⟨q9, ⟨⟨x, y, ⟨pv, pn, sv, tg⟩, ss, bb⟩, .slice a1 n1 k1, .slice a2 n2 k2, .slice ua un uc⟩, true, rfl, HOZ.out, HCZ.out, HTZ.out, (fun h => by cases h), (fun _ => HF.out)⟩
end Go.Proofs.Ytckidhcknibceaa
