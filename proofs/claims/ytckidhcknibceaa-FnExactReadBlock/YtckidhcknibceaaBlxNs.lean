/- The contracts of the cursor's numbers (into cells of one box) and vote. -/
-- UNF Gen
import Derived.Test.YtckidhcknibceaaBlxRd
import Derived.Test.YtckidhcknibceaaImplMany
import Derived.Test.YtckidhcknibceaaVotBx
import Derived.WalkMore
namespace Go.Proofs.Ytckidhcknibceaa
open Go.RowKit
/-- Numbers put into some cells. -/
def putN (cs : Array Value) : List Nat → List Int → Array Value
  | i :: is, x :: xs => putN (cs.setIfInBounds i (.int .i64 x)) is xs
  | _, _ => cs
theorem putN_snoc : ∀ (is : List Nat) (xs : List Int) (cs : Array Value) (x : Int) (h : xs.length < is.length), putN cs is (xs ++ [x]) = (putN cs is xs).setIfInBounds (is[xs.length]) (.int .i64 x)
  | i :: is, [], cs, x, h => by cases is <;> rfl
  | i :: is, y :: xs, cs, x, h => by
    have := putN_snoc is xs (cs.setIfInBounds i (.int .i64 y)) x (by simpa using h)
    simpa [putN] using this
theorem putN_size : ∀ (is : List Nat) (xs : List Int) (cs : Array Value), (putN cs is xs).size = cs.size
  | [], xs, cs => by cases xs <;> rfl
  | i :: is, [], cs => rfl
  | i :: is, x :: xs, cs => by rw [putN, putN_size is xs]; simp
theorem Cur.other {w0 w : World} {g T i : Nat} {v : Value} {bs : List UInt8} {p : Nat} (h : Cur w0 w g v bs p) (hT : T ≠ g) (hge : w0.heap.size ≤ T) (u : Value) : Cur w0 (w.setCell ⟨T, i, none⟩ u) g v bs p :=
  ⟨h.rd, h.ge, by rw [heap_setCell_other w ⟨T, i, none⟩ g u (fun e => hT e.symm)]; exact h.blk, h.bel.setCell hge _, h.le⟩
theorem Cur.touch {w0 w w' : World} {g : Nat} {v : Value} {bs : List UInt8} {p : Nat} {B : List Nat} (h : Cur w0 w g v bs p) (ht : Touch B w w') (hg : g ∉ B) (hb : ∀ k ∈ B, w0.heap.size ≤ k) : Cur w0 w' g v bs p :=
  ⟨h.rd, h.ge, by rw [ht.block g h.lt hg]; exact h.blk, ht.below h.bel hb, h.le⟩
theorem szR (w : World) (o : Obj) : (w.alloc o).heap.size = w.heap.size + 1 := by simp
/-- k numbers from byte p0 on, and where they end. -/
def rdKf (bs : List UInt8) (p0 : Nat) : Nat → Option (List Int × Nat)
  | 0 => some ([], p0)
  | k + 1 => match rdKf bs p0 k with
    | none => none
    | some r => if (rdNum (bs.drop r.2)).2 = 0 then none else some (r.1 ++ [((rdNum (bs.drop r.2)).1 : Int)], r.2 + (rdNum (bs.drop r.2)).2)
theorem rdKf_zero (bs : List UInt8) : ∀ k, rdKf bs 0 k = rdK bs k
  | 0 => rfl
  | k + 1 => by rw [rdKf, rdK, rdKf_zero bs k]; cases rdK bs k <;> rfl
theorem rdKf_no {bs : List UInt8} {p0 k p : Nat} {l : List Int} (h : rdKf bs p0 k = some (l, p)) (h0 : (rdNum (bs.drop p)).2 = 0) : rdKf bs p0 (k + 1) = none := by rw [rdKf, h]; simp [h0]
theorem rdKf_go {bs : List UInt8} {p0 k p : Nat} {l : List Int} (h : rdKf bs p0 k = some (l, p)) (h0 : (rdNum (bs.drop p)).2 ≠ 0) : rdKf bs p0 (k + 1) = some (l ++ [((rdNum (bs.drop p)).1 : Int)], p + (rdNum (bs.drop p)).2) := by rw [rdKf, h]; simp [h0]
theorem rdKf_more {bs : List UInt8} {p0 k : Nat} (h : rdKf bs p0 k = none) : ∀ j, k ≤ j → rdKf bs p0 j = none := by
  intro j hj
  induction j with
  | zero => rw [show k = 0 by omega] at h; exact h
  | succ j ih =>
    by_cases e : k = j + 1
    · rw [← e]; exact h
    · rw [rdKf, ih (by omega)]
/-- What numbers leaves: m numbers were read, those that were wanted or fewer; they lie in their cells. -/
def NumsF (w0 w : World) (g : Nat) (v : Value) (bs : List UInt8) (p0 : Nat) (k : Nat) (ns : List Int) (T t : Nat) (cs : Array Value) (is : List Nat) (e : Ending) (w' : World) : Prop :=
  ∃ (p' : Nat) (xs : List Int), xs.length ≤ is.length ∧ e = .returned (.bool (decide (xs.length = is.length))) ∧ Cur w0 w' g v bs p' ∧ Bx w' T t (putN cs is xs) ∧ Touch [g, T] w w' ∧ (xs.length = is.length → rdKf bs p0 (k + is.length) = some (ns ++ xs, p')) ∧ (xs.length < is.length → rdKf bs p0 (k + is.length) = none)
set_option maxHeartbeats 2000000 in
set_option maxRecDepth 100000 in
theorem numbersF_any (w0 w : World) (g : Nat) (v : Value) (bs : List UInt8) (p0 k p : Nat) (ns : List Int) (T t pb : Nat) (cs : Array Value) (is : List Nat) (hc : Cur w0 w g v bs p) (hk : rdKf bs p0 k = some (ns, p)) (hT : Bx w T t cs) (hTg : T ≠ g) (hTge : w0.heap.size ≤ T) (his : ∀ i ∈ is, i < cs.size)
    (hrow : ∀ j (hj : j < is.length), w.cell? ⟨pb, j, none⟩ = some (.pointer (some ⟨T, is[j], none⟩))) (hpg : pb ≠ g) (hpT : pb ≠ T) (hn : is.length ≤ 2) :
    Calls Try.prog 47 #[.pointer (some ⟨g, 0, none⟩), .slice (some ⟨pb, 0, none⟩) is.length is.length] w fun e w' => NumsF w0 w g v bs p0 k ns T t cs is e w' := by
  obtain ⟨n, hn'⟩ : ∃ n, n = is.length := ⟨_, rfl⟩
  have HN : Hid (n = is.length) := hn'
  have HROW : Hid (∀ V, Touch [g, T] w V → ∀ j (hj : j < is.length), V.cell? ⟨pb, j, none⟩ = some (.pointer (some ⟨T, is[j], none⟩))) := fun V ht j hj => by
    have h1 := hrow j hj
    have h2 := World.block_lt_of_cell? w _ h1
    exact (World.cell?_of_block (a := ⟨pb, j, none⟩) (ht.block pb h2 (by simp [hpg, hpT]))).trans h1
  have HIS : Hid (∀ i ∈ is, i < cs.size) := his
  have HTG : Hid (T ≠ g ∧ w0.heap.size ≤ T) := ⟨hTg, hTge⟩
  have HC : Hid (Cur w0 w g v bs p) := hc
  have HK : Hid (rdKf bs p0 k = some (ns, p)) := hk
  have HT : Hid (Bx w T t cs) := hT
  rw [← hn'] at hn ⊢
  clear hn' hrow his hTg hTge hpg hpT hc hk hT
  go_enter Try.func47, Try.ntmps47
  go_wp2
  go_loopw [11] (fun ii wr => ∃ (j p : Nat) (xs : List Int), j ≤ n ∧ ii = .int .i64 j ∧ Hid (xs.length = j) ∧ Hid (Cur w0 wr g v bs p) ∧ Hid (Bx wr T t (putN cs is xs)) ∧ Hid (Touch [g, T] w wr) ∧ Hid (rdKf bs p0 (k + j) = some (ns ++ xs, p))) (fun ii _ => n - (intOf ii).toNat)
  case atStart => exact ⟨0, p, [], Nat.zero_le _, rfl, rfl, HC, by cases is <;> exact HT, Touch.refl _ _, by rw [List.append_nil]; exact HK⟩
  case round =>
    obtain ⟨j, p, xs, hj, rfl, HX, HC, HT, HH, HK⟩ := hrel
    by_cases hlt : j < n
    · have hji : j < is.length := by rw [← HN.out]; exact hlt
      have hc0 := HROW.out _ HH.out j hji
      obtain ⟨q, hq⟩ : ∃ q, q = is[j] := ⟨_, rfl⟩
      rw [← hq] at hc0
      have HQ : Hid (q = is[j]) := hq
      have HQS : Hid (q < cs.size) := by unfold Hid; rw [hq]; exact HIS.out _ (List.getElem_mem hji)
      have hj1 : (j : Int) < (n : Int) := by omega
      clear hq
      go_wp2_with fail
      refine (number_any w0 _ g v bs p HC.out).mono ?_
      obtain ⟨x, hx⟩ : ∃ x, x = (rdNum (bs.drop p)).1 := ⟨_, rfl⟩
      obtain ⟨z, hz⟩ : ∃ z, z = (rdNum (bs.drop p)).2 := ⟨_, rfl⟩
      have HXE : Hid (x = (rdNum (bs.drop p)).1 ∧ z = (rdNum (bs.drop p)).2) := ⟨hx, hz⟩
      unfold NumPost
      rw [← hx, ← hz]
      rintro e w2 ⟨p2, rfl, hc2, hp2, hg2⟩
      have HT2 : Hid (Bx w2 T t (putN cs is xs)) := HT.out.of_block (hg2.block T HT.out.lt (fun e => HTG.out.1 (Option.some.inj e)))
      have HH2 : Hid (Touch [g, T] w w2) := HH.out.trans (Touch.of_grown hg2 (fun q hq => by simp at hq; simp [hq]))
      have HC2 : Hid (Cur w0 w2 g v bs p2) := hc2
      clear hx hz hg2 hc2
      by_cases hz0 : z = 0
      · have HF : Hid (rdKf bs p0 (k + n) = none) := rdKf_more (rdKf_no HK.out (by rw [← HXE.out.2]; exact hz0)) _ (by omega)
        have hzd : decide (z ≠ 0) = false := by simp [hz0]
        have HLT : Hid (xs.length < is.length) := by unfold Hid; rw [HX.out]; exact hji
        rw [hzd]
        clear hzd hp2 hz0 hc0
        go_wp2
        go_ret
        exact ⟨p2, xs, Nat.le_of_lt HLT.out, ret_bool (decide_eq_false (Nat.ne_of_lt HLT.out)).symm, HC2.out, HT2.out, HH2.out, fun h => absurd h (Nat.ne_of_lt HLT.out), fun _ => by rw [← HN.out]; exact HF.out⟩
      · have hzd : decide (z ≠ 0) = true := by simp [hz0]
        have hpp := hp2 hz0
        have HK2 : Hid (rdKf bs p0 (k + (j + 1)) = some (ns ++ (xs ++ [(x : Int)]), p2)) := by
          unfold Hid
          rw [← Nat.add_assoc, rdKf_go HK.out (by rw [← HXE.out.2]; exact hz0), ← HXE.out.1, ← HXE.out.2, ← hpp, List.append_assoc]
        have hcq : w2.cell? ⟨T, q, none⟩ = some ((putN cs is xs)[q]'(by rw [putN_size]; exact HQS.out)) := HT2.out.cell q (Array.getElem?_eq_getElem _)
        have hfq := HT2.out.fz q
        have HT3 : Hid (Bx (w2.setCell ⟨T, q, none⟩ (.int .i64 (x : Int))) T t (putN cs is (xs ++ [(x : Int)]))) := by
          unfold Hid
          rw [putN_snoc is xs cs (x : Int) (by rw [HX.out]; exact hji)]
          have h9 := HT2.out.set q (.int .i64 (x : Int))
          rw [HQ.out] at h9 ⊢
          simp only [HX.out]
          exact h9
        have HC3 : Hid (Cur w0 (w2.setCell ⟨T, q, none⟩ (.int .i64 (x : Int))) g v bs p2) := HC2.out.other HTG.out.1 HTG.out.2 _
        have HH3 : Hid (Touch [g, T] w (w2.setCell ⟨T, q, none⟩ (.int .i64 (x : Int)))) := HH2.out.trans (Touch.set (by simp))
        have HX3 : Hid ((xs ++ [(x : Int)]).length = j + 1) := by unfold Hid; rw [List.length_append, HX.out]; rfl
        rw [hzd]
        generalize (putN cs is xs)[q]'(by rw [putN_size]; exact HQS.out) = uq at hcq
        clear hzd hp2 hz0 hc0 hpp
        go_wp2
        go_roundw
        case rel => exact ⟨j + 1, p2, _, by omega, by go_num, HX3, HC3, HT3, HH3, HK2⟩
        case measure => simp [intOf]; omega
    · have hje : n = j := by omega
      subst hje
      have HEQ : Hid (xs.length = is.length) := by unfold Hid; rw [HX.out, HN.out]
      go_wp2
      go_ret
      exact ⟨p, xs, Nat.le_of_eq HEQ.out, ret_bool (decide_eq_true HEQ.out).symm, HC.out, HT.out, HH.out, fun _ => by rw [← HN.out]; exact HK.out, fun h => absurd HEQ.out (Nat.ne_of_lt h)⟩
def NumsP (w0 w : World) (g : Nat) (v : Value) (bs : List UInt8) (k : Nat) (ns : List Int) (T t : Nat) (cs : Array Value) (is : List Nat) (e : Ending) (w' : World) : Prop :=
  ∃ (p' : Nat) (xs : List Int), xs.length ≤ is.length ∧ e = .returned (.bool (decide (xs.length = is.length))) ∧ Cur w0 w' g v bs p' ∧ Bx w' T t (putN cs is xs) ∧ Touch [g, T] w w' ∧ (xs.length = is.length → rdK bs (k + is.length) = some (ns ++ xs, p')) ∧ (xs.length < is.length → rdK bs (k + is.length) = none)
theorem numbers_any (w0 w : World) (g : Nat) (v : Value) (bs : List UInt8) (k p : Nat) (ns : List Int) (T t pb : Nat) (cs : Array Value) (is : List Nat) (hc : Cur w0 w g v bs p) (hk : rdK bs k = some (ns, p)) (hT : Bx w T t cs) (hTg : T ≠ g) (hTge : w0.heap.size ≤ T) (his : ∀ i ∈ is, i < cs.size)
    (hrow : ∀ j (hj : j < is.length), w.cell? ⟨pb, j, none⟩ = some (.pointer (some ⟨T, is[j], none⟩))) (hpg : pb ≠ g) (hpT : pb ≠ T) (hn : is.length ≤ 2) :
    Calls Try.prog 47 #[.pointer (some ⟨g, 0, none⟩), .slice (some ⟨pb, 0, none⟩) is.length is.length] w fun e w' => NumsP w0 w g v bs k ns T t cs is e w' := by
  refine (numbersF_any w0 w g v bs 0 k p ns T t pb cs is hc (by rw [rdKf_zero]; exact hk) hT hTg hTge his hrow hpg hpT hn).mono fun e w' h => ?_
  unfold NumsF at h
  rw [rdKf_zero] at h
  exact h
/-- One pointer in a row. -/
theorem ptr_one (w : World) (e : TypeId) (T i : Nat) : ∀ j (hj : j < [i].length), (w.alloc (.cells #[.pointer (some ⟨T, i, none⟩)] e)).cell? ⟨w.heap.size, j, none⟩ = some (.pointer (some ⟨T, [i][j], none⟩)) := by
  intro j hj
  match j, hj with
  | 0, _ => exact (bx_new w e _).cell 0 rfl
theorem putN_two (a0 a1 a2 a3 : Value) (x y : Int) : putN #[a0, a1, a2, a3] [2, 3] [x, y] = #[a0, a1, .int .i64 x, .int .i64 y] := rfl
/-- Two pointers in a row. -/
theorem ptr_two (w : World) (e : TypeId) (p q : Addr) : ∀ j (hj : j < [p.off, q.off].length), p.spot = none → q.spot = none → p.block = q.block → (w.alloc (.cells #[.pointer (some p), .pointer (some q)] e)).cell? ⟨w.heap.size, j, none⟩ = some (.pointer (some ⟨p.block, [p.off, q.off][j], none⟩)) := by
  intro j hj h1 h2 h3
  obtain ⟨pb, po, ps⟩ := p
  obtain ⟨qb, qo, qs⟩ := q
  simp only at h1 h2 h3 hj ⊢
  subst h1 h2 h3
  match j, hj with
  | 0, _ => exact (bx_new w e _).cell 0 rfl
  | 1, _ => exact (bx_new w e _).cell 1 rfl
/-- What vote leaves: the server and the tag that were read. -/
def VoteP (w0 w : World) (g : Nat) (v : Value) (bs : List UInt8) (k : Nat) (ns : List Int) (e : Ending) (w' : World) : Prop :=
  ∃ (p' : Nat) (x y : Int) (ok : Bool), e = .returned (.tuple #[.agg #[.int .i64 0, .int .i64 0, .int .i64 x, .int .i64 y], .bool ok]) ∧ Cur w0 w' g v bs p' ∧ Touch [g] w w' ∧ (ok = true → rdK bs (k + 2) = some (ns ++ [x, y], p')) ∧ (ok = false → rdK bs (k + 2) = none)
set_option maxHeartbeats 2000000 in
set_option maxRecDepth 100000 in
theorem vote_any (w0 w : World) (g : Nat) (v : Value) (bs : List UInt8) (k p : Nat) (ns : List Int) (hc : Cur w0 w g v bs p) (hk : rdK bs k = some (ns, p)) :
    Calls Try.prog 59 #[.pointer (some ⟨g, 0, none⟩)] w fun e w' => VoteP w0 w g v bs k ns e w' := by
  have hgl := hc.lt
  have hge := hc.ge
  obtain ⟨A, hA⟩ : ∃ A, A = Obj.cells #[.int .i64 0, .int .i64 0, .int .i64 0, .int .i64 0] 72 := ⟨_, rfl⟩
  obtain ⟨Q, hQ⟩ : ∃ Q, Q = Obj.cells #[.pointer (some ⟨w.heap.size + 1, 2, none⟩), .pointer (some ⟨w.heap.size + 1, 3, none⟩)] 77 := ⟨_, rfl⟩
  obtain ⟨W3, hW3⟩ : ∃ W3, W3 = ((w.alloc A).alloc A).alloc Q := ⟨_, rfl⟩
  have t3 : Bx W3 w.heap.size 72 #[.int .i64 0, .int .i64 0, .int .i64 0, .int .i64 0] := by rw [hW3, hA]; exact ((bx_new w _ _).below (below1 _ _)).below (below1 _ _)
  have r3 : Bx W3 (w.heap.size + 1) 72 #[.int .i64 0, .int .i64 0, .int .i64 0, .int .i64 0] := by
    have h := (bx_new (w.alloc A) 72 #[.int .i64 0, .int .i64 0, .int .i64 0, .int .i64 0]).below (below1 _ Q)
    rw [szR] at h
    rw [hW3, hA]; rw [hA] at h; exact h
  have hrow : ∀ j (hj : j < [2, 3].length), W3.cell? ⟨w.heap.size + 2, j, none⟩ = some (.pointer (some ⟨w.heap.size + 1, [2, 3][j], none⟩)) := fun j hj => by
    have h := ptr_two ((w.alloc A).alloc A) 77 ⟨w.heap.size + 1, 2, none⟩ ⟨w.heap.size + 1, 3, none⟩ j hj rfl rfl rfl
    rw [szR, szR] at h
    rw [hW3, hQ]; exact h
  have hb3 : Below w.heap.size w W3 := by rw [hW3]; exact ((below1 w A).alloc (by simp) A).alloc (by simp; omega) Q
  have hc3 : Cur w0 W3 g v bs p := by rw [hW3]; exact ((hc.alloc A).alloc A).alloc Q
  have HNU : Hid (Calls Try.prog 47 #[.pointer (some ⟨g, 0, none⟩), .slice (some ⟨w.heap.size + 2, 0, none⟩) 2 2] W3 fun e w' => NumsP w0 W3 g v bs k ns (w.heap.size + 1) 72 #[.int .i64 0, .int .i64 0, .int .i64 0, .int .i64 0] [2, 3] e w') :=
    numbers_any w0 W3 g v bs k p ns (w.heap.size + 1) 72 (w.heap.size + 2) #[.int .i64 0, .int .i64 0, .int .i64 0, .int .i64 0] [2, 3] hc3 hk r3 (by omega) (by have := hc.bel.size; omega) (by simp) hrow (by omega) (by omega) (by simp)
  have HW3 : Hid (((w.alloc A).alloc A).alloc Q = W3) := hW3.symm
  have HW := HW3.out
  rw [hA, hQ] at HW
  have HWW : Hid (((w.alloc (Obj.cells #[.int .i64 0, .int .i64 0, .int .i64 0, .int .i64 0] 72)).alloc (Obj.cells #[.int .i64 0, .int .i64 0, .int .i64 0, .int .i64 0] 72)).alloc (Obj.cells #[.pointer (some ⟨w.heap.size + 1, 2, none⟩), .pointer (some ⟨w.heap.size + 1, 3, none⟩)] 77) = W3) := HW
  have HGL : Hid (g < w.heap.size) := hgl
  have HGE : Hid (w0.heap.size ≤ w.heap.size) := hc.bel.size
  have HB3 : Hid (Below w.heap.size w W3) := hb3
  clear hA hQ hW3 HW3 HW hrow r3 hc3 hc hk hgl hge hb3
  go_enter Try.func59, Try.ntmps59
  go_wp2_with fail
  rw [HWW.out]
  refine HNU.out.mono ?_
  rintro e w4 ⟨p', xs, hxl, rfl, hc4, hx4, ht4, hy, hn⟩
  have t4 : Bx w4 w.heap.size 72 #[.int .i64 0, .int .i64 0, .int .i64 0, .int .i64 0] := t3.touch ht4 (by have := HGL.out; simp; omega)
  obtain ⟨x, y, hxy⟩ : ∃ x y : Int, putN #[.int .i64 0, .int .i64 0, .int .i64 0, .int .i64 0] [2, 3] xs = #[.int .i64 0, .int .i64 0, .int .i64 x, .int .i64 y] ∧ (xs.length = 2 → xs = [x, y]) := by
    match xs, hxl with
    | [], _ => exact ⟨0, 0, rfl, fun h => by simp at h⟩
    | [a], _ => exact ⟨a, 0, rfl, fun h => by simp at h⟩
    | [a, b], _ => exact ⟨a, b, rfl, fun _ => rfl⟩
    | a :: b :: c :: r, h => simp only [List.length_cons, List.length_nil] at h; omega
  rw [hxy.1] at hx4
  have HT4 : Hid (Touch [g] w w4) := by
    have h1 : Touch [g] w w4 := ⟨ht4.os.trans HB3.out.os, ht4.tape.trans HB3.out.tape, ht4.output.trans HB3.out.output, Nat.le_trans HB3.out.size ht4.size, fun q hq hg => (ht4.block q (Nat.lt_of_lt_of_le hq HB3.out.size) (by simp at hg; simp [hg]; omega)).trans (HB3.out.block q hq)⟩
    exact h1
  obtain ⟨ok, hok⟩ : ∃ ok, ok = decide (xs.length = [2, 3].length) := ⟨_, rfl⟩
  have HY : Hid (ok = true → rdK bs (k + 2) = some (ns ++ [x, y], p')) := fun h => by
    have h1 := of_decide_eq_true (hok.symm.trans h)
    have h2 := hy h1
    rw [hxy.2 h1] at h2
    exact h2
  have HN : Hid (ok = false → rdK bs (k + 2) = none) := fun h => hn (Nat.lt_of_le_of_ne hxl (of_decide_eq_false (hok.symm.trans h)))
  rw [← hok]
  have HC4 : Hid (Cur w0 w4 g v bs p') := hc4
  have HX4 : Hid (Bx w4 (w.heap.size + 1) 72 #[.int .i64 0, .int .i64 0, .int .i64 x, .int .i64 y]) := hx4
  clear hok hy hn hxy hxl ht4 hc4 t3 hx4
  have HTT4 : Hid (Bx w4 w.heap.size 72 #[.int .i64 0, .int .i64 0, .int .i64 0, .int .i64 0]) := t4
  obtain ⟨c0, c1, c2, c3⟩ := t4.c4
  obtain ⟨f0, f1, f2, f3⟩ := t4.f4
  obtain ⟨d0, d1, d2, d3⟩ := HX4.out.c4
  clear t4
  go_wp2
  obtain ⟨z0, z1, z2, z3⟩ := (Bx.put4 HTT4.out (.int .i64 0) (.int .i64 0) (.int .i64 x) (.int .i64 y)).c4
  have HCZ : Hid (Cur w0 (put4B w4 w.heap.size (.int .i64 0) (.int .i64 0) (.int .i64 x) (.int .i64 y)) g v bs p') := HC4.out.touch put4B_touch (by have := HGL.out; simp; omega) (fun q hq => by have h1 := List.mem_singleton.1 hq; have h2 := HGE.out; omega)
  have HTZ : Hid (Touch [g] w (put4B w4 w.heap.size (.int .i64 0) (.int .i64 0) (.int .i64 x) (.int .i64 y))) := by
    have h1 := put4B_touch (W := w4) (b := w.heap.size) (u0 := .int .i64 0) (u1 := .int .i64 0) (u2 := .int .i64 x) (u3 := .int .i64 y)
    exact ⟨h1.os.trans HT4.out.os, h1.tape.trans HT4.out.tape, h1.output.trans HT4.out.output, Nat.le_trans HT4.out.size h1.size, fun q hq hg => (h1.block q (Nat.lt_of_lt_of_le hq HT4.out.size) (by simp; omega)).trans (HT4.out.block q hq hg)⟩
  unfold put4B at z0 z1 z2 z3 HCZ HTZ
  exact bodyPost_ret (v := .tuple #[.agg #[.int .i64 0, .int .i64 0, .int .i64 x, .int .i64 y], .bool ok]) (by simp [results, Try.results59, go_sem, z0, z1, z2, z3]) rfl ⟨p', x, y, ok, rfl, HCZ.out, HTZ.out, HY.out, HN.out⟩
end Go.Proofs.Ytckidhcknibceaa
