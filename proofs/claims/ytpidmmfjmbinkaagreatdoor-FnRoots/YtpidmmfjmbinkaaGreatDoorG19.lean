/- The root of a device's two slots: what the model tells of it. The contracts of errors.Is at an error of the program's own that wraps a sentinel, and of errors.As at that error's type. -/
import Derived.Test.YtpidmmfjmbinkaaGreatDoorG18
import Derived.Test.YtpidmmfjmbinkaaGreatDoorDevSpe
import Derived.Test.YtpidmmfjmbinkaaGreatDoorDevLay
namespace Go.Proofs.YtpidmmfjmbinkaaGreatDoor
open Go.RowKit
def rB (r : Option (Int × ByteArray)) : Bool := r.isSome
/-- The newest of two slots: its sector, generation and text. -/
def rootR : Option (Int × ByteArray) → Option (Int × ByteArray) → Int × Int × ByteArray
  | some (a, s), some (b, t) => if b ≤ a then (0, a, s) else (1, b, t)
  | some (a, s), none => (0, a, s)
  | none, some (b, t) => (1, b, t)
  | none, none => (-1, 0, ⟨#[]⟩)
def twoOk (ss : List ByteArray) (ps : List Pat) : Bool := devOk ss ps && decide (2 ≤ ss.length)
def rootD (ss : List ByteArray) (ps : List Pat) (r0 r1 : Option (Int × ByteArray)) : Int × Int × ByteArray := if twoOk ss ps then rootR r0 r1 else (-1, 0, ⟨#[]⟩)
theorem liesTo_size (s0 : ByteArray) (l : List Pat) (p : Int) (h0 : s0.size ≤ 400) : ∀ k, (∀ i, i < k → (nthP l i).text.size ≤ 400) → (liesTo s0 l p k).size ≤ 400
  | 0, _ => h0
  | k + 1, h => by
    unfold liesTo
    split
    · exact h k (Nat.lt_succ_self k)
    · exact liesTo_size s0 l p h0 k (fun i hi => h i (Nat.lt_succ_of_lt hi))
theorem lies_size (s : List ByteArray) (l : List Pat) (p : Int) : (liesL s l p).size ≤ 400 := by
  unfold liesL
  split
  · rename_i h
    simp only [Bool.and_eq_true, decide_eq_true_eq] at h
    obtain ⟨⟨h1, h2⟩, h3⟩ := h
    obtain ⟨_, _, _, q1, q2⟩ := (devOk_iff s l).1 h1
    refine liesTo_size _ _ _ ?_ _ (fun i hi => (pOk_iff.1 (q2 i hi)).2.2)
    have : p.toNat < s.length := by omega
    rw [List.getD_eq_getElem?_getD, List.getElem?_eq_getElem this]
    exact q1 _ this
  · exact Nat.zero_le _
theorem readSpec_any (s : ByteArray) (r : Option (Int × ByteArray)) (w : World) (hs : s.size ≤ 1048576) (h : RS s r) :
    Calls Tryz.prog 20 #[.string s] w fun e w' => e = .returned (.tuple #[.int .i64 (rG r), .string (rT r), .bool (rB r)]) ∧ Below w.heap.size w w' := by
  cases r with
  | none => exact specRead_no s w hs h
  | some p =>
    obtain ⟨g, t⟩ := p
    obtain ⟨h1, rfl⟩ := h
    exact specRead_yes g t w h1
theorem rs_pos {s : ByteArray} {g : Int} {t : ByteArray} (h : RS s (some (g, t))) : 1 ≤ g ∧ g ≤ 1000000 := ⟨h.1.1, h.1.2.1⟩
set_option maxHeartbeats 4000000 in
set_option maxRecDepth 100000 in
theorem l9Root_any (sa la : Option Addr) (cs cl : Nat) (ss : List ByteArray) (ps : List Pat) (r0 r1 : Option (Int × ByteArray)) (w : World) (hx : RdDv w (dvOf sa la cs cl ss ps)) (h0 : RS (liesL ss ps 0) r0) (h1 : RS (liesL ss ps 1) r1) :
    Calls Tryz.prog 46 #[.agg #[.slice sa ss.length cs, .slice la ps.length cl]] w fun e w' => e = .returned (.tuple #[.int .i64 (rootD ss ps r0 r1).1, .int .i64 (rootD ss ps r0 r1).2.1, .string (rootD ss ps r0 r1).2.2]) ∧ Below w.heap.size w w' := by
  have B0 : Bx (w.alloc (.cells #[.slice sa ss.length cs, .slice la ps.length cl] 27)) _ := (bx_nil w).new hx 27
  have b0 := below1 w (.cells #[.slice sa ss.length cs, .slice la ps.length cl] 27)
  have H0 : Hid (∀ W, Calls Tryz.prog 20 #[.string (liesL ss ps 0)] W fun e w' => e = .returned (.tuple #[.int .i64 (rG r0), .string (rT r0), .bool (rB r0)]) ∧ Below W.heap.size W w') := fun W => readSpec_any _ r0 W (Nat.le_trans (lies_size ss ps 0) (by decide)) h0
  have H1 : Hid (∀ W, Calls Tryz.prog 20 #[.string (liesL ss ps 1)] W fun e w' => e = .returned (.tuple #[.int .i64 (rG r1), .string (rT r1), .bool (rB r1)]) ∧ Below W.heap.size W w') := fun W => readSpec_any _ r1 W (Nat.le_trans (lies_size ss ps 1) (by decide)) h1
  have HR : Hid (rootD ss ps r0 r1 = if twoOk ss ps then rootR r0 r1 else (-1, 0, ⟨#[]⟩)) := rfl
  have HT : Hid (twoOk ss ps = (devOk ss ps && decide (2 ≤ ss.length))) := rfl
  generalize rootD ss ps r0 r1 = R at HR ⊢
  clear h0 h1
  obtain ⟨c0, c1⟩ := B0.at _ sa la cs cl ss ps (.head _)
  go_enter Tryz.func46, Tryz.ntmps46
  go_wp2_with fail
  clear c0 c1
  generalize w.alloc (.cells #[.slice sa ss.length cs, .slice la ps.length cl] 27) = W0 at B0 b0 ⊢
  refine (specDeviceOk_any (dvOf sa la cs cl ss ps) _ (B0.rd _ _ _ _ _ _ _ (.head _))).mono ?_
  rintro e w1 ⟨he, b1⟩
  replace he : e = .returned (.bool (devOk ss ps)) := he
  subst he
  have B1 := B0.below b1
  replace b1 := b0.trans (b1.mono b0.size)
  clear B0 b0
  generalize devOk ss ps = ok at HT ⊢
  obtain ⟨c0, c1⟩ := B1.at _ sa la cs cl ss ps (.head _)
  cases ok with
  | false =>
    have e : R = (-1, 0, ⟨#[]⟩) := by rw [HR.out, HT.out]; rfl
    subst e
    go_wp2
    go_ret3
    exact ⟨rfl, b1⟩
  | true =>
    by_cases hn : ss.length < 2
    · have e : R = (-1, 0, ⟨#[]⟩) := by rw [HR.out, HT.out, if_neg (by simp; omega)]
      subst e
      have hn2 : (ss.length : Int) < 2 := by omega
      go_wp2
      go_ret3
      exact ⟨rfl, b1⟩
    · have e : R = rootR r0 r1 := by rw [HR.out, HT.out, if_pos (by simp; omega)]
      have HE : Hid (R = rootR r0 r1) := e
      clear e HR HT
      have hn2 : ¬ (ss.length : Int) < 2 := by omega
      go_wp2_with fail
      clear c0 c1
      refine (specLies_any (dvOf sa la cs cl ss ps) 0 _ (B1.rd _ _ _ _ _ _ _ (.head _))).mono ?_
      rintro e w2 ⟨he, b2⟩
      replace he : e = .returned (.string (liesL ss ps 0)) := he
      subst he
      have B2 := B1.below b2
      replace b2 := b1.trans (b2.mono b1.size)
      clear B1 b1
      go_wp2_with fail
      refine (H0.out _).mono ?_
      rintro e w3 ⟨rfl, b3⟩
      have B3 := B2.below b3
      replace b3 := b2.trans (b3.mono b2.size)
      clear B2 b2
      obtain ⟨c0, c1⟩ := B3.at _ sa la cs cl ss ps (.head _)
      go_wp2_with fail
      clear c0 c1
      refine (specLies_any (dvOf sa la cs cl ss ps) 1 _ (B3.rd _ _ _ _ _ _ _ (.head _))).mono ?_
      rintro e w4 ⟨he, b4⟩
      replace he : e = .returned (.string (liesL ss ps 1)) := he
      subst he
      have B4 := B3.below b4
      replace b4 := b3.trans (b4.mono b3.size)
      clear B3 b3
      go_wp2_with fail
      refine (H1.out _).mono ?_
      rintro e w5 ⟨rfl, b5⟩
      replace b5 := b4.trans (b5.mono b4.size)
      clear B4 b4 H0 H1
      cases r0 with
      | none =>
        cases r1 with
        | none =>
          have e : R = (-1, 0, ⟨#[]⟩) := HE.out
          subst e
          simp only [rG, rT, rB, Option.map, Option.getD, Option.isSome]
          go_wp2
          go_ret3
          exact ⟨rfl, b5⟩
        | some p =>
          obtain ⟨b, t⟩ := p
          have e : R = (1, b, t) := HE.out
          subst e
          simp only [rG, rT, rB, Option.map, Option.getD, Option.isSome]
          go_wp2
          go_ret3
          exact ⟨rfl, b5⟩
      | some q =>
        obtain ⟨a, s⟩ := q
        cases r1 with
        | none =>
          have e : R = (0, a, s) := HE.out
          subst e
          simp only [rG, rT, rB, Option.map, Option.getD, Option.isSome]
          go_wp2
          go_ret3
          exact ⟨rfl, b5⟩
        | some p =>
          obtain ⟨b, t⟩ := p
          simp only [rG, rT, rB, Option.map, Option.getD, Option.isSome]
          by_cases hab : b ≤ a
          · have e : R = (0, a, s) := by rw [HE.out]; show (if b ≤ a then ((0 : Int), a, s) else (1, b, t)) = _; rw [if_pos hab]
            subst e
            go_wp2
            go_ret3
            exact ⟨rfl, b5⟩
          · have e : R = (1, b, t) := by rw [HE.out]; show (if b ≤ a then ((0 : Int), a, s) else (1, b, t)) = _; rw [if_neg hab]
            subst e
            go_wp2
            go_ret3
            exact ⟨rfl, b5⟩
set_option maxHeartbeats 4000000 in
set_option maxRecDepth 100000 in
theorem specRoot_any (sa la : Option Addr) (cs cl : Nat) (ss : List ByteArray) (ps : List Pat) (r0 r1 : Option (Int × ByteArray)) (w : World) (hx : RdDv w (dvOf sa la cs cl ss ps)) (h0 : RS (liesL ss ps 0) r0) (h1 : RS (liesL ss ps 1) r1) :
    Calls Tryz.prog 19 #[.agg #[.slice sa ss.length cs, .slice la ps.length cl]] w fun e w' => e = .returned (.tuple #[.int .i64 (rootD ss ps r0 r1).2.1, .string (rootD ss ps r0 r1).2.2]) ∧ Below w.heap.size w w' := by
  have B0 : Bx (w.alloc (.cells #[.slice sa ss.length cs, .slice la ps.length cl] 27)) _ := (bx_nil w).new hx 27
  have b0 := below1 w (.cells #[.slice sa ss.length cs, .slice la ps.length cl] 27)
  have HL : Hid (∀ W, RdDv W (dvOf sa la cs cl ss ps) → Calls Tryz.prog 46 #[.agg #[.slice sa ss.length cs, .slice la ps.length cl]] W fun e w' => e = .returned (.tuple #[.int .i64 (rootD ss ps r0 r1).1, .int .i64 (rootD ss ps r0 r1).2.1, .string (rootD ss ps r0 r1).2.2]) ∧ Below W.heap.size W w') := fun W h => l9Root_any sa la cs cl ss ps r0 r1 W h h0 h1
  generalize rootD ss ps r0 r1 = R at HL ⊢
  obtain ⟨x, y, z⟩ := R
  simp only at HL ⊢
  obtain ⟨c0, c1⟩ := B0.at _ sa la cs cl ss ps (.head _)
  go_enter Tryz.func19, Tryz.ntmps19
  go_wp2_with fail
  clear c0 c1
  generalize w.alloc (.cells #[.slice sa ss.length cs, .slice la ps.length cl] 27) = W0 at B0 b0 ⊢
  refine (HL.out _ (B0.rd _ _ _ _ _ _ _ (.head _))).mono ?_
  rintro e w1 ⟨rfl, b1⟩
  replace b1 := b0.trans (b1.mono b0.size)
  clear B0 b0
  go_wp2
  go_ret2
  exact ⟨rfl, b1⟩
end Go.Proofs.YtpidmmfjmbinkaaGreatDoor
namespace Go.Proofs.YtpidmmfjmbinkaaGreatDoor
open Go.RowKit Go.Extern.Stop Go.Stop Go.Extern
theorem Tryz.noIsE (v : Value) (xT : TypeId) (w : World) : (Instr.typeAssert (.iface 174 v) xT 125 true).run Tryz.prog w = .ok (.tuple #[.nilIface, .bool false]) w := run_typeAssert_lacksB Tryz.underlying125 (by kernel_rfl) (by kernel_rfl) v xT w
theorem Tryz.noUnwrapE (v : Value) (xT : TypeId) (w : World) : (Instr.typeAssert (.iface 174 v) xT 128 true).run Tryz.prog w = .ok (.tuple #[.nilIface, .bool false]) w := run_typeAssert_lacksB Tryz.underlying128 (by kernel_rfl) (by kernel_rfl) v xT w
theorem Tryz.noUnwrapsE (v : Value) (xT : TypeId) (w : World) : (Instr.typeAssert (.iface 174 v) xT 130 true).run Tryz.prog w = .ok (.tuple #[.nilIface, .bool false]) w := run_typeAssert_lacksB Tryz.underlying130 (by kernel_rfl) (by kernel_rfl) v xT w
theorem Tryz.noIsW (v : Value) (xT : TypeId) (w : World) : (Instr.typeAssert (.iface 106 v) xT 125 true).run Tryz.prog w = .ok (.tuple #[.nilIface, .bool false]) w := run_typeAssert_lacksB Tryz.underlying125 (by kernel_rfl) (by kernel_rfl) v xT w
theorem Tryz.hasUnwrapW (v : Value) (xT : TypeId) (w : World) : (Instr.typeAssert (.iface 106 v) xT 128 true).run Tryz.prog w = .ok (.tuple #[.iface 106 v, .bool true]) w := run_typeAssert_hasB Tryz.underlying128 (by kernel_rfl) v xT w
theorem Tryz.methodUnwrap (v : Value) (w : World) : (Go.method 305 106 v "Unwrap").run Tryz.prog w = .ok (135, v) w := by kernel_rfl
/-- An error of the program's own: at which sector, and why. -/
abbrev secE (p : Int) (a : Addr) : Value := .iface 106 (.agg #[.int .i64 p, .iface 174 (.pointer (some a))])
set_option maxHeartbeats 4000000 in
set_option maxRecDepth 100000 in
theorem is_sec_same (p : Int) (b : Addr) (w : World) :
    Calls Tryz.prog 36 #[secE p b, .iface 174 (.pointer (some b))] w fun e w' => e = .returned (.bool true) ∧ Below w.heap.size w w' := by
  obtain ⟨i, hi, hcmp⟩ := Option.map_eq_some_iff.1 Tryz.isComp
  obtain ⟨j, hj, hjs⟩ := Option.map_eq_some_iff.1 Tryz.isSize
  obtain ⟨cx, hcx, cT⟩ := Tryz.cmpX
  have h8 := @run_callFunc_extern Tryz.prog 65 _ Extern.ReflectliteType.typeOf Tryz.func65 (by kernel_rfl) (by kernel_rfl) (by kernel_rfl) (by kernel_rfl)
  have h32 := @run_callFunc_extern Tryz.prog 138 _ cx Tryz.func138 (by kernel_rfl) (by kernel_rfl) (by kernel_rfl) hcx
  have tT := Tryz.isTypeOf
  have mR := Tryz.isMethodComparable
  have nW := Tryz.noIsW
  have uW := Tryz.hasUnwrapW
  have mU := Tryz.methodUnwrap
  have heq := fun W => run_eql_iface_ptr_same (P := Tryz.prog) W b Tryz.underlying59 Tryz.underlying174 hi hcmp hj
  have hty := fun W => run_eql_iface_types (P := Tryz.prog) 106 174 (.agg #[.int .i64 p, .iface 174 (.pointer (some b))]) (.pointer (some b)) Tryz.underlying59 (by decide) W
  have bl := below1 w (.cells #[.int .i64 p, .iface 174 (.pointer (some b))] 106)
  go_enter Tryz.func36, Tryz.ntmps36
  go_wp2
  refine wp_loop_rounds 2 ?_
  rw [rounds_succ]
  go_wp2
  rw [rounds_succ]
  go_wp2
  go_ret
  exact ⟨rfl, bl⟩
set_option maxHeartbeats 4000000 in
set_option maxRecDepth 100000 in
theorem is_sec_other (p : Int) (a b : Addr) (ca cb : Array Value) (ta tb : TypeId) (w : World) (hne : a ≠ b) (ha : w.heap[a.block]? = some (.cells ca ta (0, 0))) (hb : w.heap[b.block]? = some (.cells cb tb (0, 0))) :
    Calls Tryz.prog 36 #[secE p a, .iface 174 (.pointer (some b))] w fun e w' => e = .returned (.bool false) ∧ Below w.heap.size w w' := by
  obtain ⟨i, hi, hcmp⟩ := Option.map_eq_some_iff.1 Tryz.isComp
  obtain ⟨j, hj, hjs⟩ := Option.map_eq_some_iff.1 Tryz.isSize
  obtain ⟨cx, hcx, cT⟩ := Tryz.cmpX
  have h8 := @run_callFunc_extern Tryz.prog 65 _ Extern.ReflectliteType.typeOf Tryz.func65 (by kernel_rfl) (by kernel_rfl) (by kernel_rfl) (by kernel_rfl)
  have h32 := @run_callFunc_extern Tryz.prog 138 _ cx Tryz.func138 (by kernel_rfl) (by kernel_rfl) (by kernel_rfl) hcx
  have tT := Tryz.isTypeOf
  have mR := Tryz.isMethodComparable
  have nE := Tryz.noIsE
  have uE := Tryz.noUnwrapE
  have vE := Tryz.noUnwrapsE
  have nW := Tryz.noIsW
  have uW := Tryz.hasUnwrapW
  have mU := Tryz.methodUnwrap
  have bl := below1 w (.cells #[.int .i64 p, .iface 174 (.pointer (some a))] 106)
  have heq := run_eql_iface_ptr_other (P := Tryz.prog) (w.alloc (.cells #[.int .i64 p, .iface 174 (.pointer (some a))] 106)) Tryz.underlying59 Tryz.underlying174 hi hcmp hj (by rw [hjs]; decide) hne ((bl.block _ (Array.getElem?_eq_some_iff.1 ha).1).trans ha) ((bl.block _ (Array.getElem?_eq_some_iff.1 hb).1).trans hb)
  have hty := fun W => run_eql_iface_types (P := Tryz.prog) 106 174 (.agg #[.int .i64 p, .iface 174 (.pointer (some a))]) (.pointer (some b)) Tryz.underlying59 (by decide) W
  go_enter Tryz.func36, Tryz.ntmps36
  go_wp2
  refine wp_loop_rounds 2 ?_
  rw [rounds_succ]
  go_wp2
  rw [rounds_succ]
  go_wp2
  go_ret
  exact ⟨rfl, bl⟩
end Go.Proofs.YtpidmmfjmbinkaaGreatDoor
