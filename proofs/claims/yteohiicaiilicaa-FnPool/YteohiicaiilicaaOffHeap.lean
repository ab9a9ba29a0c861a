/- The heap of Offers in memory: a row behind a variable; its methods through an interface value; the exchange, the way up and the way down. -/
-- UNF Gen
import Derived.Test.YteohiicaiilicaaOffLess
import Derived.RegionTactic
import Derived.ChangeAlike
import Derived.WalkMore
import Derived.Deep.LoopGhost
import Derived.Deep.DeepCutAuto
namespace Go.Proofs.Yteohiicaiilicaa
open Go.RowKit
theorem run_wrapNilO (P : Program) (w : World) (t : TypeId) (a : Addr) (n : String) : (Builtin.ssaWrapNilChk_ #[t] t #[.pointer (some a), strVal "", strVal n]).run P w = .ok (.pointer (some a)) w := rfl
/-- A method of a slice's type, called through an interface value that holds a pointer to one. -/
theorem run_method_valO {P : Program} {w : World} {t elem se : TypeId} {K b f : Nat} {v : Value} {name : String} (hm : ((P.info? t).bind fun i => i.methods.find? (·.name == name)).map (fun m => (m.path, m.func)) = some (#[], some (K, false)))
    (hu : P.underlying t = some (.pointer elem)) (he : P.underlying elem = some (.slice se)) (h : w.cell? ⟨b, 0, none⟩ = some v) : (method (f + 1) t (.pointer (some ⟨b, 0, none⟩)) name).run P w = .ok (K, v) w := by
  obtain ⟨i, hi⟩ : ∃ i, P.info? t = some i := by
    cases h : P.info? t with
    | none => rw [h] at hm; simp at hm
    | some i => exact ⟨i, rfl⟩
  rw [hi] at hm
  obtain ⟨m, hm1⟩ : ∃ m, i.methods.find? (·.name == name) = some m := by
    cases h : i.methods.find? (·.name == name) with
    | none => simp only [Option.bind_some, h] at hm; simp at hm
    | some m => exact ⟨m, rfl⟩
  simp only [Option.bind_some, hm1, Option.map_some, Option.some.injEq, Prod.mk.injEq] at hm
  have h2 := run_wrapNilO P w t ⟨b, 0, none⟩
  simp [method, typeInfo, hi, hm1, hm.1, hm.2, follow, receiverAt, underlying, hu, he, Place.get, h2, asAddr, loadVar, isAgg, h, Result.andThen]
theorem o_Len (w : World) (b : Nat) (v : Value) (h : w.cell? ⟨b, 0, none⟩ = some v) : (method 206 61 (.pointer (some ⟨b, 0, none⟩)) "Len").run Try.prog w = .ok (54, v) w :=
  run_method_valO (by kernel_rfl) Try.underlying61 Try.underlying64 h
theorem o_Less (w : World) (b : Nat) (v : Value) (h : w.cell? ⟨b, 0, none⟩ = some v) : (method 206 61 (.pointer (some ⟨b, 0, none⟩)) "Less").run Try.prog w = .ok (47, v) w :=
  run_method_valO (by kernel_rfl) Try.underlying61 Try.underlying64 h
theorem o_Swap (w : World) (b : Nat) (v : Value) (h : w.cell? ⟨b, 0, none⟩ = some v) : (method 206 61 (.pointer (some ⟨b, 0, none⟩)) "Swap").run Try.prog w = .ok (78, v) w :=
  run_method_valO (by kernel_rfl) Try.underlying61 Try.underlying64 h
theorem o_Push (w : World) (b : Nat) : (method 206 61 (.pointer (some ⟨b, 0, none⟩)) "Push").run Try.prog w = .ok (77, .pointer (some ⟨b, 0, none⟩)) w := by kernel_rfl
theorem o_Pop (w : World) (b : Nat) : (method 206 61 (.pointer (some ⟨b, 0, none⟩)) "Pop").run Try.prog w = .ok (76, .pointer (some ⟨b, 0, none⟩)) w := by kernel_rfl
theorem RdO.narrow {w : World} {a : Option Addr} {n c0 cap : Nat} {es : List Off} (h : RdO w (.slice a n c0) es) (h1 : n ≤ cap) (h2 : cap ≤ c0) : RdO w (.slice a n cap) es := by
  obtain ⟨a', c', hv, q1, q2, q3, q4⟩ := h
  simp only [Value.slice.injEq] at hv
  obtain ⟨rfl, rfl, rfl⟩ := hv
  exact ⟨a, cap, rfl, h1, Nat.le_trans h2 q2, fun e => by have := q3 e; omega, q4⟩
theorem ownO_shape {w : World} {B n c : Nat} {a : Option Addr} {es : List Off} (h : OwnO w B (.slice a n c) es) : n = es.length ∧ n ≤ c ∧ c ≤ maxLen ∧ (0 < n → ∃ g, a = some ⟨g, 0, none⟩) := by
  rcases h.2 with ⟨hv, h0⟩ | ⟨g, cap, cur, hv, _, _, h1, h2, _⟩
  · simp only [Value.slice.injEq] at hv
    obtain ⟨rfl, rfl, rfl⟩ := hv
    exact ⟨h0.symm, Nat.le_refl _, Nat.zero_le _, fun h => by omega⟩
  · simp only [Value.slice.injEq] at hv
    obtain ⟨rfl, rfl, rfl⟩ := hv
    exact ⟨rfl, h1, h2, fun _ => ⟨g, rfl⟩⟩
/-- The heap: a variable in block sb that holds the row; the row's block may have room behind its end. -/
structure OHp (w0 w : World) (sb : Nat) (a : Option Addr) (n cap c0 : Nat) (es : List Off) : Prop where
  bel : Below w0.heap.size w0 w
  ge : w0.heap.size ≤ sb
  box : w.heap[sb]? = some (.cells #[.slice a n cap] 64 (0, 0))
  own : OwnO w w0.heap.size (.slice a n c0) es
  nc : n ≤ cap
  cc : cap ≤ c0
  ne : ∀ k, (Value.slice a n c0).ownBlock = some k → k ≠ sb
  few : es.length ≤ 51
theorem OHp.cell {w0 w : World} {sb n cap c0 : Nat} {a : Option Addr} {es : List Off} (h : OHp w0 w sb a n cap c0 es) : w.cell? ⟨sb, 0, none⟩ = some (.slice a n cap) := by simp [World.cell?, h.box]
theorem OHp.lt {w0 w : World} {sb n cap c0 : Nat} {a : Option Addr} {es : List Off} (h : OHp w0 w sb a n cap c0 es) : sb < w.heap.size := World.block_lt_of_cell? w _ h.cell
theorem OHp.rd {w0 w : World} {sb n cap c0 : Nat} {a : Option Addr} {es : List Off} (h : OHp w0 w sb a n cap c0 es) : RdO w (.slice a n cap) es := h.own.rd.narrow h.nc h.cc
theorem OHp.len {w0 w : World} {sb n cap c0 : Nat} {a : Option Addr} {es : List Off} (h : OHp w0 w sb a n cap c0 es) : n = es.length := (ownO_shape h.own).1
theorem OHp.below {w0 w w' : World} {sb n cap c0 : Nat} {a : Option Addr} {es : List Off} (h : OHp w0 w sb a n cap c0 es) (hb : Below w.heap.size w w') : OHp w0 w' sb a n cap c0 es :=
  ⟨h.bel.trans (hb.mono h.bel.size), h.ge, (hb.block sb h.lt).trans h.box, h.own.below hb, h.nc, h.cc, h.ne, h.few⟩
/-- What a call has turned: nothing that was there but the variable and its row. -/
structure OHop (w : World) (a : Option Addr) (sb : Nat) (w' : World) : Prop where
  size : w.heap.size ≤ w'.heap.size
  block : ∀ k, k < w.heap.size → k ≠ sb → (Value.slice a 0 0).ownBlock ≠ some k → w'.heap[k]? = w.heap[k]?
theorem OHop.refl (w : World) (a : Option Addr) (sb : Nat) : OHop w a sb w := ⟨Nat.le_refl _, fun _ _ _ _ => rfl⟩
theorem OHop.trans {w w1 w2 : World} {a : Option Addr} {sb : Nat} (h : OHop w a sb w1) (k : OHop w1 a sb w2) : OHop w a sb w2 :=
  ⟨Nat.le_trans h.size k.size, fun i hi hs hv => (k.block i (Nat.lt_of_lt_of_le hi h.size) hs hv).trans (h.block i hi hs hv)⟩
theorem OHop.below {w w' : World} {a : Option Addr} {sb : Nat} (h : Below w.heap.size w w') : OHop w a sb w' := ⟨h.size, fun k hk _ _ => h.block k hk⟩
theorem OV_set : ∀ (es : List Off) (i : Nat) (x : Off), i < es.length → OV (es.set i x) = ((OV es).set (i * 2) (.int .i64 x.fee)).set (i * 2 + 1) (.string x.text)
  | [], i, s, h => by simp at h
  | a :: r, 0, s, _ => by
    rw [List.set_cons_zero, OV_cons, OV_cons]
    simp [OC]
  | a :: r, i + 1, s, h => by
    rw [List.set_cons_succ, OV_cons, OV_cons, OV_set r i s (by simpa using h)]
    have e1 : (i + 1) * 2 = i * 2 + 2 := by omega
    rw [e1]
    simp [OC]
theorem oswap_row {w : World} {base g n c0 : Nat} {es : List Off} {i j : Nat} (hown : OwnO w base (.slice (some ⟨g, 0, none⟩) n c0) es) (hi : i < es.length) (hj : j < es.length) :
    OwnO ((((w.setCell ⟨g, i * 2, none⟩ (.int .i64 (nthO es j).fee)).setCell ⟨g, i * 2 + 1, none⟩ (.string (nthO es j).text)).setCell ⟨g, j * 2, none⟩ (.int .i64 (nthO es i).fee)).setCell ⟨g, j * 2 + 1, none⟩ (.string (nthO es i).text)) base (.slice (some ⟨g, 0, none⟩) n c0) (swO es i j) ∧
    w.grownBy ((((w.setCell ⟨g, i * 2, none⟩ (.int .i64 (nthO es j).fee)).setCell ⟨g, i * 2 + 1, none⟩ (.string (nthO es j).text)).setCell ⟨g, j * 2, none⟩ (.int .i64 (nthO es i).fee)).setCell ⟨g, j * 2 + 1, none⟩ (.string (nthO es i).text)) (some g) := by
  obtain ⟨hn, _⟩ := ownO_shape hown
  subst hn
  have r1 := World.ownsRow.stored hown (i * 2) (.int .i64 (nthO es j).fee)
  have r2 := World.ownsRow.stored r1.1 (i * 2 + 1) (.string (nthO es j).text)
  have r3 := World.ownsRow.stored r2.1 (j * 2) (.int .i64 (nthO es i).fee)
  have r4 := World.ownsRow.stored r3.1 (j * 2 + 1) (.string (nthO es i).text)
  have tr : ∀ {a b c : World}, a.grownBy b (some g) → b.grownBy c (some g) → a.grownBy c (some g) := fun h k =>
    ⟨k.os.trans h.os, k.tape.trans h.tape, k.output.trans h.output, Nat.le_trans h.size k.size, fun i hi hr => (k.block i (Nat.lt_of_lt_of_le hi h.size) hr).trans (h.block i hi hr)⟩
  refine ⟨?_, tr (tr (tr r1.2 r2.2) r3.2) r4.2⟩
  have e : OV (swO es i j) = ((((OV es).set (i * 2) (.int .i64 (nthO es j).fee)).set (i * 2 + 1) (.string (nthO es j).text)).set (j * 2) (.int .i64 (nthO es i).fee)).set (j * 2 + 1) (.string (nthO es i).text) := by
    unfold swO
    rw [OV_set _ j _ (by simpa using hj), OV_set _ i _ hi]
  unfold OwnO
  rw [e, swO_len]
  exact r4.1
set_option maxHeartbeats 4000000 in
set_option maxRecDepth 100000 in
theorem oswap_any (w : World) (base g n cap c0 : Nat) (es : List Off) (i j : Nat) (hown : OwnO w base (.slice (some ⟨g, 0, none⟩) n c0) es) (_hnc : n ≤ cap) (hcc : cap ≤ c0) (hi : i < es.length) (hj : j < es.length) :
    Calls Try.prog 78 #[.slice (some ⟨g, 0, none⟩) n cap, .int .i64 i, .int .i64 j] w fun e w' => e = .returned (.tuple #[]) ∧ OwnO w' base (.slice (some ⟨g, 0, none⟩) n c0) (swO es i j) ∧ w.grownBy w' (some g) := by
  obtain ⟨hn, hlc, hcm, _⟩ := ownO_shape hown
  have hso := hown
  unfold OwnO at hso
  rw [← hn] at hso
  obtain ⟨k1, k2⟩ := ownO_cell hso hn i (by omega)
  obtain ⟨k3, k4⟩ := ownO_cell hso hn j (by omega)
  have f1 := World.ownsRow.frozenAt hso (i * 2)
  have f2 := World.ownsRow.frozenAt hso (i * 2 + 1)
  have f3 := World.ownsRow.frozenAt hso (j * 2)
  have f4 := World.ownsRow.frozenAt hso (j * 2 + 1)
  have R := oswap_row hown hi hj
  generalize hs' : swO es i j = es2 at R
  obtain ⟨x, hx⟩ : ∃ x, x = nthO es i := ⟨_, rfl⟩
  obtain ⟨y, hy⟩ : ∃ y, y = nthO es j := ⟨_, rfl⟩
  rw [← hx] at k1 k2 R
  rw [← hy] at k3 k4 R
  have HR : Hid (_ ∧ _) := R
  have hic : i < n := by omega
  have hjc : j < n := by omega
  have hcm2 : cap ≤ maxLen := Nat.le_trans hcc hcm
  unfold maxLen at hcm2
  by_cases hij : i = j
  · subst hij
    obtain rfl : y = x := by rw [hx, hy]
    clear hso hown R hx hy hs' hn hlc hcm hcc hi hj
    go_enter Try.func78, Try.ntmps78
    go_wp2
    go_region
    all_goals (go_end0; exact ⟨rfl, HR.out.1, gr_drO HR.out.2⟩)
  · have hji : ¬ j = i := fun e => hij e.symm
    clear hso hown R hx hy hs' hn hlc hcm hcc hi hj
    go_enter Try.func78, Try.ntmps78
    go_wp2
    go_region
    all_goals (go_end0; exact ⟨rfl, HR.out.1, gr_drO HR.out.2⟩)
where
  gr_drO {a w : World} {row : Option Nat} (h : a.grownBy w row) : a.grownBy w.drew row := ⟨h.os, h.tape, h.output, h.size, h.block⟩
theorem OHp.swapped {w0 w w' : World} {sb g n cap c0 : Nat} {es es2 : List Off} (h : OHp w0 w sb (some ⟨g, 0, none⟩) n cap c0 es) (ho : OwnO w' w0.heap.size (.slice (some ⟨g, 0, none⟩) n c0) es2) (hg : w.grownBy w' (some g)) (hl : es2.length = es.length) :
    OHp w0 w' sb (some ⟨g, 0, none⟩) n cap c0 es2 ∧ OHop w (some ⟨g, 0, none⟩) sb w' := by
  have hgs : g ≠ sb := h.ne g rfl
  have hgB : w0.heap.size ≤ g := (World.ownsRow.lt h.own g rfl).1
  refine ⟨⟨h.bel.grown hg h.bel.size (fun k hk => by cases hk; exact hgB), h.ge, (hg.block sb h.lt (fun e => hgs (by simpa using e.symm))).trans h.box, ho, h.nc, h.cc, h.ne, by rw [hl]; exact h.few⟩, ⟨hg.size, fun k hk _ hv => hg.block k hk (fun e => hv (by rw [e]; rfl))⟩⟩
theorem oswapH_at (w0 w : World) (sb n cap c0 : Nat) (a : Option Addr) (es : List Off) (i j : Nat) (x y : Int) (hx : x = (i : Int)) (hy : y = (j : Int)) (h : OHp w0 w sb a n cap c0 es) (hi : i < es.length) (hj : j < es.length) :
    Calls Try.prog 78 #[.slice a n cap, .int .i64 x, .int .i64 y] w fun e w' => e = .returned (.tuple #[]) ∧ OHp w0 w' sb a n cap c0 (swO es i j) ∧ OHop w a sb w' := by
  subst hx; subst hy
  obtain ⟨hn, _, _, hg⟩ := ownO_shape h.own
  obtain ⟨g, rfl⟩ := hg (by omega)
  refine (oswap_any w _ g n cap c0 es i j h.own h.nc h.cc hi hj).mono ?_
  rintro e w' ⟨he, ho, hg⟩
  exact ⟨he, h.swapped ho hg (swO_len es i j)⟩
set_option maxHeartbeats 4000000 in
set_option maxRecDepth 100000 in
theorem oup_any (w0 w : World) (sb n cap c0 : Nat) (a : Option Addr) (es : List Off) (j : Nat) (x : Int) (hx : x = (j : Int)) (h : OHp w0 w sb a n cap c0 es) (hj : j < es.length) :
    Calls Try.prog 53 #[.iface 61 (.pointer (some ⟨sb, 0, none⟩)), .int .i64 x] w fun e w' => e = .returned (.tuple #[]) ∧ OHp w0 w' sb a n cap c0 (upL es j) ∧ OHop w a sb w' := by
  subst hx
  have hf := h.few
  obtain ⟨R, hR⟩ : ∃ R, R = upL es j := ⟨_, rfl⟩
  rw [← hR]
  go_enter Try.func53, Try.ntmps53
  go_wp2
  go_loopw [1] (fun jv wr => ∃ (jn : Nat) (es1 : List Off), jv = .int .i64 jn ∧ jn < es1.length ∧ jn ≤ 51 ∧ OHp w0 wr sb a n cap c0 es1 ∧ Hid (upL es1 jn = R) ∧ OHop w a sb wr) (fun jv _ => (intOf jv).toNat)
  case atStart => exact ⟨j, es, rfl, hj, by omega, h, hR.symm, OHop.refl _ _ _⟩
  case round =>
    obtain ⟨jn, es1, rfl, hj1, hj20, h1, HU, hop⟩ := hrel
    clear h hj hR
    cases jn with
    | zero =>
      have HE : Hid (OHp w0 wr sb a n cap c0 R ∧ OHop w a sb wr) := ⟨by rw [← HU.out, upL_zero]; exact h1, hop⟩
      clear h1 hop
      go_wp2
      go_end0
      exact ⟨rfl, HE.out⟩
    | succ m =>
      obtain ⟨i, hi⟩ : ∃ i, i = m / 2 := ⟨_, rfl⟩
      have hii : i < es1.length := by omega
      have him : i < m + 1 := by omega
      have hpi : (m + 1 - 1) / 2 = i := by omega
      have hq := o_Less wr sb _ h1.cell
      cases hl : ahO (nthO es1 (m + 1)) (nthO es1 i) with
      | true =>
        have HU2 : Hid (upL (swO es1 i (m + 1)) i = R) := by
          have := upL_go (es := es1) (i := m + 1) (by omega) (by rw [hpi]; exact hl)
          rw [hpi] at this
          exact this.symm.trans HU.out
        go_wp2_with fail
        refine (oless_at _ es1 (m + 1) i _ _ true _ ?e1 ?e2 h1.rd hj1 hii hl).mono ?_
        case e1 => omega
        case e2 => omega
        rintro e w2 ⟨rfl, hb2⟩
        have h2 := h1.below hb2
        have hop2 := hop.trans (OHop.below hb2)
        have hq2 := o_Swap w2 sb _ h2.cell
        clear h1 hop hb2 hq
        go_wp2_with fail
        refine (oswapH_at w0 _ sb n cap c0 a es1 i (m + 1) _ _ ?e3 ?e4 h2 hii hj1).mono ?_
        case e3 => omega
        case e4 => omega
        rintro e w3 ⟨rfl, h3, hop3⟩
        have hop4 := hop2.trans hop3
        clear h2 hop2 hop3 hq2
        go_wp2
        go_roundw
        case rel => exact ⟨i, _, by first | rfl | go_num | (congr 1; omega), by rw [swO_len]; exact hii, by omega, h3, HU2, hop4⟩
        case measure => simp [intOf]; omega
      | false =>
        have HS : Hid (es1 = R) := (upL_stop (es := es1) (i := m + 1) (by rw [hpi]; exact hl)).symm.trans HU.out
        go_wp2_with fail
        refine (oless_at _ es1 (m + 1) i _ _ false _ ?e1 ?e2 h1.rd hj1 hii hl).mono ?_
        case e1 => omega
        case e2 => omega
        rintro e w2 ⟨rfl, hb2⟩
        have HE : Hid (OHp w0 w2 sb a n cap c0 R ∧ OHop w a sb w2) := ⟨by rw [← HS.out]; exact h1.below hb2, hop.trans (OHop.below hb2)⟩
        clear h1 hop hb2 hq
        go_wp2
        go_end0
        exact ⟨rfl, HE.out⟩
end Go.Proofs.Yteohiicaiilicaa
