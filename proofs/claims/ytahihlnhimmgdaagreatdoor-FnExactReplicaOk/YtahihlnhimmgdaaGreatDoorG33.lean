/- A voter's map: its keys are of two numbers, its elements Blocks. The contracts of the program's Proof.key and voter.knows. -/
import Derived.Test.YtahihlnhimmgdaaGreatDoorG30
import Derived.Carry
import Derived.DeepKeys4
import Derived.MapKept
import Derived.WideKeyMaps
import Derived.Test.YtahihlnhimmgdaaGreatDoorG04
import Derived.Test.YtahihlnhimmgdaaGreatDoorPrfSpec
-- UNF Gen
namespace Go.Proofs.YtahihlnhimmgdaaGreatDoor
open Go.RowKit Go.WideMaps
theorem Tryz.laidOutV : laidOutB Tryz.prog = true := by kernel_rfl
theorem rowKeyV : (199 : TypeId) < Tryz.prog.types.size := of_decide_eq_true (by kernel_rfl)
theorem wideKeyV : (match Tryz.prog.underlying 199 with | some (.array _ _) | some (.struct _) => true | _ => false) = true := by kernel_rfl
set_option maxRecDepth 100000 in
theorem lawKeyV : KeyLaw Tryz.prog 199 := deep_law_laid Tryz.laidOutV (m := 3) (by omega) rowKeyV (by kernel_rfl) wideKeyV
def keyV (v n : Int) : Value := .agg #[.int .i64 v, .int .i64 n]
theorem keyV_inj {a b c d : Int} (h : keyV a b = keyV c d) : a = c ∧ b = d := by
  unfold keyV at h
  simp at h
  exact h
theorem keyTypeV : Tryz.prog.keyType 199 = true := by kernel_rfl
theorem cellsKeyV : Tryz.prog.cellsOf 199 = 2 := by kernel_rfl
theorem cellsIntV : Tryz.prog.cellsOf 2 = 1 := by kernel_rfl
theorem sizeVK : ∃ m, Tryz.prog.types.size = m + 1 + 1 := ⟨Tryz.prog.types.size - 2, by
  have h : (3 : Nat) < Tryz.prog.types.size := of_decide_eq_true (by kernel_rfl)
  omega⟩
theorem wfV {v : Int} (h : -9223372036854775808 ≤ v ∧ v ≤ 9223372036854775807) : (Lit.int .i64 v).wf = true := by
  have h1 : IntKind.i64.min = -9223372036854775808 := by decide
  have h2 : IntKind.i64.max = 9223372036854775807 := by decide
  simp only [Lit.wf, h1, h2, Bool.and_eq_true, decide_eq_true_eq]
  exact h
theorem keyLitV (v n : Int) (hv : -9223372036854775808 ≤ v ∧ v ≤ 9223372036854775807) (hn : -9223372036854775808 ≤ n ∧ n ≤ 9223372036854775807) : ∃ l, keyOf Tryz.prog 199 (keyV v n) = some l := by
  have wv : (Lit.int .i64 v).wf = true := wfV hv
  have wn : (Lit.int .i64 n).wf = true := wfV hn
  obtain ⟨m, hm⟩ := sizeVK
  refine ⟨.string (keyBytes [.int .i64 v, .int .i64 n]), ?_⟩
  have hu := Tryz.underlying199
  have hi := Tryz.underlying2
  unfold keyOf
  simp only [hu]
  rw [if_pos (by simp [keyTypeV, Value.formed, hu, cellsKeyV, keyV]), hm]
  unfold Program.keyLits
  simp only [hu, keyV, Value.cells]
  rw [if_pos (by rw [cellsKeyV]; exact ⟨rfl, by kernel_rfl⟩)]
  simp [cellsIntV, Program.keyLits, hi, wv, wn]
/-- What the map's entries are. -/
def MapR (es : Array MapEntry) (Ms : List BlX) : Prop := es.toList.map (fun e => (e.key, e.val)) = Ms.map (fun M => (keyV M.b.vw (namN M.b), BsA M))
theorem MapR.key {es : Array MapEntry} {Ms : List BlX} (h : MapR es Ms) {e : MapEntry} (he : e ∈ es.toList) : ∃ M ∈ Ms, e.key = keyV M.b.vw (namN M.b) ∧ e.val = BsA M := by
  have h1 : (e.key, e.val) ∈ es.toList.map (fun e => (e.key, e.val)) := List.mem_map.2 ⟨e, he, rfl⟩
  rw [h] at h1
  obtain ⟨M, hM, hE⟩ := List.mem_map.1 h1
  have h2 := Prod.mk.inj hE
  exact ⟨M, hM, h2.1.symm, h2.2.symm⟩
theorem MapR.ent {es : Array MapEntry} {Ms : List BlX} (h : MapR es Ms) {M : BlX} (hM : M ∈ Ms) : ∃ e ∈ es.toList, e.key = keyV M.b.vw (namN M.b) ∧ e.val = BsA M := by
  have h1 : (keyV M.b.vw (namN M.b), BsA M) ∈ Ms.map (fun M => (keyV M.b.vw (namN M.b), BsA M)) := List.mem_map.2 ⟨M, hM, rfl⟩
  rw [← h] at h1
  obtain ⟨e, he, hE⟩ := List.mem_map.1 h1
  have h2 := Prod.mk.inj hE
  exact ⟨e, he, h2.1, h2.2⟩
def FitMs (Ms : List BlX) : Prop := ∀ M ∈ Ms, -9223372036854775808 ≤ M.b.vw ∧ M.b.vw ≤ 9223372036854775807
theorem MapR.lits {es : Array MapEntry} {Ms : List BlX} (h : MapR es Ms) (hf : FitMs Ms) : ∀ e ∈ es.toList, ∃ l, keyOf Tryz.prog 199 e.key = some l := fun e he => by
  obtain ⟨M, hM, hk, -⟩ := h.key he
  rw [hk]
  have := namN_in M.b
  exact keyLitV _ _ (hf M hM) (by omega)
theorem zero_blockV (w : World) : (zeroValue 34).run Tryz.prog w = .ok (.agg #[.int .i64 0, .int .i64 0, .int .i64 0, .int .i64 0, .slice none 0 0, .slice none 0 0, .slice none 0 0, .int .i64 0]) w := by kernel_rfl
/-- Does the map have an entry of this View and Name, and which? -/
theorem look_any {Ms : List BlX} {es : Array MapEntry} (hR : MapR es Ms) (hf : FitMs Ms) (hU : ∀ M ∈ Ms, ∀ M' ∈ Ms, namN M.b = namN M'.b → M = M') (v n : Int) (hv : -9223372036854775808 ≤ v ∧ v ≤ 9223372036854775807) (hn : -9223372036854775808 ≤ n ∧ n ≤ 9223372036854775807) :
    (∃ M ∈ Ms, isB n v M.b = true ∧ ∀ (w : World) (r c : Nat), w.heap[r]? = some (.map es c) → (Instr.lookup 97 (.map (some r)) (keyV v n) true).run Tryz.prog w = .ok (.tuple #[BsA M, .bool true]) w) ∨
    ((∀ M ∈ Ms, isB n v M.b = false) ∧ ∀ (w : World) (r c : Nat), w.heap[r]? = some (.map es c) → (Instr.lookup 97 (.map (some r)) (keyV v n) true).run Tryz.prog w = .ok (.tuple #[.agg #[.int .i64 0, .int .i64 0, .int .i64 0, .int .i64 0, .slice none 0 0, .slice none 0 0, .slice none 0 0, .int .i64 0], .bool false]) w) := by
  obtain ⟨l, hl⟩ := keyLitV v n hv hn
  have hu : Tryz.prog.underlying 97 = some (.map 199 34) := by kernel_rfl
  by_cases hex : ∃ M ∈ Ms, isB n v M.b = true
  · obtain ⟨M0, hM0, hb0⟩ := hex
    unfold isB at hb0
    simp at hb0
    left
    refine ⟨M0, hM0, by unfold isB; simp [hb0], fun w r c hm => ?_⟩
    obtain ⟨e0, he0, hk0, hv0⟩ := hR.ent hM0
    rcases lawKeyV.find w hl es.toList (hR.lits hf) with ⟨h1, h2⟩ | ⟨j, e, h1, h2, h3⟩
    · exact absurd (by rw [hk0, hb0.1, hb0.2]) (h2 e0 he0)
    · obtain ⟨M, hM, hk, hval⟩ := hR.key (List.mem_of_getElem? h2)
      rw [h3] at hk
      obtain ⟨hkv, hkn⟩ := keyV_inj hk
      have hMM : M = M0 := hU M hM M0 hM0 (by rw [← hkn, hb0.2])
      subst hMM
      have hc := lawKeyV.check w es.isEmpty hl
      simp [Instr.lookup, run_underlying hu, MapKept.run_getObj_map hm, hc, h1, hval, Result.andThen]
  · right
    refine ⟨fun M hM => by cases h : isB n v M.b with | false => rfl | true => exact absurd ⟨M, hM, h⟩ hex, fun w r c hm => ?_⟩
    rcases lawKeyV.find w hl es.toList (hR.lits hf) with ⟨h1, h2⟩ | ⟨j, e, h1, h2, h3⟩
    · have hc := lawKeyV.check w es.isEmpty hl
      simp [Instr.lookup, run_underlying hu, MapKept.run_getObj_map hm, hc, h1, zero_blockV w, Result.andThen]
    · exfalso
      obtain ⟨M, hM, hk, -⟩ := hR.key (List.mem_of_getElem? h2)
      rw [h3] at hk
      obtain ⟨hkv, hkn⟩ := keyV_inj hk
      exact hex ⟨M, hM, by unfold isB; simp [← hkv, ← hkn]⟩
/-- A new entry. -/
theorem put_any {Ms : List BlX} {es : Array MapEntry} (hR : MapR es Ms) (hf : FitMs Ms) (M : BlX) (hM : -9223372036854775808 ≤ M.b.vw ∧ M.b.vw ≤ 9223372036854775807) (hnew : ∀ M' ∈ Ms, namN M'.b ≠ namN M.b) (w : World) (r c : Nat) (hm : w.heap[r]? = some (.map es c)) :
    ∃ es' w', (Instr.mapUpdate 97 (.map (some r)) (keyV M.b.vw (namN M.b)) (BsA M)).run Tryz.prog w = .ok () w' ∧ w'.heap[r]? = some (.map es' (c + 1)) ∧ MapR es' (Ms ++ [M]) ∧ Touch [r] w w' := by
  obtain ⟨l, hl⟩ := keyLitV M.b.vw (namN M.b) hM (by have := namN_in M.b; omega)
  have hu : Tryz.prog.underlying 97 = some (.map 199 34) := by kernel_rfl
  have hc := lawKeyV.check w false hl
  have hlt : r < w.heap.size := (Array.getElem?_eq_some_iff.1 hm).1
  rcases lawKeyV.find w hl es.toList (hR.lits hf) with ⟨h1, h2⟩ | ⟨j, e, h1, h2, h3⟩
  · refine ⟨es.push { key := keyV M.b.vw (namN M.b), val := BsA M, born := c }, { w with heap := w.heap.setIfInBounds r (.map (es.push { key := keyV M.b.vw (namN M.b), val := BsA M, born := c }) (c + 1)) }, ?_, ?_, ?_, ?_⟩
    · simp [Instr.mapUpdate, run_underlying hu, MapKept.run_getObj_map hm, hc, h1, MapKept.run_setObj_map _ hm, Result.andThen]
    · exact (MapKept.heap_set hm).1
    · unfold MapR at hR ⊢
      simp only [Array.toList_push, List.map_append, hR, List.map_cons, List.map_nil]
    · exact ⟨rfl, rfl, rfl, by simp, fun k _ hk => (MapKept.heap_set hm).2 k (fun e => hk (by simp [e]))⟩
  · exfalso
    obtain ⟨M', hM', hk, -⟩ := hR.key (List.mem_of_getElem? h2)
    rw [h3] at hk
    exact hnew M' hM' (keyV_inj hk).2.symm
end Go.Proofs.YtahihlnhimmgdaaGreatDoor
-- UNF Gen
namespace Go.Proofs.YtahihlnhimmgdaaGreatDoor
open Go.RowKit
theorem listed_asV {P : Program} {md : Region.Mode} {ops : Array Oper} {Q : Exit → Act → World → Prop} {S : World → Prop} {fuel : Nat} {l l' : Array Bool} {a : Act} {w : World} (hl : l = l') (h : wpAnyH P md ops Q S fuel l' a w) : wpAnyH P md ops Q S fuel l a w := by subst hl; exact h
set_option maxHeartbeats 1000000 in
set_option maxRecDepth 100000 in
theorem key_any (pv pn : Int) (a1 a2 : Option Addr) (l1 k1 l2 k2 : Nat) (w : World) :
    Calls Tryz.prog 187 #[.agg #[.int .i64 pv, .int .i64 pn, .slice a1 l1 k1, .slice a2 l2 k2]] w fun e w' => e = .returned (.agg #[.int .i64 pv, .int .i64 pn]) ∧ Below w.heap.size w w' := by
  have hb := below1 w (.cells #[.int .i64 pv, .int .i64 pn, .slice a1 l1 k1, .slice a2 l2 k2] 26)
  go_enter Tryz.func187, Tryz.ntmps187
  go_wp2
  refine bodyPost_ret (v := .agg #[.int .i64 pv, .int .i64 pn]) (by simp [results, Tryz.results187, go_sem]) rfl ⟨rfl, by first | exact (hb.alloc (by simp) _) | exact ((hb.alloc (by simp) _).setCell (by simp) _)⟩
set_option maxHeartbeats 4000000 in
set_option maxRecDepth 100000 in
theorem knows_at (g r : Nat) (pv pn : Int) (a1 a2 : Option Addr) (l1 k1 l2 k2 : Nat) (ua ub uc ud ue : Int) (x1 x2 x3 : Option Addr) (y1 z1 y2 z2 y3 z3 : Nat) (is f : Bool) (w : World) (hg : g < w.heap.size) (hc : w.cell? ⟨g, 15, none⟩ = some (.map (some r)))
    (hL : ∀ W', Below w.heap.size w W' → (Instr.lookup 97 (.map (some r)) (.agg #[.int .i64 pv, .int .i64 pn]) true).run Tryz.prog W' = .ok (.tuple #[.agg #[.int .i64 ua, .int .i64 ub, .int .i64 uc, .int .i64 ud, .slice x1 y1 z1, .slice x2 y2 z2, .slice x3 y3 z3, .int .i64 ue], .bool is]) W') (hfr : (decide (pv = 0) && (decide (pn = 0) && (decide (l1 = 0) && decide (l2 = 0)))) = f) :
    Calls Tryz.prog 166 #[.pointer (some ⟨g, 0, none⟩), .agg #[.int .i64 pv, .int .i64 pn, .slice a1 l1 k1, .slice a2 l2 k2]] w fun e w' => e = .returned (.bool (is || f)) ∧ Below w.heap.size w w' := by
  have FS : Hid (∀ W', Below w.heap.size w W' → Bx W' w.heap.size 26 #[.int .i64 pv, .int .i64 pn, .slice a1 l1 k1, .slice a2 l2 k2] → W'.cell? ⟨g, 15, none⟩ = some (.map (some r)) ∧ W'.cell? ⟨w.heap.size, 0, none⟩ = some (.int .i64 pv) ∧ W'.cell? ⟨w.heap.size, 1, none⟩ = some (.int .i64 pn) ∧ W'.cell? ⟨w.heap.size, 2, none⟩ = some (.slice a1 l1 k1) ∧ W'.cell? ⟨w.heap.size, 3, none⟩ = some (.slice a2 l2 k2) ∧ (Instr.lookup 97 (.map (some r)) (.agg #[.int .i64 pv, .int .i64 pn]) true).run Tryz.prog W' = .ok (.tuple #[.agg #[.int .i64 ua, .int .i64 ub, .int .i64 uc, .int .i64 ud, .slice x1 y1 z1, .slice x2 y2 z2, .slice x3 y3 z3, .int .i64 ue], .bool is]) W') := fun W' h x => ⟨(h.cell (p := ⟨g, 15, none⟩) hg).trans hc, x.c4.1, x.c4.2.1, x.c4.2.2.1, x.c4.2.2.2, hL W' h⟩
  have HF : Hid (∀ W, Calls Tryz.prog 183 #[.agg #[.int .i64 pv, .int .i64 pn, .slice a1 l1 k1, .slice a2 l2 k2]] W fun e w' => e = .returned (.bool f) ∧ Below W.heap.size W w') := fun W => isFirst_any pv pn a1 a2 l1 k1 l2 k2 f hfr W
  have HB := below1 w (.cells #[.int .i64 pv, .int .i64 pn, .slice a1 l1 k1, .slice a2 l2 k2] 26)
  have hx := bx_new w 26 #[.int .i64 pv, .int .i64 pn, .slice a1 l1 k1, .slice a2 l2 k2]
  obtain ⟨w1, hw1⟩ : ∃ w1, w1 = w.alloc (.cells #[.int .i64 pv, .int .i64 pn, .slice a1 l1 k1, .slice a2 l2 k2] 26) := ⟨_, rfl⟩
  clear hg hc hL hfr
  go_enter Tryz.func166, Tryz.ntmps166
  go_wp2_with fail
  rw [← hw1] at HB hx ⊢
  clear hw1
  refine wp_region_noPanic ?_
  refine wp_region_held_drew (S := fun W' : World => W'.cell? ⟨g, 15, none⟩ = some (.map (some r)) ∧ W'.cell? ⟨w.heap.size, 0, none⟩ = some (.int .i64 pv) ∧ W'.cell? ⟨w.heap.size, 1, none⟩ = some (.int .i64 pn) ∧ W'.cell? ⟨w.heap.size, 2, none⟩ = some (.slice a1 l1 k1) ∧ W'.cell? ⟨w.heap.size, 3, none⟩ = some (.slice a2 l2 k2) ∧ (Instr.lookup 97 (.map (some r)) (.agg #[.int .i64 pv, .int .i64 pn]) true).run Tryz.prog W' = .ok (.tuple #[.agg #[.int .i64 ua, .int .i64 ub, .int .i64 uc, .int .i64 ud, .slice x1 y1 z1, .slice x2 y2 z2, .slice x3 y3 z3, .int .i64 ue], .bool is]) W') (by kernel_rfl) (FS.out _ HB.drew (Bx.of_block hx rfl)) (fun hS => ?_)
  replace HB := HB.drew
  replace hx : Bx w1.drew w.heap.size 26 #[.int .i64 pv, .int .i64 pn, .slice a1 l1 k1, .slice a2 l2 k2] := hx
  refine tkG 0 8 hS ?_
  try simp only [Act.put, List.setIfInBounds_toArray, List.set_cons_zero, List.set_cons_succ]
  refine tkG 1 9 hS ?_
  try simp only [Act.put, List.setIfInBounds_toArray, List.set_cons_zero, List.set_cons_succ]
  refine tkG 2 10 hS ?_
  try simp only [Act.put, List.setIfInBounds_toArray, List.set_cons_zero, List.set_cons_succ]
  refine tkG 3 11 hS ?_
  try simp only [Act.put, List.setIfInBounds_toArray, List.set_cons_zero, List.set_cons_succ]
  refine tkG 4 12 hS ?_
  try simp only [Act.put, List.setIfInBounds_toArray, List.set_cons_zero, List.set_cons_succ]
  revert hS
  revert hx
  revert HB
  generalize w1.drew = V
  intro HB hx hS
  refine wpAnyH_ready (rs := [5, 10]) (by kernel_rfl) (by simp) ?_
  refine AllReadyH.cons rfl (fun K hK => ?_) ?_
  go_simp
  refine (key_any pv pn a1 a2 l1 k1 l2 k2 _).mono ?_
  rintro e V1 ⟨rfl, hb⟩
  replace HB := HB.trans (hb.mono HB.size)
  replace hx := hx.below hb
  clear hS hb
  refine hK.out _ _ (FS.out _ HB hx) (fun hS => ?_)
  clear hK K
  try simp only [List.setIfInBounds_toArray, List.set_cons_zero, List.set_cons_succ]
  refine tkG 6 14 hS ?_
  try simp only [Act.put, List.setIfInBounds_toArray, List.set_cons_zero, List.set_cons_succ]
  refine tkG 7 7 hS ?_
  try simp only [Act.put, List.setIfInBounds_toArray, List.set_cons_zero, List.set_cons_succ]
  refine tkG 8 15 hS ?_
  try simp only [Act.put, List.setIfInBounds_toArray, List.set_cons_zero, List.set_cons_succ]
  refine tkG 9 16 hS ?_
  try simp only [Act.put, List.setIfInBounds_toArray, List.set_cons_zero, List.set_cons_succ]
  clear hS
  refine listed_asV (l' := #[true, true, true, true, true, true, true, true, true, true, false, false, false]) (by kernel_rfl) ?_
  revert hx
  revert HB
  revert V1
  clear V
  refine ?kn5
  rotate_left 1
  refine AllReadyH.cons rfl (fun K hK => ?_) AllReadyH.nil
  refine step_objX rfl 5 rfl (.cells #[.int .i64 0, .int .i64 0, .int .i64 0, .int .i64 0, .slice none 0 0, .slice none 0 0, .slice none 0 0, .int .i64 0] 34) (.pointer (some ⟨V.heap.size, 0, none⟩)) (by go_simp; (try rfl)) ?_
  have hl := HB.size
  have hz := bx_new V 34 #[.int .i64 0, .int .i64 0, .int .i64 0, .int .i64 0, .slice none 0 0, .slice none 0 0, .slice none 0 0, .int .i64 0]
  replace HB := HB.alloc HB.size (.cells #[.int .i64 0, .int .i64 0, .int .i64 0, .int .i64 0, .slice none 0 0, .slice none 0 0, .slice none 0 0, .int .i64 0] 34)
  replace hx := hx.below (below1 V (.cells #[.int .i64 0, .int .i64 0, .int .i64 0, .int .i64 0, .slice none 0 0, .slice none 0 0, .slice none 0 0, .int .i64 0] 34))
  clear hS
  refine hK.out _ _ (FS.out _ HB hx) (fun hS => ?_)
  clear hK K
  try simp only [List.setIfInBounds_toArray, List.set_cons_zero, List.set_cons_succ]
  revert hS
  revert hx
  revert HB
  revert hz
  revert hl
  generalize V.alloc (.cells #[.int .i64 0, .int .i64 0, .int .i64 0, .int .i64 0, .slice none 0 0, .slice none 0 0, .slice none 0 0, .int .i64 0] 34) = V1
  generalize V.heap.size = zb
  intro hl hz HB hx hS
  clear hS
  refine listed_asV (l' := #[true, true, true, true, true, false, false, false, false, false, true, false, false]) (by kernel_rfl) ?_
  revert hl
  revert hz
  revert hx
  revert HB
  revert zb
  revert V1
  clear V
  refine ?kn10
  rotate_left 1
  intro V0 HB hx
  have hS : (fun W' : World => W'.cell? ⟨g, 15, none⟩ = some (.map (some r)) ∧ W'.cell? ⟨w.heap.size, 0, none⟩ = some (.int .i64 pv) ∧ W'.cell? ⟨w.heap.size, 1, none⟩ = some (.int .i64 pn) ∧ W'.cell? ⟨w.heap.size, 2, none⟩ = some (.slice a1 l1 k1) ∧ W'.cell? ⟨w.heap.size, 3, none⟩ = some (.slice a2 l2 k2) ∧ (Instr.lookup 97 (.map (some r)) (.agg #[.int .i64 pv, .int .i64 pn]) true).run Tryz.prog W' = .ok (.tuple #[.agg #[.int .i64 ua, .int .i64 ub, .int .i64 uc, .int .i64 ud, .slice x1 y1 z1, .slice x2 y2 z2, .slice x3 y3 z3, .int .i64 ue], .bool is]) W') V0 := (FS.out _ HB hx)
  refine wpAnyH_ready (rs := [10]) (by kernel_rfl) (by simp) ?_
  refine AllReadyH.cons rfl (fun K hK => ?_) AllReadyH.nil
  refine step_objX rfl 5 rfl (.cells #[.int .i64 0, .int .i64 0, .int .i64 0, .int .i64 0, .slice none 0 0, .slice none 0 0, .slice none 0 0, .int .i64 0] 34) (.pointer (some ⟨V0.heap.size, 0, none⟩)) (by go_simp; (try rfl)) ?_
  have hl := HB.size
  have hz := bx_new V0 34 #[.int .i64 0, .int .i64 0, .int .i64 0, .int .i64 0, .slice none 0 0, .slice none 0 0, .slice none 0 0, .int .i64 0]
  replace HB := HB.alloc HB.size (.cells #[.int .i64 0, .int .i64 0, .int .i64 0, .int .i64 0, .slice none 0 0, .slice none 0 0, .slice none 0 0, .int .i64 0] 34)
  replace hx := hx.below (below1 V0 (.cells #[.int .i64 0, .int .i64 0, .int .i64 0, .int .i64 0, .slice none 0 0, .slice none 0 0, .slice none 0 0, .int .i64 0] 34))
  clear hS
  refine hK.out _ _ (FS.out _ HB hx) (fun hS => ?_)
  clear hK K
  try simp only [List.setIfInBounds_toArray, List.set_cons_zero, List.set_cons_succ]
  revert hS
  revert hx
  revert HB
  revert hz
  revert hl
  generalize V0.alloc (.cells #[.int .i64 0, .int .i64 0, .int .i64 0, .int .i64 0, .slice none 0 0, .slice none 0 0, .slice none 0 0, .int .i64 0] 34) = V1
  generalize V0.heap.size = zb
  intro hl hz HB hx hS
  clear hS
  refine listed_asV (l' := #[true, true, true, true, true, true, true, true, true, true, true, false, false]) (by kernel_rfl) ?_
  revert hl
  revert hz
  revert hx
  revert HB
  revert zb
  revert V1
  clear V0
  refine ?kn510
  rotate_left 1
  intro V0 zb HB hx hz hl
  have hS : (fun W' : World => W'.cell? ⟨g, 15, none⟩ = some (.map (some r)) ∧ W'.cell? ⟨w.heap.size, 0, none⟩ = some (.int .i64 pv) ∧ W'.cell? ⟨w.heap.size, 1, none⟩ = some (.int .i64 pn) ∧ W'.cell? ⟨w.heap.size, 2, none⟩ = some (.slice a1 l1 k1) ∧ W'.cell? ⟨w.heap.size, 3, none⟩ = some (.slice a2 l2 k2) ∧ (Instr.lookup 97 (.map (some r)) (.agg #[.int .i64 pv, .int .i64 pn]) true).run Tryz.prog W' = .ok (.tuple #[.agg #[.int .i64 ua, .int .i64 ub, .int .i64 uc, .int .i64 ud, .slice x1 y1 z1, .slice x2 y2 z2, .slice x3 y3 z3, .int .i64 ue], .bool is]) W') V0 := (FS.out _ HB hx)
  refine wpAnyH_ready (rs := [5]) (by kernel_rfl) (by simp) ?_
  refine AllReadyH.cons rfl (fun K hK => ?_) AllReadyH.nil
  go_simp
  refine (key_any pv pn a1 a2 l1 k1 l2 k2 _).mono ?_
  rintro e V1 ⟨rfl, hb⟩
  replace HB := HB.trans (hb.mono HB.size)
  replace hx := hx.below hb
  replace hz := hz.below hb
  clear hS hb
  refine hK.out _ _ (FS.out _ HB hx) (fun hS => ?_)
  clear hK K
  try simp only [List.setIfInBounds_toArray, List.set_cons_zero, List.set_cons_succ]
  refine tkG 6 14 hS ?_
  try simp only [Act.put, List.setIfInBounds_toArray, List.set_cons_zero, List.set_cons_succ]
  refine tkG 7 7 hS ?_
  try simp only [Act.put, List.setIfInBounds_toArray, List.set_cons_zero, List.set_cons_succ]
  refine tkG 8 15 hS ?_
  try simp only [Act.put, List.setIfInBounds_toArray, List.set_cons_zero, List.set_cons_succ]
  refine tkG 9 16 hS ?_
  try simp only [Act.put, List.setIfInBounds_toArray, List.set_cons_zero, List.set_cons_succ]
  clear hS
  refine listed_asV (l' := #[true, true, true, true, true, true, true, true, true, true, true, false, false]) (by kernel_rfl) ?_
  revert hl
  revert hz
  revert hx
  revert HB
  revert zb
  revert V1
  clear V0
  exact ?kn510
  intro V0 zb HB hx hz hl
  have hS : (fun W' : World => W'.cell? ⟨g, 15, none⟩ = some (.map (some r)) ∧ W'.cell? ⟨w.heap.size, 0, none⟩ = some (.int .i64 pv) ∧ W'.cell? ⟨w.heap.size, 1, none⟩ = some (.int .i64 pn) ∧ W'.cell? ⟨w.heap.size, 2, none⟩ = some (.slice a1 l1 k1) ∧ W'.cell? ⟨w.heap.size, 3, none⟩ = some (.slice a2 l2 k2) ∧ (Instr.lookup 97 (.map (some r)) (.agg #[.int .i64 pv, .int .i64 pn]) true).run Tryz.prog W' = .ok (.tuple #[.agg #[.int .i64 ua, .int .i64 ub, .int .i64 uc, .int .i64 ud, .slice x1 y1 z1, .slice x2 y2 z2, .slice x3 y3 z3, .int .i64 ue], .bool is]) W') V0 := (FS.out _ HB hx)
  refine wpAnyH_ready (rs := [11]) (by kernel_rfl) (by simp) ?_
  refine AllReadyH.cons rfl (fun K hK => ?_) AllReadyH.nil
  obtain ⟨c0, c1, c2, c3, c4, c5, c6, c7⟩ := hz.c8
  obtain ⟨f0, f1, f2, f3, f4, f5, f6, f7⟩ := hz.f8
  have HNE : Hid (w.heap.size ≠ zb) := fun e => by have h1 := hx; rw [e] at h1; unfold Bx at h1 hz; rw [h1] at hz; injection hz with hz; injection hz with _ h2; exact absurd h2 (by decide)
  go_simp
  clear c0 c1 c2 c3 c4 c5 c6 c7 f0 f1 f2 f3 f4 f5 f6 f7 hS
  replace HB : Below w.heap.size w (World.setCell (World.setCell (World.setCell (World.setCell (World.setCell (World.setCell (World.setCell (World.setCell V0 ⟨zb, 0, none⟩ (.int .i64 ua)) ⟨zb, 1, none⟩ (.int .i64 ub)) ⟨zb, 2, none⟩ (.int .i64 uc)) ⟨zb, 3, none⟩ (.int .i64 ud)) ⟨zb, 4, none⟩ (.slice x1 y1 z1)) ⟨zb, 5, none⟩ (.slice x2 y2 z2)) ⟨zb, 6, none⟩ (.slice x3 y3 z3)) ⟨zb, 7, none⟩ (.int .i64 ue)) := ((((((((HB.setCell (p := ⟨zb, 0, none⟩) hl _).setCell (p := ⟨zb, 1, none⟩) hl _).setCell (p := ⟨zb, 2, none⟩) hl _).setCell (p := ⟨zb, 3, none⟩) hl _).setCell (p := ⟨zb, 4, none⟩) hl _).setCell (p := ⟨zb, 5, none⟩) hl _).setCell (p := ⟨zb, 6, none⟩) hl _).setCell (p := ⟨zb, 7, none⟩) hl _)
  replace hx : Bx (World.setCell (World.setCell (World.setCell (World.setCell (World.setCell (World.setCell (World.setCell (World.setCell V0 ⟨zb, 0, none⟩ (.int .i64 ua)) ⟨zb, 1, none⟩ (.int .i64 ub)) ⟨zb, 2, none⟩ (.int .i64 uc)) ⟨zb, 3, none⟩ (.int .i64 ud)) ⟨zb, 4, none⟩ (.slice x1 y1 z1)) ⟨zb, 5, none⟩ (.slice x2 y2 z2)) ⟨zb, 6, none⟩ (.slice x3 y3 z3)) ⟨zb, 7, none⟩ (.int .i64 ue)) w.heap.size 26 #[.int .i64 pv, .int .i64 pn, .slice a1 l1 k1, .slice a2 l2 k2] := (Bx.other (c := zb) (j := 7) (Bx.other (c := zb) (j := 6) (Bx.other (c := zb) (j := 5) (Bx.other (c := zb) (j := 4) (Bx.other (c := zb) (j := 3) (Bx.other (c := zb) (j := 2) (Bx.other (c := zb) (j := 1) (Bx.other (c := zb) (j := 0) hx HNE.out) HNE.out) HNE.out) HNE.out) HNE.out) HNE.out) HNE.out) HNE.out)
  refine hK.out _ _ (FS.out _ HB hx) (fun hS => ?_)
  clear hK K
  try simp only [List.setIfInBounds_toArray, List.set_cons_zero, List.set_cons_succ]
  clear hz hl HNE
  revert hS
  revert hx
  revert HB
  generalize (World.setCell (World.setCell (World.setCell (World.setCell (World.setCell (World.setCell (World.setCell (World.setCell V0 ⟨zb, 0, none⟩ (.int .i64 ua)) ⟨zb, 1, none⟩ (.int .i64 ub)) ⟨zb, 2, none⟩ (.int .i64 uc)) ⟨zb, 3, none⟩ (.int .i64 ud)) ⟨zb, 4, none⟩ (.slice x1 y1 z1)) ⟨zb, 5, none⟩ (.slice x2 y2 z2)) ⟨zb, 6, none⟩ (.slice x3 y3 z3)) ⟨zb, 7, none⟩ (.int .i64 ue)) = V1
  intro HB hx hS
  refine tkG 12 6 hS ?_
  try simp only [Act.put, List.setIfInBounds_toArray, List.set_cons_zero, List.set_cons_succ]
  clear hS
  refine listed_asV (l' := #[true, true, true, true, true, true, true, true, true, true, true, true, true]) (by kernel_rfl) ?_
  revert hx
  revert HB
  revert V1
  clear V0
  refine ?kn51011
  rotate_left 1
  intro V0 HB hx
  have hS : (fun W' : World => W'.cell? ⟨g, 15, none⟩ = some (.map (some r)) ∧ W'.cell? ⟨w.heap.size, 0, none⟩ = some (.int .i64 pv) ∧ W'.cell? ⟨w.heap.size, 1, none⟩ = some (.int .i64 pn) ∧ W'.cell? ⟨w.heap.size, 2, none⟩ = some (.slice a1 l1 k1) ∧ W'.cell? ⟨w.heap.size, 3, none⟩ = some (.slice a2 l2 k2) ∧ (Instr.lookup 97 (.map (some r)) (.agg #[.int .i64 pv, .int .i64 pn]) true).run Tryz.prog W' = .ok (.tuple #[.agg #[.int .i64 ua, .int .i64 ub, .int .i64 uc, .int .i64 ud, .slice x1 y1 z1, .slice x2 y2 z2, .slice x3 y3 z3, .int .i64 ue], .bool is]) W') V0 := (FS.out _ HB hx)
  refine wpAnyH_done (by kernel_rfl) ?_ _
  refine NoPanic.normal ?_
  clear hS
  obtain ⟨p0, p1, p2, p3⟩ := hx.c4
  cases is with
  | true =>
    go_wp2
    go_ret
    exact ⟨rfl, HB⟩
  | false =>
  go_wp2_with fail
  refine (HF.out _).mono ?_
  rintro e w5 ⟨rfl, hb5⟩
  have bz := HB.trans (hb5.mono HB.size)
  clear hb5 p0 p1 p2 p3 hx HB
  go_wp2
  go_ret
  exact ⟨rfl, bz⟩
end Go.Proofs.YtahihlnhimmgdaaGreatDoor
