/- The heap in memory: a row of what is left of some lists, behind a variable; its methods through an interface value. -/
import Derived.Test.YtihacdfchmobpaaHpTold
import Derived.Test.YtihacdfchmobpaaEntJoin
import Derived.Test.YtihacdfchmobpaaEntCmp
import Derived.Test.YtihacdfchmobpaaMrgSpec3
namespace Go.Proofs.Ytihacdfchmobpaa
open Go.RowKit
theorem run_wrapNil (P : Program) (w : World) (t : TypeId) (a : Addr) (n : String) : (Builtin.ssaWrapNilChk_ #[t] t #[.pointer (some a), strVal "", strVal n]).run P w = .ok (.pointer (some a)) w := rfl
/-- A method of a slice's type, called through an interface value that holds a pointer to one. -/
theorem run_method_val {P : Program} {w : World} {t elem se : TypeId} {K b f : Nat} {v : Value} {name : String} (hm : ((P.info? t).bind fun i => i.methods.find? (·.name == name)).map (fun m => (m.path, m.func)) = some (#[], some (K, false)))
    (hu : P.underlying t = some (.pointer elem)) (he : P.underlying elem = some (.slice se)) (h : w.cell? ⟨b, 0, none⟩ = some v) : (method (f + 1) t (.pointer (some ⟨b, 0, none⟩)) name).run P w = .ok (K, v) w := by
  obtain ⟨i, hi⟩ : ∃ i, P.info? t = some i := by
    cases h : P.info? t with
    | none => rw [h] at hm; simp at hm
    | some i => exact ⟨i, rfl⟩
  rw [hi] at hm
  obtain ⟨m, hm1⟩ : ∃ m, i.methods.find? (·.name == name) = some m := by
    cases h : i.methods.find? (·.name == name) with
    | none => simp only [Option.bind_some, h] at hm; simp at hm
    | some m => exact ⟨m, rfl⟩
  simp only [Option.bind_some, hm1, Option.map_some, Option.some.injEq, Prod.mk.injEq] at hm
  have h2 := run_wrapNil P w t ⟨b, 0, none⟩
  simp [method, typeInfo, hi, hm1, hm.1, hm.2, follow, receiverAt, underlying, hu, he, Place.get, h2, asAddr, loadVar, isAgg, h, Result.andThen]
theorem m_Len (w : World) (b : Nat) (v : Value) (h : w.cell? ⟨b, 0, none⟩ = some v) : (method 227 81 (.pointer (some ⟨b, 0, none⟩)) "Len").run Try.prog w = .ok (66, v) w :=
  run_method_val (by kernel_rfl) Try.underlying81 Try.underlying83 h
theorem m_Less (w : World) (b : Nat) (v : Value) (h : w.cell? ⟨b, 0, none⟩ = some v) : (method 227 81 (.pointer (some ⟨b, 0, none⟩)) "Less").run Try.prog w = .ok (97, v) w :=
  run_method_val (by kernel_rfl) Try.underlying81 Try.underlying83 h
theorem m_Swap (w : World) (b : Nat) (v : Value) (h : w.cell? ⟨b, 0, none⟩ = some v) : (method 227 81 (.pointer (some ⟨b, 0, none⟩)) "Swap").run Try.prog w = .ok (100, v) w :=
  run_method_val (by kernel_rfl) Try.underlying81 Try.underlying83 h
theorem m_Push (w : World) (b : Nat) : (method 227 81 (.pointer (some ⟨b, 0, none⟩)) "Push").run Try.prog w = .ok (99, .pointer (some ⟨b, 0, none⟩)) w := by kernel_rfl
theorem m_Pop (w : World) (b : Nat) : (method 227 81 (.pointer (some ⟨b, 0, none⟩)) "Pop").run Try.prog w = .ok (98, .pointer (some ⟨b, 0, none⟩)) w := by kernel_rfl
theorem Try.info96 : (Try.prog.info? 96).map (fun i => (i.zero, i.size, i.bytes)) = some (some (.agg #[.slice none 0 0, .int .i64 0]), 2, 32) := by kernel_rfl
def HCs (s : Src) : List Value := [s.v, .int .i64 s.no]
def HV (hs : List Src) : List Value := hs.flatMap HCs
theorem HV_length : ∀ hs : List Src, (HV hs).length = hs.length * 2
  | [] => rfl
  | a :: r => by
    have := HV_length r
    unfold HV at this ⊢
    rw [List.flatMap_cons, List.length_append, this, List.length_cons]
    simp [HCs]; omega
theorem HV_append (a b : List Src) : HV (a ++ b) = HV a ++ HV b := by simp [HV]
theorem HV_one (s : Src) : HV [s] = HCs s := by simp [HV]
theorem HV_cons (a : Src) (r : List Src) : HV (a :: r) = HCs a ++ HV r := by simp [HV]
theorem sN_zero (a : Src) (r : List Src) : sN (a :: r) 0 = a := rfl
theorem sN_succ (a : Src) (r : List Src) (i : Nat) : sN (a :: r) (i + 1) = sN r i := rfl
theorem HV_get : ∀ (hs : List Src) (i : Nat), i < hs.length → ∀ j, j < 2 → (HV hs)[i * 2 + j]? = (HCs (sN hs i))[j]?
  | [], i, h, _, _ => by simp at h
  | a :: r, 0, _, j, hj => by
    rw [HV_cons, sN_zero, Nat.zero_mul, Nat.zero_add, List.getElem?_append_left (by simp [HCs]; exact hj)]
  | a :: r, i + 1, h, j, hj => by
    rw [HV_cons, sN_succ, ← HV_get r i (by simpa using h) j hj, List.getElem?_append_right (by simp [HCs]; omega)]
    congr 1
    simp [HCs]; omega
theorem HV_set : ∀ (hs : List Src) (i : Nat) (s : Src), i < hs.length → HV (hs.set i s) = ((HV hs).set (i * 2) s.v).set (i * 2 + 1) (.int .i64 s.no)
  | [], i, s, h => by simp at h
  | a :: r, 0, s, _ => by
    rw [List.set_cons_zero, HV_cons, HV_cons]
    simp [HCs]
  | a :: r, i + 1, s, h => by
    rw [List.set_cons_succ, HV_cons, HV_cons, HV_set r i s (by simpa using h)]
    have e1 : (i + 1) * 2 = i * 2 + 2 := by omega
    rw [e1]
    simp [HCs]
/-- What is left of a list lies at offset o of block b. -/
def SrcAt (w : World) (b o : Nat) (s : Src) : Prop := w.cell? ⟨b, o, none⟩ = some s.v ∧ w.cell? ⟨b, o + 1, none⟩ = some (.int .i64 s.no)
theorem SrcAt.lt {w : World} {b o : Nat} {s : Src} (h : SrcAt w b o s) : b < w.heap.size := World.block_lt_of_cell? w _ h.1
theorem SrcAt.of_block {w w' : World} {b o : Nat} {s : Src} (h : SrcAt w b o s) (hb : w'.heap[b]? = w.heap[b]?) : SrcAt w' b o s :=
  ⟨(World.cell?_of_block (a := ⟨b, o, none⟩) hb).trans h.1, (World.cell?_of_block (a := ⟨b, o + 1, none⟩) hb).trans h.2⟩
theorem SrcAt.below {w w' : World} {b o : Nat} {s : Src} (h : SrcAt w b o s) (hb : Below w.heap.size w w') : SrcAt w' b o s := h.of_block (hb.block b h.lt)
/-- The slice v is the call's own and holds what is left of some lists. -/
def OwnH (w : World) (base : Nat) (v : Value) (hs : List Src) : Prop := w.ownsRow base 96 2 v hs.length (HV hs)
theorem ownH_at {w : World} {base g cap n : Nat} {hs : List Src} (h : OwnH w base (.slice (some ⟨g, 0, none⟩) n cap) hs) (i : Nat) (hi : i < hs.length) : SrcAt w g (i * 2) (sN hs i) := by
  have hn : n = hs.length := by
    rcases h.2 with ⟨h0, _⟩ | ⟨g', cap', cur, hv, _⟩
    · cases h0
    · simp only [Value.slice.injEq] at hv; exact hv.2.1
  subst hn
  have c : ∀ j, j < 2 → w.cell? ⟨g, i * 2 + j, none⟩ = (HCs (sN hs i))[j]? := fun j hj => (World.ownsRow.cellAt h (i * 2 + j) (by omega)).trans (HV_get hs i hi j hj)
  exact ⟨c 0 (by omega), c 1 (by omega)⟩
theorem ownH_shape {w : World} {base : Nat} {v : Value} {hs : List Src} (h : OwnH w base v hs) (h0 : 0 < hs.length) : ∃ g cap, v = .slice (some ⟨g, 0, none⟩) hs.length cap ∧ hs.length ≤ cap ∧ cap ≤ maxLen := by
  rcases h.2 with ⟨_, h1⟩ | ⟨g, cap, cur, hv, _, _, h2, h3, _⟩
  · omega
  · exact ⟨g, cap, hv, h2, h3⟩
theorem ownH_len {w : World} {base : Nat} {v : Value} {hs : List Src} (h : OwnH w base v hs) : ∃ a cap, v = .slice a hs.length cap ∧ hs.length ≤ cap ∧ cap ≤ maxLen := by
  rcases h.2 with ⟨hv, h1⟩ | ⟨g, cap, cur, hv, _, _, h2, h3, _⟩
  · exact ⟨none, 0, by rw [hv, h1], by omega, Nat.zero_le _⟩
  · exact ⟨_, cap, hv, h2, h3⟩
theorem OwnH.below {w w' : World} {base : Nat} {v : Value} {hs : List Src} (h : OwnH w base v hs) (hb : Below w.heap.size w w') : OwnH w' base v hs := own_below h hb
/-- The heap: a variable in block sb that holds the row v. -/
structure Hp (w0 w : World) (sb : Nat) (v : Value) (hs : List Src) : Prop where
  bel : Below w0.heap.size w0 w
  ge : w0.heap.size ≤ sb
  box : w.heap[sb]? = some (.cells #[v] 83 (0, 0))
  own : OwnH w w0.heap.size v hs
  ne : ∀ k, v.ownBlock = some k → k ≠ sb
  rd : ∀ s ∈ hs, RdE w0 s.v s.es ∧ s.es ≠ []
  few : hs.length ≤ 20
theorem Hp.cell {w0 w : World} {sb : Nat} {v : Value} {hs : List Src} (h : Hp w0 w sb v hs) : w.cell? ⟨sb, 0, none⟩ = some v := by simp [World.cell?, h.box]
theorem Hp.lt {w0 w : World} {sb : Nat} {v : Value} {hs : List Src} (h : Hp w0 w sb v hs) : sb < w.heap.size := World.block_lt_of_cell? w _ h.cell
theorem Hp.below {w0 w w' : World} {sb : Nat} {v : Value} {hs : List Src} (h : Hp w0 w sb v hs) (hb : Below w.heap.size w w') : Hp w0 w' sb v hs :=
  ⟨h.bel.trans (hb.mono h.bel.size), h.ge, (hb.block sb h.lt).trans h.box, h.own.below hb, h.ne, h.rd, h.few⟩
/-- What a call has turned: nothing that was there but the variable and its row; the row is as it was or new. -/
structure Hop (w : World) (v : Value) (sb : Nat) (w' : World) (v' : Value) : Prop where
  size : w.heap.size ≤ w'.heap.size
  block : ∀ k, k < w.heap.size → k ≠ sb → v.ownBlock ≠ some k → w'.heap[k]? = w.heap[k]?
  row : ∀ k, v'.ownBlock = some k → v.ownBlock = some k ∨ w.heap.size ≤ k
theorem Hop.refl (w : World) (v : Value) (sb : Nat) : Hop w v sb w v := ⟨Nat.le_refl _, fun _ _ _ _ => rfl, fun _ h => .inl h⟩
theorem Hop.trans {w w1 w2 : World} {v v1 v2 : Value} {sb : Nat} (h : Hop w v sb w1 v1) (k : Hop w1 v1 sb w2 v2) : Hop w v sb w2 v2 :=
  ⟨Nat.le_trans h.size k.size, fun i hi hs hv => (k.block i (Nat.lt_of_lt_of_le hi h.size) hs (fun e => by
      rcases h.row i e with e | e
      · exact hv e
      · omega)).trans (h.block i hi hs hv),
   fun i hi => by
      rcases k.row i hi with e | e
      · exact h.row i e
      · exact .inr (Nat.le_trans h.size e)⟩
theorem Hop.below {w w' : World} {v : Value} {sb : Nat} (h : Below w.heap.size w w') : Hop w v sb w' v := ⟨h.size, fun k hk _ _ => h.block k hk, fun _ h => .inl h⟩
theorem ltT_ord (x y : Ent) (i j : Nat) : (if ordE x y ≠ 0 then ordE x y else cmpI i j) < 0 ↔ ltT x i y j = true := by
  rw [ltT_iff]
  by_cases h : ordE x y = 0
  · rw [if_neg (by simpa using h), (ordE_zero x y).1 h]
    have h2 : ¬ ahd x y = true := fun e => by have := (ordE_neg x y).2 e; omega
    simp only [h2, true_and]
    unfold cmpI
    split
    · simp; omega
    · split
      · simp; omega
      · simp; omega
  · rw [if_pos h, ordE_neg]
    have h2 : ¬ sameKS x y = true := fun e => h ((ordE_zero x y).2 e)
    simp [h2]
end Go.Proofs.Ytihacdfchmobpaa
