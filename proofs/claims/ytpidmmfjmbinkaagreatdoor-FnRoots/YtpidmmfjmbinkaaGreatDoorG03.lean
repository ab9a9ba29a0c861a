/- Plain facts on rows of patches (two cells each) that a call owns or reads. Devices in memory, and what their functions tell, in plain words. -/
import Derived.Test.YtpidmmfjmbinkaaGreatDoorGen
namespace Go.Proofs.YtpidmmfjmbinkaaGreatDoor
open Go.RowKit
/-- A patch: where, and what. -/
structure Pat where
  pos : Int
  text : ByteArray
def zeroP : Pat := ⟨0, ⟨#[]⟩⟩
def nthP (xs : List Pat) (i : Nat) : Pat := xs.getD i zeroP
theorem nthP_eq {xs : List Pat} {i : Nat} (h : i < xs.length) : nthP xs i = xs[i] := by simp [nthP, List.getD, List.getElem?_eq_getElem h]
theorem nthP_zero (a : Pat) (r : List Pat) : nthP (a :: r) 0 = a := by simp [nthP]
instance : Inhabited Pat := ⟨zeroP⟩
theorem nthP_succ (a : Pat) (r : List Pat) (i : Nat) : nthP (a :: r) (i + 1) = nthP r i := by simp [nthP, List.getD]
theorem Tryz.infoPt70 : (Tryz.prog.info? 70).map (fun i => (i.zero, i.size, i.bytes)) = some (some (.agg #[.int .i64 0, .string ⟨#[]⟩]), 2, 24) := by kernel_rfl
/-- The four cells of an entry. -/
def PtC (e : Pat) : List Value := [.int .i64 e.pos, .string e.text]
def PtA (e : Pat) : Value := .agg #[.int .i64 e.pos, .string e.text]
def PtV (es : List Pat) : List Value := es.flatMap PtC
theorem PtV_length : ∀ es : List Pat, (PtV es).length = es.length * 2
  | [] => rfl
  | a :: r => by
    have := PtV_length r
    unfold PtV at this ⊢
    rw [List.flatMap_cons, List.length_append, this, List.length_cons]
    simp [PtC]; omega
theorem PtV_append (a b : List Pat) : PtV (a ++ b) = PtV a ++ PtV b := by simp [PtV]
theorem PtV_one (e : Pat) : PtV [e] = PtC e := by simp [PtV]
theorem PtV_cons (a : Pat) (r : List Pat) : PtV (a :: r) = PtC a ++ PtV r := by simp [PtV]
theorem PtV_get : ∀ (es : List Pat) (i : Nat), i < es.length → ∀ j, j < 2 → (PtV es)[i * 2 + j]? = (PtC (nthP es i))[j]?
  | [], i, h, _, _ => by simp at h
  | a :: r, 0, _, j, hj => by
    rw [PtV_cons, nthP_zero, Nat.zero_mul, Nat.zero_add, List.getElem?_append_left (by simp [PtC]; exact hj)]
  | a :: r, i + 1, h, j, hj => by
    rw [PtV_cons, nthP_succ, ← PtV_get r i (by simpa using h) j hj, List.getElem?_append_right (by simp [PtC]; omega)]
    congr 1
    simp [PtC]; omega
theorem PtV_oneCell (es : List Pat) : ∀ u ∈ PtV es, u.oneCell' = true := by
  intro u hu
  simp only [PtV, List.mem_flatMap] at hu
  obtain ⟨e, _, he⟩ := hu
  simp only [PtC, List.mem_cons, List.not_mem_nil, or_false] at he
  rcases he with rfl | rfl <;> rfl
/-- The entry e lies at offset o of block b. -/
def PatAt (w : World) (b o : Nat) (e : Pat) : Prop :=
  w.cell? ⟨b, o, none⟩ = some (.int .i64 e.pos) ∧ w.cell? ⟨b, o + 1, none⟩ = some (.string e.text)
/-- The slice v is the call's own (its block is at least number base) and holds the entries es. -/
def OwnPt (w : World) (base : Nat) (v : Value) (es : List Pat) : Prop := w.ownsRow base 70 2 v es.length (PtV es)
/-- The slice v can be read and holds the entries es. -/
def RdPt (w : World) (v : Value) (es : List Pat) : Prop :=
  ∃ a cap, v = .slice a es.length cap ∧ es.length ≤ cap ∧ cap ≤ maxLen ∧ (a = none → cap = 0) ∧
    (es = [] ∨ ∃ b off, a = some ⟨b, off, none⟩ ∧ ∀ i, i < es.length → PatAt w b (off + i * 2) (nthP es i))
theorem PatAt.lt {w : World} {b o : Nat} {e : Pat} (h : PatAt w b o e) : b < w.heap.size := World.block_lt_of_cell? w _ h.1
theorem PatAt.of_block {w w' : World} {b o : Nat} {e : Pat} (h : PatAt w b o e) (hb : w'.heap[b]? = w.heap[b]?) : PatAt w' b o e :=
  ⟨(World.cell?_of_block (a := ⟨b, o, none⟩) hb).trans h.1, (World.cell?_of_block (a := ⟨b, o + 1, none⟩) hb).trans h.2⟩
theorem PatAt.below {w w' : World} {b o : Nat} {e : Pat} (h : PatAt w b o e) (hb : Below w.heap.size w w') : PatAt w' b o e := h.of_block (hb.block b h.lt)
theorem ownPt_cell {w : World} {base g cap n : Nat} {es : List Pat} (h : w.ownsRow base 70 2 (.slice (some ⟨g, 0, none⟩) n cap) n (PtV es)) (hn : n = es.length) (i : Nat) (hi : i < n) : PatAt w g (i * 2) (nthP es i) := by
  subst hn
  have c : ∀ j, j < 2 → w.cell? ⟨g, i * 2 + j, none⟩ = (PtC (nthP es i))[j]? := fun j hj => (h.cellAt (i * 2 + j) (by omega)).trans (PtV_get es i hi j hj)
  exact ⟨c 0 (by omega), c 1 (by omega)⟩
theorem OwnPt.rd {w : World} {base : Nat} {v : Value} {es : List Pat} (h : OwnPt w base v es) : RdPt w v es := by
  have h' := h
  rcases h.2 with ⟨rfl, h0⟩ | ⟨g, cap, cur, rfl, hb, hg, hn, hc, hs, ht⟩
  · have : es = [] := List.length_eq_zero_iff.1 h0
    subst this
    exact ⟨none, 0, rfl, Nat.le_refl _, Nat.zero_le _, fun _ => rfl, .inl rfl⟩
  · refine ⟨some ⟨g, 0, none⟩, cap, rfl, hn, hc, (fun h => by cases h), .inr ⟨g, 0, rfl, fun i hi => ?_⟩⟩
    rw [Nat.zero_add]
    exact ownPt_cell h' rfl i hi
theorem OwnPt.below {w w' : World} {base : Nat} {v : Value} {es : List Pat} (h : OwnPt w base v es) (hb : Below w.heap.size w w') : OwnPt w' base v es := own_below h hb
theorem OwnPt.drewN {w : World} {base : Nat} {v : Value} {es : List Pat} (h : OwnPt w base v es) (q : Nat) : OwnPt (w.drewN q) base v es := h
theorem OwnPt.mono {w : World} {base base' : Nat} {v : Value} {es : List Pat} (h : OwnPt w base v es) (hb : base' ≤ base) : OwnPt w base' v es := by
  refine ⟨h.1, ?_⟩
  rcases h.2 with h2 | ⟨g, cap, cur, hv, hg, r⟩
  · exact .inl h2
  · exact .inr ⟨g, cap, cur, hv, Nat.le_trans hb hg, r⟩
theorem RdPt.below {w w' : World} {v : Value} {es : List Pat} (h : RdPt w v es) (hb : Below w.heap.size w w') : RdPt w' v es := by
  obtain ⟨a, cap, hv, h1, h2, h0, h3⟩ := h
  refine ⟨a, cap, hv, h1, h2, h0, ?_⟩
  rcases h3 with h3 | ⟨b, off, ha, hc⟩
  · exact .inl h3
  · exact .inr ⟨b, off, ha, fun i hi => (hc i hi).below hb⟩
theorem RdPt.drewN {w : World} {v : Value} {es : List Pat} (h : RdPt w v es) (q : Nat) : RdPt (w.drewN q) v es := h
theorem rdPt_nil (w : World) : RdPt w (.slice none 0 0) [] := ⟨none, 0, rfl, Nat.le_refl _, Nat.zero_le _, fun _ => rfl, .inl rfl⟩
theorem ownPt_none (w : World) : OwnPt (w.alloc (.cells #[] 70)) w.heap.size (.slice (some ⟨w.heap.size, 0, none⟩) 0 0) [] := World.ownsRow_lit w #[] 0 (Nat.le_refl _) (Nat.zero_le _) rfl
theorem ownPt_lt {w : World} {B : Nat} {v : Value} {es : List Pat} (h : OwnPt w B v es) : ∀ k, v.ownBlock = some k → k < w.heap.size := fun k hk => (World.ownsRow.lt h k hk).2
theorem ownPt_more {w1 : World} {B : Nat} {v' : Value} {ys zs : List Pat} (h : w1.ownsRow B 70 2 v' (ys.length + zs.length) (PtV ys ++ PtV zs)) : OwnPt w1 B v' (ys ++ zs) := by
  unfold OwnPt
  rw [PtV_append, List.length_append]
  exact h
/-- Where an entry of a slice lies. -/
theorem RdPt.at {w : World} {a : Option Addr} {n cap : Nat} {es : List Pat} (h : RdPt w (.slice a n cap) es) (hn : n = es.length) (i : Nat) (hi : i < es.length) : ∃ b off, a = some ⟨b, off, none⟩ ∧ PatAt w b (off + i * 2) (nthP es i) := by
  obtain ⟨a', cap', hv, _, _, _, h3⟩ := h
  simp only [Value.slice.injEq] at hv
  obtain ⟨rfl, _, _⟩ := hv
  rcases h3 with rfl | ⟨b, off, ha, hc⟩
  · simp at hi
  · exact ⟨b, off, ha, hc i hi⟩
theorem PtV_nth {es : List Pat} {j : Nat} {u : Value} (h : (PtV es)[j]? = some u) : j / 2 < es.length ∧ (PtC (nthP es (j / 2)))[j % 2]? = some u := by
  have hj : j < (PtV es).length := (List.getElem?_eq_some_iff.1 h).1
  rw [PtV_length] at hj
  have h1 : j / 2 < es.length := by omega
  refine ⟨h1, ?_⟩
  have h2 := PtV_get es (j / 2) h1 (j % 2) (by omega)
  rw [show j / 2 * 2 + j % 2 = j by omega] at h2
  rw [← h2]; exact h
theorem PatAt.cellAt {w : World} {b o : Nat} {e : Pat} (h : PatAt w b o e) {j : Nat} {u : Value} (hu : (PtC e)[j]? = some u) : w.cell? ⟨b, o + j, none⟩ = some u := by
  obtain ⟨h0, h1⟩ := h
  match j, hu with
  | 0, hu => simp [PtC] at hu; subst hu; exact h0
  | 1, hu => simp [PtC] at hu; subst hu; exact h1
/-- The cells of a slice of entries, in a row. -/
theorem patsAt_cells {w : World} {b off : Nat} {es : List Pat} (h : ∀ i, i < es.length → PatAt w b (off + i * 2) (nthP es i)) : ∀ j u, (PtV es)[j]? = some u → w.cell? ((⟨b, off, none⟩ : Addr).add j) = some u := by
  intro j u hu
  obtain ⟨h1, h2⟩ := PtV_nth hu
  have := (h _ h1).cellAt h2
  rw [Addr.add_lit]
  rw [show off + j / 2 * 2 + j % 2 = off + j by omega] at this
  exact this
/-- append of entries that can be read onto a row of the call's own. -/
theorem run_append_pats (ty : TypeId) {w : World} {base : Nat} {v u : Value} {ys zs : List Pat} (hown : OwnPt w base v ys) (hr : RdPt w u zs) (hl : ys.length + zs.length ≤ 1000000000) (hbase : base ≤ w.heap.size) :
    ∃ v' w', (Builtin.append_ #[25, 25] ty #[v, u]).run Tryz.prog w = .ok v' w' ∧ OwnPt w' base v' (ys ++ zs) ∧ w.grownBy w' v.ownBlock := by
  obtain ⟨i0, hi, hz0, hz1, hz2⟩ := info_parts Tryz.infoPt70
  obtain ⟨a, cap, rfl, h1, h2, h0, h3⟩ := hr
  have row : ∀ ad news, news = PtV zs → (∀ j u, news[j]? = some u → w.cell? (ad.add j) = some u) → ∃ v' w', (Builtin.append_ #[25, 25] ty #[v, .slice (some ad) zs.length cap]).run Tryz.prog w = .ok v' w' ∧ OwnPt w' base v' (ys ++ zs) ∧ w.grownBy w' v.ownBlock := by
    intro ad news hn hc
    subst hn
    obtain ⟨v', w', hrun, r1, r2, _⟩ := run_append_own (P := Tryz.prog) w base 25 ty 70 i0 _ 2 24 Tryz.underlying25 hi hz0 hz1 hz2 rfl (by decide) v ys.length (PtV ys) hown ad zs.length cap (PtV zs) (PtV_length zs) hc (PtV_oneCell zs) (by unfold maxLen; omega) (by omega) hbase
    exact ⟨v', w', hrun, ownPt_more r1, r2⟩
  cases a with
  | some ad =>
    refine row ad (PtV zs) rfl ?_
    rcases h3 with rfl | ⟨b, off, ha, hc⟩
    · intro j u hj; simp [PtV] at hj
    · cases ha; exact patsAt_cells hc
  | none =>
    have hc0 := h0 rfl
    subst hc0
    rcases h3 with rfl | ⟨b, off, ha, hc⟩
    · refine ⟨v, w, run_append_owned_none (P := Tryz.prog) w base 25 ty 70 i0 2 Tryz.underlying25 hi v ys.length (PtV ys) hown, by simpa using hown, ⟨rfl, rfl, rfl, Nat.le_refl _, fun _ _ _ => rfl⟩⟩
    · cases ha
theorem wpList_append_pats {w : World} {ops : Array Oper} {rest : List Oper} {o : Oper} {a : Act} {Q : Exit → Act → World → Prop} (hgd : o.guard = none) (s x : Operand)
    (ho : o.op = .call { callee := .builtin .append, args := #[s, x], argTypes := #[25, 25] }) (base : Nat) (v u : Value) (ys zs : List Pat) (hs : a.eval s = v) (hx : a.eval x = u) (hown : OwnPt w base v ys) (hr : RdPt w u zs) (hl : ys.length + zs.length ≤ 1000000000) (hbase : base ≤ w.heap.size)
    (h : ∀ v' w', OwnPt w' base v' (ys ++ zs) → w.grownBy w' v.ownBlock → wpList Tryz.prog ops Q rest (a.put o.dst v') w') : wpList Tryz.prog ops Q (o :: rest) a w := by
  refine wpList_plain hgd fun K hK => ?_
  obtain ⟨v', w', hrun, r1, r2⟩ := run_append_pats o.type hown hr hl hbase
  unfold Oper.wp
  simp [execOp, ho, resolve, invoke, builtin, hs, hx, hrun, Result.andThen]
  exact hK _ _ (h v' w' r1 r2)
theorem step_append_pats {w : World} {ops : Array Oper} {o : Oper} {a : Act} {K : Act → World → Prop} {Q : Exit → Act → World → Prop} {E : Prop} (hgd : o.guard = none) (d : Nat) (hd : o.dst = some d) (s x : Operand)
    (ho : o.op = .call { callee := .builtin .append, args := #[s, x], argTypes := #[25, 25] }) (base : Nat) (v u : Value) (ys zs : List Pat) (hs : a.eval s = v) (hx : a.eval x = u) (hown : OwnPt w base v ys) (hr : RdPt w u zs) (hl : ys.length + zs.length ≤ 1000000000) (hbase : base ≤ w.heap.size)
    (h : ∀ v' w', OwnPt w' base v' (ys ++ zs) → w.grownBy w' v.ownBlock → K (a.put (some d) v') w') :
    if Region.wanted o (yielded ops a.tmps) = true then Oper.wp Tryz.prog o a w K Q else E := by
  have hw : Region.wanted o (yielded ops a.tmps) = true := by simp [Region.wanted, hgd]
  rw [if_pos hw]
  obtain ⟨v', w', hrun, r1, r2⟩ := run_append_pats o.type hown hr hl hbase
  unfold Oper.wp
  simp [execOp, ho, resolve, invoke, builtin, hs, hx, hrun, Result.andThen]
  have h' := h v' w' r1 r2
  rw [← hd] at h'
  exact h'
end Go.Proofs.YtpidmmfjmbinkaaGreatDoor
namespace Go.Proofs.YtpidmmfjmbinkaaGreatDoor
open Go.RowKit
/-- A device with the values of its two rows. -/
structure DvX where
  vs : Value
  vl : Value
  secs : List ByteArray
  late : List Pat
/-- A device that can be read. -/
structure RdDv (w : World) (X : DvX) : Prop where
  secs : RdS w X.vs X.secs
  nil : NilOk X.vs
  late : RdPt w X.vl X.late
theorem RdDv.below {w w' : World} {X : DvX} (h : RdDv w X) (hb : Below w.heap.size w w') : RdDv w' X := ⟨h.secs.below hb, h.nil, h.late.below hb⟩
theorem txt_at {w : World} {a : Option Addr} {n cap : Nat} {ss : List ByteArray} (h : RdS w (.slice a n cap) ss) (i : Nat) (hi : i < ss.length) : ∃ b off, a = some ⟨b, off, none⟩ ∧ w.cell? ⟨b, off + i, none⟩ = some (.string ss[i]) := by
  obtain ⟨a', cap', hv, _, _, h3⟩ := h
  simp only [Value.slice.injEq] at hv
  obtain ⟨rfl, _, _⟩ := hv
  rcases h3 with rfl | ⟨b, off, ha, hc⟩
  · simp at hi
  · exact ⟨b, off, ha, hc i hi⟩
/-- A device's rows, written out. -/
theorem RdDv.slices {w : World} {X : DvX} (h : RdDv w X) : ∃ (sa la : Option Addr) (cs cl : Nat), X.vs = .slice sa X.secs.length cs ∧ X.vl = .slice la X.late.length cl ∧ X.secs.length ≤ cs ∧ cs ≤ 9223372036854775807 ∧ X.late.length ≤ cl ∧ cl ≤ 9223372036854775807 := by
  obtain ⟨sa, cs, hs, h1, h2, -⟩ := h.secs
  obtain ⟨la, cl, hl, h3, h4, -⟩ := h.late
  unfold maxLen at h2 h4
  exact ⟨sa, la, cs, cl, hs, hl, h1, by omega, h3, by omega⟩
/-- The two cells of a device in a box. -/
def DvAt (w : World) (b : Nat) (X : DvX) : Prop := w.cell? ⟨b, 0, none⟩ = some X.vs ∧ w.cell? ⟨b, 1, none⟩ = some X.vl
theorem DvAt.lt {w : World} {b : Nat} {X : DvX} (h : DvAt w b X) : b < w.heap.size := World.block_lt_of_cell? w _ h.1
theorem DvAt.of_block {w w' : World} {b : Nat} {X : DvX} (h : DvAt w b X) (hb : w'.heap[b]? = w.heap[b]?) : DvAt w' b X :=
  ⟨(World.cell?_of_block (a := ⟨b, 0, none⟩) hb).trans h.1, (World.cell?_of_block (a := ⟨b, 1, none⟩) hb).trans h.2⟩
theorem DvAt.below {w w' : World} {b : Nat} {X : DvX} (h : DvAt w b X) (hb : Below w.heap.size w w') : DvAt w' b X := h.of_block (hb.block b h.lt)
theorem dvAt_new (w : World) (X : DvX) (t : TypeId) : DvAt (w.alloc (.cells #[X.vs, X.vl] t)) w.heap.size X := by
  constructor <;> simp [World.cell?_alloc_at]
/-- Right patches and devices. -/
def pOk (n : Nat) (p : Pat) : Bool := decide (0 ≤ p.pos) && decide (p.pos < (n : Int)) && decide (p.text.size ≤ 400)
def devOk (s : List ByteArray) (l : List Pat) : Bool := decide (1 ≤ s.length) && decide (s.length ≤ 16) && decide (l.length ≤ 30) && s.all (fun t => decide (t.size ≤ 400)) && l.all (pOk s.length)
theorem pOk_iff {n : Nat} {p : Pat} : pOk n p = true ↔ 0 ≤ p.pos ∧ p.pos < (n : Int) ∧ p.text.size ≤ 400 := by
  unfold pOk
  simp only [Bool.and_eq_true, decide_eq_true_eq, and_assoc]
theorem devOk_iff (s : List ByteArray) (l : List Pat) : devOk s l = true ↔ 1 ≤ s.length ∧ s.length ≤ 16 ∧ l.length ≤ 30 ∧ (∀ (i : Nat) (h : i < s.length), s[i].size ≤ 400) ∧ ∀ i, i < l.length → pOk s.length (nthP l i) = true := by
  unfold devOk
  simp only [Bool.and_eq_true, decide_eq_true_eq, List.all_eq_true, and_assoc]
  constructor
  · rintro ⟨h1, h2, h3, h4, h5⟩
    exact ⟨h1, h2, h3, fun i h => h4 _ (List.getElem_mem h), fun i h => by rw [nthP_eq h]; exact h5 _ (List.getElem_mem h)⟩
  · rintro ⟨h1, h2, h3, h4, h5⟩
    refine ⟨h1, h2, h3, fun t ht => ?_, fun p hp => ?_⟩
    · obtain ⟨i, hi, rfl⟩ := List.getElem_of_mem ht
      exact h4 i hi
    · obtain ⟨i, hi, rfl⟩ := List.getElem_of_mem hp
      rw [← nthP_eq hi]
      exact h5 i hi
theorem devOk_no {s : List ByteArray} {l : List Pat} (h : ¬ devOk s l = true) : false = devOk s l := by
  cases e : devOk s l with
  | true => exact absurd e h
  | false => rfl
/-- The sectors when the first k of late are in their sectors, of which kp says yes. -/
def cutTo (s : List ByteArray) (l : List Pat) (kp : Nat → Bool) : Nat → List ByteArray
  | 0 => s
  | k + 1 => if kp k then (cutTo s l kp k).set (nthP l k).pos.toNat (nthP l k).text else cutTo s l kp k
theorem cutTo_len (s : List ByteArray) (l : List Pat) (kp : Nat → Bool) : ∀ k, (cutTo s l kp k).length = s.length
  | 0 => rfl
  | k + 1 => by
    unfold cutTo
    split
    · rw [List.length_set]; exact cutTo_len s l kp k
    · exact cutTo_len s l kp k
theorem cutTo_same {s : List ByteArray} {l : List Pat} {kp kq : Nat → Bool} : ∀ k, (∀ j, j < k → kp j = kq j) → cutTo s l kp k = cutTo s l kq k
  | 0, _ => rfl
  | k + 1, h => by
    unfold cutTo
    rw [h k (Nat.lt_succ_self k), cutTo_same k (fun j hj => h j (Nat.lt_succ_of_lt hj))]
theorem cutTo_past {s : List ByteArray} {l : List Pat} {kp : Nat → Bool} {m : Nat} : ∀ d, (∀ j, m ≤ j → kp j = false) → cutTo s l kp (m + d) = cutTo s l kp m
  | 0, _ => rfl
  | d + 1, h => by
    rw [← Nat.add_assoc]
    show (if kp (m + d) then _ else _) = _
    rw [h (m + d) (Nat.le_add_right _ _)]
    exact cutTo_past d h
/-- What lies at a place when the first k of late are written. -/
def liesTo (s0 : ByteArray) (l : List Pat) (p : Int) : Nat → ByteArray
  | 0 => s0
  | k + 1 => if (nthP l k).pos = p then (nthP l k).text else liesTo s0 l p k
theorem lies_cut {s : List ByteArray} {l : List Pat} {p : Nat} (hp : p < s.length) : ∀ k, k ≤ l.length → (∀ i, i < l.length → pOk s.length (nthP l i) = true) → ∀ h, (cutTo s l (fun _ => true) k)[p]'h = liesTo s[p] l (p : Int) k
  | 0, _, _, _ => rfl
  | k + 1, hk, ho, h => by
    have hq := pOk_iff.1 (ho k (by omega))
    have ih := lies_cut hp k (by omega) ho (by rw [cutTo_len]; exact hp)
    unfold liesTo
    show ((cutTo s l (fun _ => true) k).set (nthP l k).pos.toNat (nthP l k).text)[p]'(by rw [List.length_set, cutTo_len]; exact hp) = _
    by_cases e : (nthP l k).pos = (p : Int)
    · have e2 : (nthP l k).pos.toNat = p := by omega
      simp [e]
    · have e2 : (nthP l k).pos.toNat ≠ p := by omega
      rw [if_neg e, List.getElem_set_ne e2, ih]
/-- What a cut leaves, by what is kept. -/
def cutL (s : List ByteArray) (l : List Pat) (kp : Nat → Bool) : List ByteArray := if devOk s l then cutTo s l kp l.length else []
def liesL (s : List ByteArray) (l : List Pat) (p : Int) : ByteArray := if devOk s l && decide (0 ≤ p) && decide (p < (s.length : Int)) then liesTo (s.getD p.toNat ⟨#[]⟩) l p l.length else ⟨#[]⟩
/-- What Lay tells. -/
def layO (s : List ByteArray) (l : List Pat) (p : Int) (t : ByteArray) : Bool := devOk s l && pOk s.length ⟨p, t⟩ && decide (l.length ≠ 30)
def layS (s : List ByteArray) (l : List Pat) : List ByteArray := if devOk s l then s else []
def layL (s : List ByteArray) (l : List Pat) (p : Int) (t : ByteArray) : List Pat := if devOk s l then (if layO s l p t then l ++ [⟨p, t⟩] else l) else []
end Go.Proofs.YtpidmmfjmbinkaaGreatDoor
