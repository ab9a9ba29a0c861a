/- Plain facts on rows of entries (four cells each) that a call owns or reads. The contracts of the small functions over entries: which of two is ahead, and whether one is as told; the model's and the program's. Plain facts on rows of numbers that a call owns or reads. -/
import Derived.Test.YtjnhhdnfncfedaaGreatG00
import Derived.Test.YtjnhhdnfncfedaaGreatEntMath
import Derived.Deep.RegionLaw
import Derived.BigQuiet
import Derived.Laws.Cover1
import Derived.Deep.RegionWith
namespace Go.Proofs.YtjnhhdnfncfedaaGreat
open Go.RowKit
theorem Tryz.info55 : (Tryz.prog.info? 55).map (fun i => (i.zero, i.size, i.bytes)) = some (some (.agg #[.string ⟨#[]⟩, .string ⟨#[]⟩, .int .i64 0, .bool false]), 4, 48) := by kernel_rfl
/-- The four cells of an entry. -/
def EC (e : Ent) : List Value := [.string e.key, .string e.val, .int .i64 e.seq, .bool e.gone]
def EA (e : Ent) : Value := .agg #[.string e.key, .string e.val, .int .i64 e.seq, .bool e.gone]
def EV (es : List Ent) : List Value := es.flatMap EC
theorem EV_length : ∀ es : List Ent, (EV es).length = es.length * 4
  | [] => rfl
  | a :: r => by
    have := EV_length r
    unfold EV at this ⊢
    rw [List.flatMap_cons, List.length_append, this, List.length_cons]
    simp [EC]; omega
theorem EV_append (a b : List Ent) : EV (a ++ b) = EV a ++ EV b := by simp [EV]
theorem EV_one (e : Ent) : EV [e] = EC e := by simp [EV]
theorem EV_cons (a : Ent) (r : List Ent) : EV (a :: r) = EC a ++ EV r := by simp [EV]
theorem EV_get : ∀ (es : List Ent) (i : Nat), i < es.length → ∀ j, j < 4 → (EV es)[i * 4 + j]? = (EC (nth es i))[j]?
  | [], i, h, _, _ => by simp at h
  | a :: r, 0, _, j, hj => by
    rw [EV_cons, nth_zero, Nat.zero_mul, Nat.zero_add, List.getElem?_append_left (by simp [EC]; exact hj)]
  | a :: r, i + 1, h, j, hj => by
    rw [EV_cons, nth_succ, ← EV_get r i (by simpa using h) j hj, List.getElem?_append_right (by simp [EC]; omega)]
    congr 1
    simp [EC]; omega
theorem EV_oneCell (es : List Ent) : ∀ u ∈ EV es, u.oneCell' = true := by
  intro u hu
  simp only [EV, List.mem_flatMap] at hu
  obtain ⟨e, _, he⟩ := hu
  simp only [EC, List.mem_cons, List.not_mem_nil, or_false] at he
  rcases he with rfl | rfl | rfl | rfl <;> rfl
/-- The entry e lies at offset o of block b. -/
def EntAt (w : World) (b o : Nat) (e : Ent) : Prop :=
  w.cell? ⟨b, o, none⟩ = some (.string e.key) ∧ w.cell? ⟨b, o + 1, none⟩ = some (.string e.val) ∧ w.cell? ⟨b, o + 2, none⟩ = some (.int .i64 e.seq) ∧ w.cell? ⟨b, o + 3, none⟩ = some (.bool e.gone)
/-- The slice v is the call's own (its block is at least number base) and holds the entries es. -/
def OwnE (w : World) (base : Nat) (v : Value) (es : List Ent) : Prop := w.ownsRow base 55 4 v es.length (EV es)
/-- The slice v can be read and holds the entries es. -/
def RdE (w : World) (v : Value) (es : List Ent) : Prop :=
  ∃ a cap, v = .slice a es.length cap ∧ es.length ≤ cap ∧ cap ≤ maxLen ∧ (a = none → cap = 0) ∧
    (es = [] ∨ ∃ b off, a = some ⟨b, off, none⟩ ∧ ∀ i, i < es.length → EntAt w b (off + i * 4) (nth es i))
theorem EntAt.lt {w : World} {b o : Nat} {e : Ent} (h : EntAt w b o e) : b < w.heap.size := World.block_lt_of_cell? w _ h.1
theorem EntAt.of_block {w w' : World} {b o : Nat} {e : Ent} (h : EntAt w b o e) (hb : w'.heap[b]? = w.heap[b]?) : EntAt w' b o e :=
  ⟨(World.cell?_of_block (a := ⟨b, o, none⟩) hb).trans h.1, (World.cell?_of_block (a := ⟨b, o + 1, none⟩) hb).trans h.2.1, (World.cell?_of_block (a := ⟨b, o + 2, none⟩) hb).trans h.2.2.1, (World.cell?_of_block (a := ⟨b, o + 3, none⟩) hb).trans h.2.2.2⟩
theorem EntAt.below {w w' : World} {b o : Nat} {e : Ent} (h : EntAt w b o e) (hb : Below w.heap.size w w') : EntAt w' b o e := h.of_block (hb.block b h.lt)
theorem ownE_cell {w : World} {base g cap n : Nat} {es : List Ent} (h : w.ownsRow base 55 4 (.slice (some ⟨g, 0, none⟩) n cap) n (EV es)) (hn : n = es.length) (i : Nat) (hi : i < n) : EntAt w g (i * 4) (nth es i) := by
  subst hn
  have c : ∀ j, j < 4 → w.cell? ⟨g, i * 4 + j, none⟩ = (EC (nth es i))[j]? := fun j hj => (h.cellAt (i * 4 + j) (by omega)).trans (EV_get es i hi j hj)
  exact ⟨c 0 (by omega), c 1 (by omega), c 2 (by omega), c 3 (by omega)⟩
theorem OwnE.rd {w : World} {base : Nat} {v : Value} {es : List Ent} (h : OwnE w base v es) : RdE w v es := by
  have h' := h
  rcases h.2 with ⟨rfl, h0⟩ | ⟨g, cap, cur, rfl, hb, hg, hn, hc, hs, ht⟩
  · have : es = [] := List.length_eq_zero_iff.1 h0
    subst this
    exact ⟨none, 0, rfl, Nat.le_refl _, Nat.zero_le _, fun _ => rfl, .inl rfl⟩
  · refine ⟨some ⟨g, 0, none⟩, cap, rfl, hn, hc, (fun h => by cases h), .inr ⟨g, 0, rfl, fun i hi => ?_⟩⟩
    rw [Nat.zero_add]
    exact ownE_cell h' rfl i hi
theorem OwnE.below {w w' : World} {base : Nat} {v : Value} {es : List Ent} (h : OwnE w base v es) (hb : Below w.heap.size w w') : OwnE w' base v es := own_below h hb
theorem OwnE.drewN {w : World} {base : Nat} {v : Value} {es : List Ent} (h : OwnE w base v es) (q : Nat) : OwnE (w.drewN q) base v es := h
theorem OwnE.mono {w : World} {base base' : Nat} {v : Value} {es : List Ent} (h : OwnE w base v es) (hb : base' ≤ base) : OwnE w base' v es := by
  refine ⟨h.1, ?_⟩
  rcases h.2 with h2 | ⟨g, cap, cur, hv, hg, r⟩
  · exact .inl h2
  · exact .inr ⟨g, cap, cur, hv, Nat.le_trans hb hg, r⟩
theorem RdE.below {w w' : World} {v : Value} {es : List Ent} (h : RdE w v es) (hb : Below w.heap.size w w') : RdE w' v es := by
  obtain ⟨a, cap, hv, h1, h2, h0, h3⟩ := h
  refine ⟨a, cap, hv, h1, h2, h0, ?_⟩
  rcases h3 with h3 | ⟨b, off, ha, hc⟩
  · exact .inl h3
  · exact .inr ⟨b, off, ha, fun i hi => (hc i hi).below hb⟩
theorem RdE.drewN {w : World} {v : Value} {es : List Ent} (h : RdE w v es) (q : Nat) : RdE (w.drewN q) v es := h
theorem rdE_nil (w : World) : RdE w (.slice none 0 0) [] := ⟨none, 0, rfl, Nat.le_refl _, Nat.zero_le _, fun _ => rfl, .inl rfl⟩
theorem ownE_none (w : World) : OwnE (w.alloc (.cells #[] 55)) w.heap.size (.slice (some ⟨w.heap.size, 0, none⟩) 0 0) [] := World.ownsRow_lit w #[] 0 (Nat.le_refl _) (Nat.zero_le _) rfl
theorem ownE_lt {w : World} {B : Nat} {v : Value} {es : List Ent} (h : OwnE w B v es) : ∀ k, v.ownBlock = some k → k < w.heap.size := fun k hk => (World.ownsRow.lt h k hk).2
theorem ownE_more {w1 : World} {B : Nat} {v' : Value} {ys zs : List Ent} (h : w1.ownsRow B 55 4 v' (ys.length + zs.length) (EV ys ++ EV zs)) : OwnE w1 B v' (ys ++ zs) := by
  unfold OwnE
  rw [EV_append, List.length_append]
  exact h
/-- Where an entry of a slice lies. -/
theorem RdE.at {w : World} {a : Option Addr} {n cap : Nat} {es : List Ent} (h : RdE w (.slice a n cap) es) (hn : n = es.length) (i : Nat) (hi : i < es.length) : ∃ b off, a = some ⟨b, off, none⟩ ∧ EntAt w b (off + i * 4) (nth es i) := by
  obtain ⟨a', cap', hv, _, _, _, h3⟩ := h
  simp only [Value.slice.injEq] at hv
  obtain ⟨rfl, _, _⟩ := hv
  rcases h3 with rfl | ⟨b, off, ha, hc⟩
  · simp at hi
  · exact ⟨b, off, ha, hc i hi⟩
theorem EV_nth {es : List Ent} {j : Nat} {u : Value} (h : (EV es)[j]? = some u) : j / 4 < es.length ∧ (EC (nth es (j / 4)))[j % 4]? = some u := by
  have hj : j < (EV es).length := (List.getElem?_eq_some_iff.1 h).1
  rw [EV_length] at hj
  have h1 : j / 4 < es.length := by omega
  refine ⟨h1, ?_⟩
  have h2 := EV_get es (j / 4) h1 (j % 4) (by omega)
  rw [show j / 4 * 4 + j % 4 = j by omega] at h2
  rw [← h2]; exact h
theorem EntAt.cellAt {w : World} {b o : Nat} {e : Ent} (h : EntAt w b o e) {j : Nat} {u : Value} (hu : (EC e)[j]? = some u) : w.cell? ⟨b, o + j, none⟩ = some u := by
  obtain ⟨h0, h1, h2, h3⟩ := h
  match j, hu with
  | 0, hu => simp [EC] at hu; subst hu; exact h0
  | 1, hu => simp [EC] at hu; subst hu; exact h1
  | 2, hu => simp [EC] at hu; subst hu; exact h2
  | 3, hu => simp [EC] at hu; subst hu; exact h3
/-- The cells of a slice of entries, in a row. -/
theorem entsAt_cells {w : World} {b off : Nat} {es : List Ent} (h : ∀ i, i < es.length → EntAt w b (off + i * 4) (nth es i)) : ∀ j u, (EV es)[j]? = some u → w.cell? ((⟨b, off, none⟩ : Addr).add j) = some u := by
  intro j u hu
  obtain ⟨h1, h2⟩ := EV_nth hu
  have := (h _ h1).cellAt h2
  rw [Addr.add_lit]
  rw [show off + j / 4 * 4 + j % 4 = off + j by omega] at this
  exact this
/-- append of entries that can be read onto a row of the call's own. -/
theorem run_append_ents (ty : TypeId) {w : World} {base : Nat} {v u : Value} {ys zs : List Ent} (hown : OwnE w base v ys) (hr : RdE w u zs) (hl : ys.length + zs.length ≤ 1000000000) (hbase : base ≤ w.heap.size) :
    ∃ v' w', (Builtin.append_ #[30, 30] ty #[v, u]).run Tryz.prog w = .ok v' w' ∧ OwnE w' base v' (ys ++ zs) ∧ w.grownBy w' v.ownBlock := by
  obtain ⟨i0, hi, hz0, hz1, hz2⟩ := info_parts Tryz.info55
  obtain ⟨a, cap, rfl, h1, h2, h0, h3⟩ := hr
  have row : ∀ ad news, news = EV zs → (∀ j u, news[j]? = some u → w.cell? (ad.add j) = some u) → ∃ v' w', (Builtin.append_ #[30, 30] ty #[v, .slice (some ad) zs.length cap]).run Tryz.prog w = .ok v' w' ∧ OwnE w' base v' (ys ++ zs) ∧ w.grownBy w' v.ownBlock := by
    intro ad news hn hc
    subst hn
    obtain ⟨v', w', hrun, r1, r2, _⟩ := run_append_own (P := Tryz.prog) w base 30 ty 55 i0 _ 4 48 Tryz.underlying30 hi hz0 hz1 hz2 rfl (by decide) v ys.length (EV ys) hown ad zs.length cap (EV zs) (EV_length zs) hc (EV_oneCell zs) (by unfold maxLen; omega) (by omega) hbase
    exact ⟨v', w', hrun, ownE_more r1, r2⟩
  cases a with
  | some ad =>
    refine row ad (EV zs) rfl ?_
    rcases h3 with rfl | ⟨b, off, ha, hc⟩
    · intro j u hj; simp [EV] at hj
    · cases ha; exact entsAt_cells hc
  | none =>
    have hc0 := h0 rfl
    subst hc0
    rcases h3 with rfl | ⟨b, off, ha, hc⟩
    · refine ⟨v, w, run_append_owned_none (P := Tryz.prog) w base 30 ty 55 i0 4 Tryz.underlying30 hi v ys.length (EV ys) hown, by simpa using hown, ⟨rfl, rfl, rfl, Nat.le_refl _, fun _ _ _ => rfl⟩⟩
    · cases ha
theorem wpList_append_ents {w : World} {ops : Array Oper} {rest : List Oper} {o : Oper} {a : Act} {Q : Exit → Act → World → Prop} (hgd : o.guard = none) (s x : Operand)
    (ho : o.op = .call { callee := .builtin .append, args := #[s, x], argTypes := #[30, 30] }) (base : Nat) (v u : Value) (ys zs : List Ent) (hs : a.eval s = v) (hx : a.eval x = u) (hown : OwnE w base v ys) (hr : RdE w u zs) (hl : ys.length + zs.length ≤ 1000000000) (hbase : base ≤ w.heap.size)
    (h : ∀ v' w', OwnE w' base v' (ys ++ zs) → w.grownBy w' v.ownBlock → wpList Tryz.prog ops Q rest (a.put o.dst v') w') : wpList Tryz.prog ops Q (o :: rest) a w := by
  refine wpList_plain hgd fun K hK => ?_
  obtain ⟨v', w', hrun, r1, r2⟩ := run_append_ents o.type hown hr hl hbase
  unfold Oper.wp
  simp [execOp, ho, resolve, invoke, builtin, hs, hx, hrun, Result.andThen]
  exact hK _ _ (h v' w' r1 r2)
theorem step_append_ents {w : World} {ops : Array Oper} {o : Oper} {a : Act} {K : Act → World → Prop} {Q : Exit → Act → World → Prop} {E : Prop} (hgd : o.guard = none) (d : Nat) (hd : o.dst = some d) (s x : Operand)
    (ho : o.op = .call { callee := .builtin .append, args := #[s, x], argTypes := #[30, 30] }) (base : Nat) (v u : Value) (ys zs : List Ent) (hs : a.eval s = v) (hx : a.eval x = u) (hown : OwnE w base v ys) (hr : RdE w u zs) (hl : ys.length + zs.length ≤ 1000000000) (hbase : base ≤ w.heap.size)
    (h : ∀ v' w', OwnE w' base v' (ys ++ zs) → w.grownBy w' v.ownBlock → K (a.put (some d) v') w') :
    if Region.wanted o (yielded ops a.tmps) = true then Oper.wp Tryz.prog o a w K Q else E := by
  have hw : Region.wanted o (yielded ops a.tmps) = true := by simp [Region.wanted, hgd]
  rw [if_pos hw]
  obtain ⟨v', w', hrun, r1, r2⟩ := run_append_ents o.type hown hr hl hbase
  unfold Oper.wp
  simp [execOp, ho, resolve, invoke, builtin, hs, hx, hrun, Result.andThen]
  have h' := h v' w' r1 r2
  rw [← hd] at h'
  exact h'
/-- Texts and numbers of an entry are such as a program can hold. -/
def Fits (e : Ent) : Prop := e.key.size ≤ 4503599627370496 ∧ e.val.size ≤ 4503599627370496 ∧ -9223372036854775808 ≤ e.seq ∧ e.seq ≤ 9223372036854775807
end Go.Proofs.YtjnhhdnfncfedaaGreat
namespace Go.Proofs.YtjnhhdnfncfedaaGreat
open Go.RowKit
theorem beq_kEq (a b : ByteArray) : (a.toList == b.toList) = kEq a b := by
  rw [Bool.eq_iff_iff, beq_iff_eq]
  unfold kEq
  rw [decide_eq_true_eq]
  exact ⟨ba_toList_inj, fun h => by rw [h]⟩
theorem ret_bool {a b : Bool} (h : a = b) : Ending.returned (.bool a) = .returned (.bool b) := by rw [h]
theorem ret_intE {k : IntKind} {a b : Int} (h : a = b) : Ending.returned (.int k a) = .returned (.int k b) := by rw [h]
theorem below1 (w : World) (x : Obj) : Below w.heap.size w (w.alloc x) := (Below.refl _ _).alloc (Nat.le_refl _) _
theorem below2 (w : World) (x y : Obj) : Below w.heap.size w ((w.alloc x).alloc y) := (below1 w x).alloc (by simp) _
theorem ahd_w1 {a b : Ent} (h : Op.bytesLess a.key.toList b.key.toList = true) : true = ahd a b := by
  have : kLt a.key b.key = true := h
  simp [ahd, this]
theorem ahd_w2 {a b : Ent} (_h : ¬ Op.bytesLess a.key.toList b.key.toList = true) (h2 : a.key.toList = b.key.toList) : decide (b.seq < a.seq) = ahd a b := by
  have h3 := ba_toList_inj h2
  simp [ahd, h3, kLt_irrefl, kEq]
theorem ahd_w3 {a b : Ent} (h : ¬ Op.bytesLess a.key.toList b.key.toList = true) (h2 : ¬ a.key.toList = b.key.toList) : false = ahd a b := by
  have h3 : a.key ≠ b.key := fun e => h2 (by rw [e])
  have h4 : kLt a.key b.key = false := by simpa [kLt] using h
  simp [ahd, h3, h4, kEq]
set_option maxHeartbeats 400000 in
set_option maxRecDepth 100000 in
theorem l3Ahead_any (a b : Ent) (w : World) :
    Calls Tryz.prog 82 #[.agg #[.string a.key, .string a.val, .int .i64 a.seq, .bool a.gone], .agg #[.string b.key, .string b.val, .int .i64 b.seq, .bool b.gone]] w fun e w' => e = .returned (.bool (ahd a b)) ∧ Below w.heap.size w w' := by
  go_enter Tryz.func82, Tryz.ntmps82
  go_wp2
  all_goals go_ret
  · exact ⟨ret_bool (ahd_w1 ‹_›), below2 _ _ _⟩
  · exact ⟨ret_bool (ahd_w2 ‹_› ‹_›), below2 _ _ _⟩
  · exact ⟨ret_bool (ahd_w3 ‹_› ‹_›), below2 _ _ _⟩
set_option maxHeartbeats 400000 in
theorem l1In_any (x lo hi : Int) (w : World) :
    Calls Tryz.prog 56 #[.int .i64 x, .int .i64 lo, .int .i64 hi] w fun e w' => e = .returned (.bool (decide (lo ≤ x) && decide (x ≤ hi))) ∧ w' = w := by
  go_enter Tryz.func56, Tryz.ntmps56
  go_wp2
  all_goals go_ret
  · exact ⟨by simp_all, rfl⟩
  · exact ⟨ret_bool (by rw [Bool.eq_iff_iff]; simp; omega), rfl⟩
theorem empty_iff (s : ByteArray) : s.toList = [] ↔ s.size = 0 := by
  rw [ByteArray.toList_eq, List.eq_nil_iff_length_eq_zero, Array.length_toList]
  exact Iff.rfl
theorem okE_iff (a : Ent) : okE a = true ↔ 1 ≤ (a.key.size : Int) ∧ (a.key.size : Int) ≤ 40 ∧ (a.val.size : Int) ≤ 200 ∧ (a.gone = true → a.val.size = 0) ∧ 1 ≤ a.seq ∧ a.seq ≤ 1000000 := by
  simp only [okE, Bool.and_eq_true, Bool.or_eq_true, Bool.not_eq_true', decide_eq_true_eq]
  generalize a.val.size = v
  generalize a.key.size = k
  cases a.gone <;> simp <;> omega
theorem empty_toList : (⟨#[]⟩ : ByteArray).toList = [] := by rw [empty_iff]; rfl
set_option maxHeartbeats 400000 in
set_option maxRecDepth 100000 in
theorem l3Entry_any (a : Ent) (w : World) (hf : Fits a) :
    Calls Tryz.prog 81 #[.agg #[.string a.key, .string a.val, .int .i64 a.seq, .bool a.gone]] w fun e w' => e = .returned (.bool (okE a)) ∧ Below w.heap.size w w' := by
  obtain ⟨f1, f2, f3, f4⟩ := hf
  go_enter Tryz.func81, Tryz.ntmps81
  go_wp2_with (go_at_call 56; refine (l1In_any _ _ _ _).mono ?_; rintro e w' ⟨rfl, rfl⟩)
  all_goals go_ret
  all_goals refine ⟨ret_bool ?_, below1 _ _⟩
  all_goals rw [Bool.eq_iff_iff, okE_iff]
  all_goals simp_all [empty_iff]
  all_goals omega
set_option maxHeartbeats 400000 in
set_option maxRecDepth 100000 in
theorem entryOk_any (a : Ent) (w : World) (hf : Fits a) :
    Calls Tryz.prog 87 #[.agg #[.string a.key, .string a.val, .int .i64 a.seq, .bool a.gone]] w fun e w' => e = .returned (.bool (okE a)) ∧ Below w.heap.size w w' := by
  obtain ⟨f1, f2, f3, f4⟩ := hf
  go_enter Tryz.func87, Tryz.ntmps87
  go_wp2
  all_goals go_ret
  all_goals refine ⟨ret_bool ?_, below1 _ _⟩
  all_goals rw [Bool.eq_iff_iff, okE_iff]
  all_goals simp_all [empty_iff]
  all_goals omega
theorem cmpK_w1 {a b : ByteArray} (h : Op.bytesLess a.toList b.toList = true) : -1 = cmpK a b := by
  have : kLt a b = true := h
  simp [cmpK, this]
theorem cmpK_w2 {a b : ByteArray} (h : Op.bytesLess a.toList b.toList = false) (h2 : ¬ a.toList = b.toList) : 1 = cmpK a b := by
  have h3 : kLt a b = false := h
  have h4 : kLt b a = true := by
    cases h5 : kLt b a with
    | true => rfl
    | false => exact absurd (congrArg ByteArray.toList (kLt_tri h3 h5)) h2
  simp [cmpK, h3, h4]
theorem cmpK_w3 {a b : ByteArray} (h2 : a.toList = b.toList) : 0 = cmpK a b := by
  have := ba_toList_inj h2
  subst this
  simp [cmpK, kLt_irrefl]
theorem isNaNs_any (s : ByteArray) (w : World) : Calls Tryz.prog 116 #[.string s] w fun e w' => e = .returned (.bool false) ∧ w' = w := by
  go_enter Tryz.func116, Tryz.ntmps116
  go_wp2
  go_ret
  exact ⟨by simp, rfl⟩
theorem isNaNi_any (s : Int) (w : World) : Calls Tryz.prog 117 #[.int .i64 s] w fun e w' => e = .returned (.bool false) ∧ w' = w := by
  go_enter Tryz.func117, Tryz.ntmps117
  go_wp2
  go_ret
  exact ⟨by simp, rfl⟩
set_option maxHeartbeats 400000 in
theorem cmpStr_any (a b : ByteArray) (w : World) : Calls Tryz.prog 104 #[.string a, .string b] w fun e w' => e = .returned (.int .i64 (cmpK a b)) ∧ w' = w := by
  go_enter Tryz.func104, Tryz.ntmps104
  go_wp2_with (go_at_call 116; refine (isNaNs_any _ _).mono ?_; rintro e w' ⟨rfl, rfl⟩)
  all_goals go_ret
  · exact ⟨ret_intE (cmpK_w1 ‹_›), rfl⟩
  · exact ⟨ret_intE (cmpK_w2 ‹_› (by simp_all)), rfl⟩
  · exact ⟨ret_intE (cmpK_w3 (by simp_all)), rfl⟩
set_option maxHeartbeats 400000 in
theorem cmpInt_any (a b : Int) (w : World) : Calls Tryz.prog 105 #[.int .i64 a, .int .i64 b] w fun e w' => e = .returned (.int .i64 (cmpI a b)) ∧ w' = w := by
  go_enter Tryz.func105, Tryz.ntmps105
  go_wp2_with (go_at_call 117; refine (isNaNi_any _ _).mono ?_; rintro e w' ⟨rfl, rfl⟩)
  all_goals go_ret
  all_goals exact ⟨ret_intE (by unfold cmpI; first | rw [if_pos ‹_›] | (rw [if_neg (by omega)]; first | rw [if_pos ‹_›] | rw [if_neg (by omega)])), rfl⟩
theorem cmpK_bd (a b : ByteArray) : -1 ≤ cmpK a b ∧ cmpK a b ≤ 1 := by unfold cmpK; split <;> (try split) <;> omega
theorem cmpI_bd (a b : Int) : -1 ≤ cmpI a b ∧ cmpI a b ≤ 1 := by unfold cmpI; split <;> (try split) <;> omega
set_option maxHeartbeats 400000 in
set_option maxRecDepth 100000 in
theorem or_any (x y : Int) (b : Nat) (w : World) (h0 : w.cell? ⟨b, 0, none⟩ = some (.int .i64 x)) (h1 : w.cell? ⟨b, 1, none⟩ = some (.int .i64 y)) (bx : -1 ≤ x ∧ x ≤ 1) (hy1 : -1 ≤ y ∧ y ≤ 1) :
    Calls Tryz.prog 103 #[.slice (some ⟨b, 0, none⟩) 2 2] w fun e w' => e = .returned (.int .i64 (if x ≠ 0 then x else y)) ∧ w' = w := by
  by_cases hx : x = 0
  · have hy' : (if x ≠ 0 then x else y) = y := by simp [hx]
    rw [hy']
    clear hy'
    subst hx
    by_cases hy : y = 0
    · subst hy
      go_enter Tryz.func103, Tryz.ntmps103
      go_wp2
      refine wp_loop_rounds 3 ?_
      rw [rounds_succ]
      go_wp2
      rw [rounds_succ]
      go_wp2
      rw [rounds_succ]
      go_wp2
      go_ret
      exact ⟨rfl, rfl⟩
    · have hy2 : (y != 0) = true := by simpa using hy
      go_enter Tryz.func103, Tryz.ntmps103
      go_wp2
      refine wp_loop_rounds 3 ?_
      rw [rounds_succ]
      go_wp2
      rw [rounds_succ]
      go_wp2
      go_ret
      exact ⟨rfl, rfl⟩
  · have hx' : (if x ≠ 0 then x else y) = x := by simp [hx]
    rw [hx']
    clear hx'
    have hx2 : (x != 0) = true := by simpa using hx
    go_enter Tryz.func103, Tryz.ntmps103
    go_wp2
    refine wp_loop_rounds 3 ?_
    rw [rounds_succ]
    go_wp2
    go_ret
    exact ⟨rfl, rfl⟩
end Go.Proofs.YtjnhhdnfncfedaaGreat
namespace Go.Proofs.YtjnhhdnfncfedaaGreat
open Go.RowKit
theorem Tryz.info2 : (Tryz.prog.info? 2).map (fun i => (i.zero, i.size, i.bytes)) = some (some (.int .i64 0), 1, 8) := by kernel_rfl
def IV (ns : List Int) : List Value := ns.map (Value.int .i64)
theorem IV_length (ns : List Int) : (IV ns).length = ns.length := by simp [IV]
theorem IV_append (a b : List Int) : IV (a ++ b) = IV a ++ IV b := by simp [IV]
theorem IV_get (ns : List Int) (i : Nat) (h : i < ns.length) : (IV ns)[i]? = some (.int .i64 ns[i]) := by simp [IV, h]
theorem IV_set (ns : List Int) (i : Nat) (n : Int) : IV (ns.set i n) = (IV ns).set i (.int .i64 n) := by simp [IV, List.map_set]
theorem IV_oneCell (ns : List Int) : ∀ u ∈ IV ns, u.oneCell' = true := by
  intro u hu
  obtain ⟨_, _, rfl⟩ := List.mem_map.1 hu
  rfl
/-- The slice v is the call's own (its block is at least number base) and holds the numbers ns. -/
def OwnI (w : World) (base : Nat) (v : Value) (ns : List Int) : Prop := w.ownsRow base 2 1 v ns.length (IV ns)
/-- The slice v can be read and holds the numbers ns. -/
def RdI (w : World) (v : Value) (ns : List Int) : Prop :=
  ∃ a cap, v = .slice a ns.length cap ∧ ns.length ≤ cap ∧ cap ≤ maxLen ∧ (a = none → cap = 0) ∧
    (ns = [] ∨ ∃ b off, a = some ⟨b, off, none⟩ ∧ ∀ i (h : i < ns.length), w.cell? ⟨b, off + i, none⟩ = some (.int .i64 ns[i]))
theorem OwnI.rd {w : World} {base : Nat} {v : Value} {ns : List Int} (h : OwnI w base v ns) : RdI w v ns := by
  have h' := h
  rcases h.2 with ⟨rfl, h0⟩ | ⟨g, cap, cur, rfl, hb, hg, hn, hc, hs, ht⟩
  · have : ns = [] := List.length_eq_zero_iff.1 h0
    subst this
    exact ⟨none, 0, rfl, Nat.le_refl _, Nat.zero_le _, fun _ => rfl, .inl rfl⟩
  · refine ⟨some ⟨g, 0, none⟩, cap, rfl, hn, hc, (fun h => by cases h), .inr ⟨g, 0, rfl, fun i hi => ?_⟩⟩
    have := h'.cellAt i (by omega)
    rw [IV_get ns i hi] at this
    simpa using this
theorem OwnI.below {w w' : World} {base : Nat} {v : Value} {ns : List Int} (h : OwnI w base v ns) (hb : Below w.heap.size w w') : OwnI w' base v ns := own_below h hb
theorem OwnI.drewN {w : World} {base : Nat} {v : Value} {ns : List Int} (h : OwnI w base v ns) (q : Nat) : OwnI (w.drewN q) base v ns := h
theorem OwnI.mono {w : World} {base base' : Nat} {v : Value} {ns : List Int} (h : OwnI w base v ns) (hb : base' ≤ base) : OwnI w base' v ns := by
  refine ⟨h.1, ?_⟩
  rcases h.2 with h2 | ⟨g, cap, cur, hv, hg, r⟩
  · exact .inl h2
  · exact .inr ⟨g, cap, cur, hv, Nat.le_trans hb hg, r⟩
theorem RdI.below {w w' : World} {v : Value} {ns : List Int} (h : RdI w v ns) (hb : Below w.heap.size w w') : RdI w' v ns := by
  obtain ⟨a, cap, hv, h1, h2, h0, h3⟩ := h
  refine ⟨a, cap, hv, h1, h2, h0, ?_⟩
  rcases h3 with h3 | ⟨b, off, ha, hc⟩
  · exact .inl h3
  · exact .inr ⟨b, off, ha, fun i hi => by rw [hb.cell (World.block_lt_of_cell? w _ (hc i hi))]; exact hc i hi⟩
theorem RdI.drewN {w : World} {v : Value} {ns : List Int} (h : RdI w v ns) (q : Nat) : RdI (w.drewN q) v ns := h
theorem rdI_nil (w : World) : RdI w (.slice none 0 0) [] := ⟨none, 0, rfl, Nat.le_refl _, Nat.zero_le _, fun _ => rfl, .inl rfl⟩
theorem ownI_none (w : World) : OwnI (w.alloc (.cells #[] 2)) w.heap.size (.slice (some ⟨w.heap.size, 0, none⟩) 0 0) [] := World.ownsRow_lit w #[] 0 (Nat.le_refl _) (Nat.zero_le _) rfl
theorem ownI_nil (w : World) (B : Nat) : OwnI w B (.slice none 0 0) [] := ⟨rfl, .inl ⟨rfl, rfl⟩⟩
theorem ownI_one (w : World) (n : Int) : OwnI (w.alloc (.cells #[.int .i64 n] 2)) w.heap.size (.slice (some ⟨w.heap.size, 0, none⟩) 1 1) [n] := World.ownsRow_lit w #[.int .i64 n] 1 (Nat.le_refl _) (by unfold maxLen; omega) rfl
theorem ownI_lt {w : World} {B : Nat} {v : Value} {ns : List Int} (h : OwnI w B v ns) : ∀ k, v.ownBlock = some k → k < w.heap.size := fun k hk => (World.ownsRow.lt h k hk).2
theorem ownI_more {w1 : World} {B : Nat} {v' : Value} {ys zs : List Int} (h : w1.ownsRow B 2 1 v' (ys.length + zs.length) (IV ys ++ IV zs)) : OwnI w1 B v' (ys ++ zs) := by
  unfold OwnI
  rw [IV_append, List.length_append]
  exact h
theorem ownI_some {w : World} {B : Nat} {v : Value} {ns : List Int} (h : OwnI w B v ns) (hn : ns ≠ []) : ∃ g cap, v = .slice (some ⟨g, 0, none⟩) ns.length cap := by
  rcases h.2 with ⟨_, h0⟩ | ⟨g, cap, cur, hv, _⟩
  · exact absurd (List.length_eq_zero_iff.1 h0) hn
  · exact ⟨g, cap, hv⟩
theorem RdI.at {w : World} {a : Option Addr} {n cap : Nat} {ns : List Int} (h : RdI w (.slice a n cap) ns) (i : Nat) (hi : i < ns.length) : ∃ b off, a = some ⟨b, off, none⟩ ∧ w.cell? ⟨b, off + i, none⟩ = some (.int .i64 ns[i]) := by
  obtain ⟨a', cap', hv, _, _, _, h3⟩ := h
  simp only [Value.slice.injEq] at hv
  obtain ⟨rfl, _, _⟩ := hv
  rcases h3 with rfl | ⟨b, off, ha, hc⟩
  · simp at hi
  · exact ⟨b, off, ha, hc i hi⟩
theorem rdI_take {w : World} {a : Option Addr} {n cap k : Nat} {ns : List Int} (h : RdI w (.slice a n cap) ns) (hk : k ≤ ns.length) : RdI w (.slice a k cap) (ns.take k) := by
  obtain ⟨a', cap', hv, h1, h2, h0, h3⟩ := h
  simp only [Value.slice.injEq] at hv
  obtain ⟨rfl, _, rfl⟩ := hv
  have hl : (ns.take k).length = k := by rw [List.length_take]; omega
  refine ⟨a, cap, by rw [hl], by omega, h2, h0, ?_⟩
  rcases h3 with rfl | ⟨b, off, ha, hc⟩
  · exact .inl (by simp)
  · exact .inr ⟨b, off, ha, fun i hi => by rw [List.getElem_take]; exact hc i (by omega)⟩
theorem rdI_cut {w : World} {b off n cap k : Nat} {ns : List Int} (h : RdI w (.slice (some ⟨b, off, none⟩) n cap) ns) (hk : k ≤ ns.length) : RdI w (.slice (if cap = k then some ⟨b, off, none⟩ else some ⟨b, off + k, none⟩) (ns.length - k) (cap - k)) (ns.drop k) := by
  obtain ⟨a', cap', hv, h1, h2, h0, h3⟩ := h
  simp only [Value.slice.injEq] at hv
  obtain ⟨rfl, _, rfl⟩ := hv
  have hl : (ns.drop k).length = ns.length - k := List.length_drop
  split
  · rename_i hck
    have hl0 : ns.length - k = 0 := by omega
    rw [hl0]
    exact ⟨_, _, by rw [hl, hl0], by rw [hl]; omega, by omega, (fun h => by cases h), .inl (List.drop_eq_nil_of_le (by omega))⟩
  · refine ⟨_, _, by rw [hl], by omega, by omega, (fun h => by cases h), ?_⟩
    rcases h3 with rfl | ⟨b', off', ha, hc⟩
    · exact .inl (by simp)
    · cases ha
      refine .inr ⟨b, off + k, rfl, fun i hi => ?_⟩
      have := hc (k + i) (by omega)
      rw [← Nat.add_assoc] at this
      rw [this, List.getElem_drop]
/-- append of numbers that can be read onto a row of the call's own. -/
theorem run_append_ints (ty : TypeId) {w : World} {base : Nat} {v u : Value} {ys zs : List Int} (hown : OwnI w base v ys) (hr : RdI w u zs) (hl : ys.length + zs.length ≤ 1000000000) (hbase : base ≤ w.heap.size) :
    ∃ v' w', (Builtin.append_ #[24, 24] ty #[v, u]).run Tryz.prog w = .ok v' w' ∧ OwnI w' base v' (ys ++ zs) ∧ w.grownBy w' v.ownBlock := by
  obtain ⟨i0, hi, hz0, hz1, hz2⟩ := info_parts Tryz.info2
  obtain ⟨a, cap, rfl, h1, h2, h0, h3⟩ := hr
  have row : ∀ ad, (∀ j u, (IV zs)[j]? = some u → w.cell? (ad.add j) = some u) → ∃ v' w', (Builtin.append_ #[24, 24] ty #[v, .slice (some ad) zs.length cap]).run Tryz.prog w = .ok v' w' ∧ OwnI w' base v' (ys ++ zs) ∧ w.grownBy w' v.ownBlock := by
    intro ad hc
    obtain ⟨v', w', hrun, r1, r2, _⟩ := run_append_own (P := Tryz.prog) w base 24 ty 2 i0 _ 1 8 Tryz.underlying24 hi hz0 hz1 hz2 rfl (by decide) v ys.length (IV ys) hown ad zs.length cap (IV zs) (by rw [IV_length]; omega) hc (IV_oneCell zs) (by unfold maxLen; omega) (by omega) hbase
    exact ⟨v', w', hrun, ownI_more r1, r2⟩
  cases a with
  | some ad =>
    refine row ad ?_
    rcases h3 with rfl | ⟨b, off, ha, hc⟩
    · intro j u hj; simp [IV] at hj
    · cases ha
      intro j u hj
      have hjl : j < zs.length := by have := (List.getElem?_eq_some_iff.1 hj).1; rwa [IV_length] at this
      rw [IV_get zs j hjl] at hj
      cases hj
      rw [Addr.add_lit]
      exact hc j hjl
  | none =>
    have hc0 := h0 rfl
    subst hc0
    rcases h3 with rfl | ⟨b, off, ha, hc⟩
    · refine ⟨v, w, run_append_owned_none (P := Tryz.prog) w base 24 ty 2 i0 1 Tryz.underlying24 hi v ys.length (IV ys) hown, by simpa using hown, ⟨rfl, rfl, rfl, Nat.le_refl _, fun _ _ _ => rfl⟩⟩
    · cases ha
theorem wpList_append_ints {w : World} {ops : Array Oper} {rest : List Oper} {o : Oper} {a : Act} {Q : Exit → Act → World → Prop} (hgd : o.guard = none) (s x : Operand)
    (ho : o.op = .call { callee := .builtin .append, args := #[s, x], argTypes := #[24, 24] }) (base : Nat) (v u : Value) (ys zs : List Int) (hs : a.eval s = v) (hx : a.eval x = u) (hown : OwnI w base v ys) (hr : RdI w u zs) (hl : ys.length + zs.length ≤ 1000000000) (hbase : base ≤ w.heap.size)
    (h : ∀ v' w', OwnI w' base v' (ys ++ zs) → w.grownBy w' v.ownBlock → wpList Tryz.prog ops Q rest (a.put o.dst v') w') : wpList Tryz.prog ops Q (o :: rest) a w := by
  refine wpList_plain hgd fun K hK => ?_
  obtain ⟨v', w', hrun, r1, r2⟩ := run_append_ints o.type hown hr hl hbase
  unfold Oper.wp
  simp [execOp, ho, resolve, invoke, builtin, hs, hx, hrun, Result.andThen]
  exact hK _ _ (h v' w' r1 r2)
theorem step_append_ints {w : World} {ops : Array Oper} {o : Oper} {a : Act} {K : Act → World → Prop} {Q : Exit → Act → World → Prop} {E : Prop} (hgd : o.guard = none) (d : Nat) (hd : o.dst = some d) (s x : Operand)
    (ho : o.op = .call { callee := .builtin .append, args := #[s, x], argTypes := #[24, 24] }) (base : Nat) (v u : Value) (ys zs : List Int) (hs : a.eval s = v) (hx : a.eval x = u) (hown : OwnI w base v ys) (hr : RdI w u zs) (hl : ys.length + zs.length ≤ 1000000000) (hbase : base ≤ w.heap.size)
    (h : ∀ v' w', OwnI w' base v' (ys ++ zs) → w.grownBy w' v.ownBlock → K (a.put (some d) v') w') :
    if Region.wanted o (yielded ops a.tmps) = true then Oper.wp Tryz.prog o a w K Q else E := by
  have hw : Region.wanted o (yielded ops a.tmps) = true := by simp [Region.wanted, hgd]
  rw [if_pos hw]
  obtain ⟨v', w', hrun, r1, r2⟩ := run_append_ints o.type hown hr hl hbase
  unfold Oper.wp
  simp [execOp, ho, resolve, invoke, builtin, hs, hx, hrun, Result.andThen]
  have h' := h v' w' r1 r2
  rw [← hd] at h'
  exact h'
end Go.Proofs.YtjnhhdnfncfedaaGreat
