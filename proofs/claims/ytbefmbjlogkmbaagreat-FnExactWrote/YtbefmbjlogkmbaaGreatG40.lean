/- Plain facts on rows of writes (three cells each) that a call owns or reads. The contracts of the law's measure, copy and comparison of writes. The contracts of the model's look at a batch and of the program's entry of a write. Plain facts on batches of writes. -/
import Derived.Test.YtbefmbjlogkmbaaGreatTreMath2
import Derived.Test.YtbefmbjlogkmbaaGreatG05
import Derived.Deep.RegionLaw
import Derived.Deep.RegionHeld3
import Derived.Test.YtbefmbjlogkmbaaGreatG02
namespace Go.Proofs.YtbefmbjlogkmbaaGreat
open Go.RowKit
def zeroW : Wri := ⟨⟨#[]⟩, ⟨#[]⟩, false⟩
def nthW (xs : List Wri) (i : Nat) : Wri := xs.getD i zeroW
theorem nthW_eq {xs : List Wri} {i : Nat} (h : i < xs.length) : nthW xs i = xs[i] := by simp [nthW, List.getD, List.getElem?_eq_getElem h]
theorem nthW_zero (a : Wri) (r : List Wri) : nthW (a :: r) 0 = a := by simp [nthW]
theorem nthW_succ (a : Wri) (r : List Wri) (i : Nat) : nthW (a :: r) (i + 1) = nthW r i := by simp [nthW, List.getD]
theorem Tryz.infoW59 : (Tryz.prog.info? 59).map (fun i => (i.zero, i.size, i.bytes)) = some (some (.agg #[.string ⟨#[]⟩, .string ⟨#[]⟩, .bool false]), 3, 40) := by kernel_rfl
def WC (e : Wri) : List Value := [.string e.key, .string e.val, .bool e.gone]
def WA (e : Wri) : Value := .agg #[.string e.key, .string e.val, .bool e.gone]
def WV (es : List Wri) : List Value := es.flatMap WC
theorem WV_length : ∀ es : List Wri, (WV es).length = es.length * 3
  | [] => rfl
  | a :: r => by
    have := WV_length r
    unfold WV at this ⊢
    rw [List.flatMap_cons, List.length_append, this, List.length_cons]
    simp [WC]; omega
theorem WV_cons (a : Wri) (r : List Wri) : WV (a :: r) = WC a ++ WV r := by simp [WV]
theorem WV_get : ∀ (es : List Wri) (i : Nat), i < es.length → ∀ j, j < 3 → (WV es)[i * 3 + j]? = (WC (nthW es i))[j]?
  | [], i, h, _, _ => by simp at h
  | a :: r, 0, _, j, hj => by
    rw [WV_cons, nthW_zero, Nat.zero_mul, Nat.zero_add, List.getElem?_append_left (by simp [WC]; exact hj)]
  | a :: r, i + 1, h, j, hj => by
    rw [WV_cons, nthW_succ, ← WV_get r i (by simpa using h) j hj, List.getElem?_append_right (by simp [WC]; omega)]
    congr 1
    simp [WC]; omega
def WriAt (w : World) (b o : Nat) (e : Wri) : Prop :=
  w.cell? ⟨b, o, none⟩ = some (.string e.key) ∧ w.cell? ⟨b, o + 1, none⟩ = some (.string e.val) ∧ w.cell? ⟨b, o + 2, none⟩ = some (.bool e.gone)
def OwnW (w : World) (base : Nat) (v : Value) (es : List Wri) : Prop := w.ownsRow base 59 3 v es.length (WV es)
def RdW (w : World) (v : Value) (es : List Wri) : Prop :=
  ∃ a cap, v = .slice a es.length cap ∧ es.length ≤ cap ∧ cap ≤ maxLen ∧ (a = none → cap = 0) ∧
    (es = [] ∨ ∃ b off, a = some ⟨b, off, none⟩ ∧ ∀ i, i < es.length → WriAt w b (off + i * 3) (nthW es i))
theorem WriAt.lt {w : World} {b o : Nat} {e : Wri} (h : WriAt w b o e) : b < w.heap.size := World.block_lt_of_cell? w _ h.1
theorem WriAt.of_block {w w' : World} {b o : Nat} {e : Wri} (h : WriAt w b o e) (hb : w'.heap[b]? = w.heap[b]?) : WriAt w' b o e :=
  ⟨(World.cell?_of_block (a := ⟨b, o, none⟩) hb).trans h.1, (World.cell?_of_block (a := ⟨b, o + 1, none⟩) hb).trans h.2.1, (World.cell?_of_block (a := ⟨b, o + 2, none⟩) hb).trans h.2.2⟩
theorem WriAt.below {w w' : World} {b o : Nat} {e : Wri} (h : WriAt w b o e) (hb : Below w.heap.size w w') : WriAt w' b o e := h.of_block (hb.block b h.lt)
theorem ownW_cell {w : World} {base g cap n : Nat} {es : List Wri} (h : w.ownsRow base 59 3 (.slice (some ⟨g, 0, none⟩) n cap) n (WV es)) (hn : n = es.length) (i : Nat) (hi : i < n) : WriAt w g (i * 3) (nthW es i) := by
  subst hn
  have c : ∀ j, j < 3 → w.cell? ⟨g, i * 3 + j, none⟩ = (WC (nthW es i))[j]? := fun j hj => (h.cellAt (i * 3 + j) (by omega)).trans (WV_get es i hi j hj)
  exact ⟨c 0 (by omega), c 1 (by omega), c 2 (by omega)⟩
theorem OwnW.rd {w : World} {base : Nat} {v : Value} {es : List Wri} (h : OwnW w base v es) : RdW w v es := by
  have h' := h
  rcases h.2 with ⟨rfl, h0⟩ | ⟨g, cap, cur, rfl, hb, hg, hn, hc, hs, ht⟩
  · have : es = [] := List.length_eq_zero_iff.1 h0
    subst this
    exact ⟨none, 0, rfl, Nat.le_refl _, Nat.zero_le _, fun _ => rfl, .inl rfl⟩
  · refine ⟨some ⟨g, 0, none⟩, cap, rfl, hn, hc, (fun h => by cases h), .inr ⟨g, 0, rfl, fun i hi => ?_⟩⟩
    rw [Nat.zero_add]
    exact ownW_cell h' rfl i hi
theorem OwnW.below {w w' : World} {base : Nat} {v : Value} {es : List Wri} (h : OwnW w base v es) (hb : Below w.heap.size w w') : OwnW w' base v es := own_below h hb
theorem OwnW.drewN {w : World} {base : Nat} {v : Value} {es : List Wri} (h : OwnW w base v es) (q : Nat) : OwnW (w.drewN q) base v es := h
theorem OwnW.mono {w : World} {base base' : Nat} {v : Value} {es : List Wri} (h : OwnW w base v es) (hb : base' ≤ base) : OwnW w base' v es := by
  refine ⟨h.1, ?_⟩
  rcases h.2 with h2 | ⟨g, cap, cur, hv, hg, r⟩
  · exact .inl h2
  · exact .inr ⟨g, cap, cur, hv, Nat.le_trans hb hg, r⟩
theorem RdW.below {w w' : World} {v : Value} {es : List Wri} (h : RdW w v es) (hb : Below w.heap.size w w') : RdW w' v es := by
  obtain ⟨a, cap, hv, h1, h2, h0, h3⟩ := h
  refine ⟨a, cap, hv, h1, h2, h0, ?_⟩
  rcases h3 with h3 | ⟨b, off, ha, hc⟩
  · exact .inl h3
  · exact .inr ⟨b, off, ha, fun i hi => (hc i hi).below hb⟩
theorem RdW.drewN {w : World} {v : Value} {es : List Wri} (h : RdW w v es) (q : Nat) : RdW (w.drewN q) v es := h
theorem rdW_nil (w : World) : RdW w (.slice none 0 0) [] := ⟨none, 0, rfl, Nat.le_refl _, Nat.zero_le _, fun _ => rfl, .inl rfl⟩
theorem RdW.at {w : World} {a : Option Addr} {n cap : Nat} {es : List Wri} (h : RdW w (.slice a n cap) es) (hn : n = es.length) (i : Nat) (hi : i < es.length) : ∃ b off, a = some ⟨b, off, none⟩ ∧ WriAt w b (off + i * 3) (nthW es i) := by
  obtain ⟨a', cap', hv, _, _, _, h3⟩ := h
  simp only [Value.slice.injEq] at hv
  obtain ⟨rfl, _, _⟩ := hv
  rcases h3 with rfl | ⟨b, off, ha, hc⟩
  · simp at hi
  · exact ⟨b, off, ha, hc i hi⟩
theorem WriAt.cellAt {w : World} {b o : Nat} {e : Wri} (h : WriAt w b o e) {j : Nat} {u : Value} (hu : (WC e)[j]? = some u) : w.cell? ⟨b, o + j, none⟩ = some u := by
  obtain ⟨h0, h1, h2⟩ := h
  match j, hu with
  | 0, hu => simp [WC] at hu; subst hu; exact h0
  | 1, hu => simp [WC] at hu; subst hu; exact h1
  | 2, hu => simp [WC] at hu; subst hu; exact h2
end Go.Proofs.YtbefmbjlogkmbaaGreat
-- UNF WriAt
namespace Go.Proofs.YtbefmbjlogkmbaaGreat
open Go.RowKit
theorem made_WV (n : Nat) : (madeCells #[.string ⟨#[]⟩, .string ⟨#[]⟩, .bool false] (n * 3)).toList = WV (List.replicate n zeroW) := by
  apply List.ext_getElem?
  intro j
  by_cases hj : j < n * 3
  · have h1 : j / 3 < n := by omega
    have h2 := WV_get (List.replicate n zeroW) (j / 3) (by rw [List.length_replicate]; exact h1) (j % 3) (by omega)
    rw [show j / 3 * 3 + j % 3 = j by omega] at h2
    rw [h2, nthW_eq (by rw [List.length_replicate]; exact h1), List.getElem_replicate]
    have h3 : j % 3 = 0 ∨ j % 3 = 1 ∨ j % 3 = 2 := by omega
    rcases h3 with h | h | h <;> simp [madeCells, hj, h, WC, zeroW]
  · rw [List.getElem?_eq_none (by rw [Array.length_toList, size_madeCells]; omega), List.getElem?_eq_none (by rw [WV_length, List.length_replicate]; omega)]
theorem WV_setAt : ∀ (es : List Wri) (k : Nat), k < es.length → ∀ (j : Nat), j < 3 → ∀ (u : Value) (e' : Wri), (WC (nthW es k)).set j u = WC e' → (WV es).set (k * 3 + j) u = WV (es.set k e')
  | [], k, h, _, _, _, _, _ => by simp at h
  | a :: r, 0, _, j, hj, u, e', h => by
    rw [nthW_zero] at h
    rw [WV_cons, Nat.zero_mul, Nat.zero_add, List.set_append_left _ _ (by simp [WC]; exact hj), h, List.set_cons_zero, WV_cons]
  | a :: r, k + 1, hk, j, hj, u, e', h => by
    rw [nthW_succ] at h
    rw [WV_cons, List.set_append_right _ _ (by simp [WC]; omega), List.set_cons_succ, WV_cons, ← WV_setAt r k (by simpa using hk) j hj u e' h]
    congr 2
    simp [WC]; omega
theorem ownW_store {w : World} {base g cap n : Nat} {es : List Wri} (ho : w.ownsRow base 59 3 (.slice (some ⟨g, 0, none⟩) n cap) n (WV es)) {k j : Nat} (hk : k < es.length) (hj : j < 3) {u : Value} {e' : Wri} (h : (WC (nthW es k)).set j u = WC e') :
    (w.setCell ⟨g, k * 3 + j, none⟩ u).ownsRow base 59 3 (.slice (some ⟨g, 0, none⟩) n cap) n (WV (es.set k e')) := by
  have := (ho.stored (k * 3 + j) u).1
  rwa [WV_setAt es k hk j hj u e' h] at this
theorem nthW_set_same {es : List Wri} {k : Nat} (hk : k < es.length) (e : Wri) : nthW (es.set k e) k = e := by
  rw [nthW_eq (by rw [List.length_set]; exact hk), List.getElem_set_self]
theorem ownW_store3 {w : World} {base g cap n : Nat} {es : List Wri} (ho : w.ownsRow base 59 3 (.slice (some ⟨g, 0, none⟩) n cap) n (WV es)) {k : Nat} (hk : k < es.length) (x : Wri) :
    (((w.setCell ⟨g, k * 3, none⟩ (.string x.key)).setCell ⟨g, k * 3 + 1, none⟩ (.string x.val)).setCell ⟨g, k * 3 + 2, none⟩ (.bool x.gone)).ownsRow base 59 3 (.slice (some ⟨g, 0, none⟩) n cap) n (WV (es.set k x)) := by
  have h0 := ownW_store ho hk (j := 0) (by omega) (u := .string x.key) (e' := { nthW es k with key := x.key }) rfl
  have h1 := ownW_store h0 (k := k) (j := 1) (by rw [List.length_set]; exact hk) (by omega) (u := .string x.val) (e' := { nthW es k with key := x.key, val := x.val }) (by rw [nthW_set_same hk]; rfl)
  rw [List.set_set] at h1
  have h2 := ownW_store h1 (k := k) (j := 2) (by rw [List.length_set]; exact hk) (by omega) (u := .bool x.gone) (e' := x) (by rw [nthW_set_same hk]; rfl)
  rw [List.set_set] at h2
  exact h2
theorem cpW_step (bs : List Wri) (z : Wri) (k : Nat) (h : k < bs.length) : (bs.take k ++ List.replicate (bs.length - k) z).set k (nthW bs k) = bs.take (k + 1) ++ List.replicate (bs.length - (k + 1)) z := by
  have hl : (bs.take k).length = k := by rw [List.length_take]; omega
  rw [List.set_append_right _ _ (by omega), hl, Nat.sub_self]
  obtain ⟨m, hm⟩ : ∃ m, bs.length - k = m + 1 := ⟨bs.length - k - 1, by omega⟩
  have hm2 : bs.length - (k + 1) = m := by omega
  rw [hm, hm2, List.replicate_succ, List.set_cons_zero, List.take_succ_eq_append_getElem h, List.append_assoc, List.singleton_append, nthW_eq h]
theorem cpW_len (bs : List Wri) (z : Wri) (k : Nat) (h : k ≤ bs.length) : (bs.take k ++ List.replicate (bs.length - k) z).length = bs.length := by
  rw [List.length_append, List.length_take, List.length_replicate]; omega
set_option maxHeartbeats 1000000 in
set_option maxRecDepth 100000 in
theorem toWrite_any (x : Wri) (w : World) :
    Calls Tryz.prog 31 #[.agg #[.string x.key, .string x.val, .bool x.gone]] w fun e w' => e = .returned (.agg #[.string x.key, .string x.val, .bool x.gone]) ∧ Below w.heap.size w w' := by
  go_enter Tryz.func31, Tryz.ntmps31
  go_wp2
  refine bodyPost_ret (v := .agg #[.string x.key, .string x.val, .bool x.gone]) (by simp [results, Tryz.results31, go_sem]) rfl ⟨rfl, (below2 _ _ _).alloc (by simp; omega) _⟩
set_option maxHeartbeats 1000000 in
set_option maxRecDepth 100000 in
theorem toWris_any (v : Value) (bs : List Wri) (w : World) (hr : RdW w v bs) (hs : bs.length ≤ 1073741824) :
    Calls Tryz.prog 10 #[v] w fun e w' => ∃ u, e = .returned u ∧ OwnW w' w.heap.size u bs ∧ Below w.heap.size w w' := by
  obtain ⟨i0, hi, hz0, hz1, hz2⟩ := info_parts Tryz.infoW59
  obtain ⟨a, cap, hv, hl, hm, _⟩ := id hr
  unfold maxLen at hm
  subst hv
  go_enter Tryz.func10, Tryz.ntmps10
  go_wp2_with (at_make; (refine wpList_make_full _ rfl _ _ 37 rfl w.heap.size 59 i0 _ 3 Tryz.underlying37 hi hz0 hz1 .i64 .i64 (bs.length : Int) (bs.length : Int) bs.length rfl rfl rfl rfl ?c1 ?c2 ?c3 ?_))
  case c1 => rw [hz2]; omega
  case c2 => unfold maxLen; omega
  case c3 => omega
  intro w1 ho1 hg1
  rw [made_WV] at ho1
  have hb1 : Below w.heap.size w w1 := (Below.refl _ _).grown hg1 (Nat.le_refl _) (fun k hk => by cases hk)
  clear hg1
  go_wp2
  go_loopw [4] (fun i wr => ∃ k : Nat, k ≤ bs.length ∧ i = .int .i64 k ∧ wr.ownsRow w.heap.size 59 3 (.slice (some ⟨w.heap.size, 0, none⟩) bs.length bs.length) bs.length (WV (bs.take k ++ List.replicate (bs.length - k) zeroW)) ∧ Below w.heap.size w wr) (fun i _ => bs.length - (intOf i).toNat)
  case atStart => exact ⟨0, Nat.zero_le _, rfl, by simpa using ho1, hb1⟩
  case round =>
    obtain ⟨k, hk, rfl, ho, hb⟩ := hrel
    clear ho1 hb1
    by_cases hlt : k < bs.length
    · obtain ⟨b, off, rfl, hc⟩ := (hr.below hb).at rfl k hlt
      obtain ⟨x, hx⟩ : ∃ x, x = nthW bs k := ⟨_, rfl⟩
      rw [← hx] at hc
      have HX : Hid (x = nthW bs k) := hx
      clear hx
      obtain ⟨c0, c1, c2⟩ := hc
      go_wp2_with fail
      refine (toWrite_any x _).mono ?_
      rintro e w1 ⟨rfl, hb1⟩
      have ho1 := own_below ho hb1
      have hlen := cpW_len bs zeroW k hk
      obtain ⟨d0, d1, d2⟩ := ownW_cell ho1 hlen.symm k hlt
      have f0 := ho1.frozenAt (k * 3)
      have f1 := ho1.frozenAt (k * 3 + 1)
      have f2 := ho1.frozenAt (k * 3 + 2)
      have R1 := ownW_store3 ho1 (k := k) (by rw [hlen]; exact hlt) x
      rw [HX.out, cpW_step bs zeroW k hlt, ← HX.out] at R1
      have R2 := hb.trans (hb1.mono hb.size)
      have H1 : Hid (World.ownsRow _ _ _ _ _ _ _) := R1
      clear ho ho1 hb hb1 R1
      go_wp2
      go_roundw
      case rel => exact ⟨k + 1, by omega, by go_num, H1.out, ((R2.setCell (Nat.le_refl _) _).setCell (Nat.le_refl _) _).setCell (Nat.le_refl _) _⟩
      case measure => simp [intOf]; omega
    · have hke : k = bs.length := by omega
      subst hke
      have H1 : OwnW wr w.heap.size (.slice (some ⟨w.heap.size, 0, none⟩) bs.length bs.length) bs := by unfold OwnW; simpa using ho
      clear ho
      go_wp2
      go_ret
      exact ⟨_, rfl, H1, hb⟩
set_option maxHeartbeats 1000000 in
set_option maxRecDepth 100000 in
theorem eqWrite_same (x : Wri) (w : World) :
    Calls Tryz.prog 38 #[.agg #[.string x.key, .string x.val, .bool x.gone], .agg #[.string x.key, .string x.val, .bool x.gone]] w fun e w' => e = .returned (.bool true) ∧ Below w.heap.size w w' := by
  have h2 : (x.gone != x.gone) = false := by simp
  go_enter Tryz.func38, Tryz.ntmps38
  go_wp2
  go_ret
  exact ⟨rfl, below2 _ _ _⟩
set_option maxHeartbeats 1000000 in
set_option maxRecDepth 100000 in
theorem eqWris_same (va vb : Value) (es : List Wri) (w : World) (ha : RdW w va es) (hb : RdW w vb es) :
    Calls Tryz.prog 13 #[va, vb] w fun e w' => e = .returned (.bool true) ∧ Below w.heap.size w w' := by
  obtain ⟨aa, ca, hva, hla, hma, _⟩ := id ha
  obtain ⟨ab, cb, hvb, hlb, hmb, _⟩ := id hb
  subst hva
  subst hvb
  unfold maxLen at hma hmb
  have hne : ((es.length : Int) != (es.length : Int)) = false := by simp
  go_enter Tryz.func13, Tryz.ntmps13
  go_wp2
  go_loopw [5] (fun i wr => ∃ k : Nat, k ≤ es.length ∧ i = .int .i64 k ∧ Below w.heap.size w wr) (fun i _ => es.length - (intOf i).toNat)
  case atStart => exact ⟨0, Nat.zero_le _, rfl, Below.refl _ _⟩
  case round =>
    obtain ⟨k, hk, rfl, hbw⟩ := hrel
    by_cases hlt : k < es.length
    · obtain ⟨b1, o1, rfl, hc1⟩ := (ha.below hbw).at rfl k hlt
      obtain ⟨b2, o2, rfl, hc2⟩ := (hb.below hbw).at rfl k hlt
      obtain ⟨x, hx⟩ : ∃ x, x = nthW es k := ⟨_, rfl⟩
      rw [← hx] at hc1 hc2
      clear hx
      go_wp2_with fail
      refine wp_region_noPanic ?_
      refine wp_region_held_drew (S := fun w' => (w'.cell? ⟨b1, o1 + k * 3, none⟩ = some (.string x.key) ∧ w'.cell? ⟨b1, o1 + k * 3 + 1, none⟩ = some (.string x.val) ∧ w'.cell? ⟨b1, o1 + k * 3 + 2, none⟩ = some (.bool x.gone)) ∧ (w'.cell? ⟨b2, o2 + k * 3, none⟩ = some (.string x.key) ∧ w'.cell? ⟨b2, o2 + k * 3 + 1, none⟩ = some (.string x.val) ∧ w'.cell? ⟨b2, o2 + k * 3 + 2, none⟩ = some (.bool x.gone))) (by kernel_rfl) ⟨hc1, hc2⟩ (fun hH => ?_)
      refine tkA 0 17 hH ?_
      try simp only [Act.put, List.setIfInBounds_toArray, List.set_cons_zero, List.set_cons_succ]
      refine tkA 1 18 hH ?_
      try simp only [Act.put, List.setIfInBounds_toArray, List.set_cons_zero, List.set_cons_succ]
      refine tkA 2 19 hH ?_
      try simp only [Act.put, List.setIfInBounds_toArray, List.set_cons_zero, List.set_cons_succ]
      refine tkA 3 20 hH ?_
      try simp only [Act.put, List.setIfInBounds_toArray, List.set_cons_zero, List.set_cons_succ]
      refine tkA 4 21 hH ?_
      try simp only [Act.put, List.setIfInBounds_toArray, List.set_cons_zero, List.set_cons_succ]
      refine tkA 5 22 hH ?_
      try simp only [Act.put, List.setIfInBounds_toArray, List.set_cons_zero, List.set_cons_succ]
      refine tkA 6 23 hH ?_
      try simp only [Act.put, List.setIfInBounds_toArray, List.set_cons_zero, List.set_cons_succ]
      refine tkA 7 24 hH ?_
      try simp only [Act.put, List.setIfInBounds_toArray, List.set_cons_zero, List.set_cons_succ]
      refine wpAnyH_ready (rs := [8]) (by kernel_rfl) (by simp) ?_
      refine AllReadyH.cons rfl (fun K hK => ?_) AllReadyH.nil
      go_simp
      refine (eqWrite_same x _).mono ?_
      rintro e w1 ⟨rfl, hb1⟩
      refine hK.out _ _ ⟨WriAt.below (w := wr.drew) (e := x) hH.1 hb1, WriAt.below (w := wr.drew) (e := x) hH.2 hb1⟩ (fun hA => ?_)
      clear hK K
      try simp only [Act.put, List.setIfInBounds_toArray, List.set_cons_zero, List.set_cons_succ]
      refine tkA 9 26 hA ?_
      try simp only [Act.put, List.setIfInBounds_toArray, List.set_cons_zero, List.set_cons_succ]
      refine wpAnyH_done (by kernel_rfl) ?_ _
      refine NoPanic.normal ?_
      have bz := hbw.drew.trans (hb1.mono hbw.size)
      clear hH hA hc1 hc2
      go_wp2
      go_roundw
      case rel => exact ⟨k + 1, by omega, by go_num, bz⟩
      case measure => simp [intOf]; omega
    · go_wp2
      go_ret
      exact ⟨rfl, hbw⟩
end Go.Proofs.YtbefmbjlogkmbaaGreat
namespace Go.Proofs.YtbefmbjlogkmbaaGreat
open Go.RowKit
def FitsW (x : Wri) : Prop := x.key.size ≤ 4503599627370496 ∧ x.val.size ≤ 4503599627370496
def batchOk (xs : List Wri) : Bool := decide (xs.length ≤ 20) && xs.all wriOk
def BoxW (w : World) (b : Nat) (x : Wri) : Prop := w.cell? ⟨b, 0, none⟩ = some (.string x.key) ∧ w.cell? ⟨b, 1, none⟩ = some (.string x.val) ∧ w.cell? ⟨b, 2, none⟩ = some (.bool x.gone)
theorem boxW_new (w : World) (x : Wri) (t : TypeId) : BoxW (w.alloc (.cells #[.string x.key, .string x.val, .bool x.gone] t)) w.heap.size x := by
  refine ⟨?_, ?_, ?_⟩ <;> simp [World.cell?_alloc_at]
theorem batch_more {xs : List Wri} {k : Nat} (hk : k < xs.length) (h : (xs.take k).all wriOk = true) (hx : wriOk (nthW xs k) = true) : (xs.take (k + 1)).all wriOk = true := by
  rw [List.take_succ_eq_append_getElem hk, List.all_append, h, ← nthW_eq hk]
  simp [hx]
theorem batch_not {xs : List Wri} {k : Nat} (hk : k < xs.length) (hx : wriOk (nthW xs k) = false) : xs.all wriOk = false := by
  rw [Bool.eq_false_iff]
  intro h
  rw [List.all_eq_true] at h
  have := h (nthW xs k) (by rw [nthW_eq hk]; exact List.getElem_mem hk)
  rw [hx] at this
  cases this
set_option maxHeartbeats 2000000 in
set_option maxRecDepth 100000 in
theorem l7Batch_any (v : Value) (xs : List Wri) (w : World) (hr : RdW w v xs) (hf : ∀ x ∈ xs, FitsW x) :
    Calls Tryz.prog 60 #[v] w fun e w' => e = .returned (.bool (batchOk xs)) ∧ Below w.heap.size w w' := by
  obtain ⟨a, cap, hv, hl, hm, _⟩ := id hr
  unfold maxLen at hm
  obtain ⟨n, hn⟩ : ∃ n, n = xs.length := ⟨_, rfl⟩
  rw [← hn] at hv hl
  have HN : Hid (n = xs.length) := hn
  have HF : Hid (∀ x ∈ xs, FitsW x) := hf
  subst hv
  clear hn hf
  by_cases hbig : 20 < n
  · have END : Hid (batchOk xs = false) := by unfold Hid batchOk; rw [decide_eq_false (by rw [← HN.out]; omega)]; rfl
    go_enter Tryz.func60, Tryz.ntmps60
    go_wp2
    go_ret
    exact ⟨by rw [END.out]; rfl, Below.refl _ _⟩
  · have HB : Hid (∀ b, xs.all wriOk = b → batchOk xs = b) := fun b h => by unfold batchOk; rw [decide_eq_true (by rw [← HN.out]; omega), h]; rfl
    go_enter Tryz.func60, Tryz.ntmps60
    go_wp2
    go_loopw [3] (fun i wr => ∃ k : Nat, k ≤ n ∧ i = .int .i64 k ∧ Hid ((xs.take k).all wriOk = true) ∧ Below w.heap.size w wr) (fun i _ => n - (intOf i).toNat)
    case atStart => exact ⟨0, Nat.zero_le _, rfl, rfl, Below.refl _ _⟩
    case round =>
      obtain ⟨k, hk, rfl, HA, hb⟩ := hrel
      by_cases hlt : k < n
      · have hkl : k < xs.length := by rw [← HN.out]; exact hlt
        have hkc : k < cap := by omega
        obtain ⟨b, off, rfl, hc⟩ := (hr.below hb).at HN.out k hkl
        have hfx := HF.out (nthW xs k) (by rw [nthW_eq hkl]; exact List.getElem_mem hkl)
        have HM : Hid (wriOk (nthW xs k) = true → (xs.take (k + 1)).all wriOk = true) := fun h => batch_more hkl HA.out h
        have HNO : Hid (wriOk (nthW xs k) = false → batchOk xs = false) := fun h => HB.out false (batch_not hkl h)
        generalize nthW xs k = x at hc hfx HM HNO
        obtain ⟨c0, c1, c2⟩ := hc
        have HE : Hid (∀ W, Calls Tryz.prog 97 #[.agg #[.string x.key, .string x.val, .int .i64 1, .bool x.gone]] W fun e w' => e = .returned (.bool (wriOk x)) ∧ Below W.heap.size W w') := fun W => l3Entry_any (wriE x 1) W ⟨hfx.1, hfx.2, by show (-9223372036854775808 : Int) ≤ 1; omega, by show (1 : Int) ≤ 9223372036854775807; omega⟩
        have hx1 := boxW_new wr x 59
        have bb := hb.alloc hb.size (.cells #[.string x.key, .string x.val, .bool x.gone] 59)
        obtain ⟨d0, d1, d2⟩ := id hx1
        clear hkl hfx
        go_wp2_with fail
        refine (HE.out _).mono ?_
        rintro e w1 ⟨rfl, hb1⟩
        have b1 := bb.trans (hb1.mono bb.size)
        clear hx1 d0 d1 d2 bb hb1 hb HA
        cases hwx : wriOk x with
        | false =>
          have END : Hid (batchOk xs = false) := HNO.out hwx
          clear HM HNO HE hwx
          go_wp2
          go_ret
          exact ⟨by rw [END.out]; rfl, b1⟩
        | true =>
          have HA2 : Hid ((xs.take (k + 1)).all wriOk = true) := HM.out hwx
          clear HM HNO HE hwx
          go_wp2
          go_roundw
          case rel => exact ⟨k + 1, by omega, by go_num, HA2, b1⟩
          case measure => simp [intOf]; omega
      · have hke : k = n := by omega
        have END : Hid (batchOk xs = true) := HB.out true (by have := HA.out; rwa [hke, HN.out, List.take_length] at this)
        clear hke HA
        go_wp2
        go_ret
        exact ⟨by rw [END.out]; rfl, hb⟩
set_option maxHeartbeats 1000000 in
set_option maxRecDepth 100000 in
theorem entryOf_any (x : Wri) (s : Int) (w : World) :
    Calls Tryz.prog 65 #[.agg #[.string x.key, .string x.val, .bool x.gone], .int .i64 s] w fun e w' => e = .returned (.agg #[.string x.key, .string x.val, .int .i64 s, .bool x.gone]) ∧ Below w.heap.size w w' := by
  go_enter Tryz.func65, Tryz.ntmps65
  go_wp2
  refine bodyPost_ret (v := .agg #[.string x.key, .string x.val, .int .i64 s, .bool x.gone]) (by simp [results, Tryz.results65, go_sem]) rfl ⟨rfl, ?_⟩
  exact below2 _ _ _
end Go.Proofs.YtbefmbjlogkmbaaGreat
namespace Go.Proofs.YtbefmbjlogkmbaaGreat
open Go.RowKit
def putAll (T : Tre) (xs : List Wri) : Tre := xs.foldl put1 T
def roomFor (T : Tre) (xs : List Wri) : Bool := batchOk xs && decide (T.seq + (xs.length : Int) ≤ 1000000) && decide (T.mem.length + xs.length ≤ 300)
def wroteR (T : Tre) (xs : List Wri) : Tre := if treeOk T = true then (if roomFor T xs = true then putAll T xs else T) else zeroTr
def wroteO (T : Tre) (xs : List Wri) : Bool := treeOk T && roomFor T xs
theorem putAll_snoc (T : Tre) {xs : List Wri} {k : Nat} (hk : k < xs.length) : putAll T (xs.take (k + 1)) = put1 (putAll T (xs.take k)) (nthW xs k) := by
  unfold putAll
  rw [List.take_succ_eq_append_getElem hk, List.foldl_append, nthW_eq hk]
  rfl
theorem putAll_seq (T : Tre) (xs : List Wri) : (putAll T xs).seq = T.seq + (xs.length : Int) := by
  unfold putAll
  induction xs generalizing T with
  | nil => simp
  | cons a r ih =>
    rw [List.foldl_cons, ih, List.length_cons]
    show T.seq + 1 + (r.length : Int) = T.seq + ((r.length + 1 : Nat) : Int)
    omega
theorem putAll_len (T : Tre) (xs : List Wri) : (putAll T xs).mem.length = T.mem.length + xs.length := by
  unfold putAll
  induction xs generalizing T with
  | nil => simp
  | cons a r ih =>
    rw [List.foldl_cons, ih, List.length_cons]
    show (insE T.mem (wriE a (T.seq + 1))).length + r.length = T.mem.length + (r.length + 1)
    rw [insE_length]
    omega
theorem putAll_rest (T : Tre) (xs : List Wri) : (putAll T xs).young = T.young ∧ (putAll T xs).old = T.old ∧ (putAll T xs).snaps = T.snaps := by
  unfold putAll
  induction xs generalizing T with
  | nil => exact ⟨rfl, rfl, rfl⟩
  | cons a r ih => rw [List.foldl_cons]; exact ih (put1 T a)
theorem putAll_tree {T : Tre} (h : TreeP T) : ∀ {xs : List Wri}, xs.all wriOk = true → T.seq + (xs.length : Int) ≤ 1000000 → T.mem.length + xs.length ≤ 300 → TreeP (putAll T xs) := by
  intro xs
  unfold putAll
  induction xs generalizing T with
  | nil => intro _ _ _; exact h
  | cons a r ih =>
    intro h1 h2 h3
    rw [List.all_cons, Bool.and_eq_true] at h1
    rw [List.length_cons] at h2 h3
    rw [List.foldl_cons]
    refine ih (put1_tree h h1.1 (by omega) (by omega)) h1.2 ?_ ?_
    · show T.seq + 1 + (r.length : Int) ≤ 1000000
      omega
    · show (insE T.mem (wriE a (T.seq + 1))).length + r.length ≤ 300
      rw [insE_length]
      omega
theorem putOk_tree {T : Tre} (h : TreeP T) (x : Wri) : putOk T.mem (wriE x (T.seq + 1)) = (wriOk x && decide (T.seq < 1000000) && decide (T.mem.length < 300)) := by
  rw [Bool.eq_iff_iff]
  constructor
  · intro hp
    simp only [putOk, Bool.and_eq_true, Bool.not_eq_true', decide_eq_false_iff_not] at hp
    obtain ⟨⟨⟨hs, he⟩, hn⟩, -⟩ := hp
    have hl := okL_len hs
    have he2 := he
    unfold okE at he2
    simp only [wriE, Bool.and_eq_true] at he2
    have hq : T.seq + 1 ≤ 1000000 := of_decide_eq_true he2.2
    have hw : wriOk x = true := by
      unfold wriOk
      unfold okE at he ⊢
      simp only [wriE, Bool.and_eq_true] at he ⊢
      exact ⟨⟨he.1.1, decide_eq_true (by omega)⟩, decide_eq_true (by omega)⟩
    rw [hw, decide_eq_true (show T.seq < 1000000 by omega), decide_eq_true (show T.mem.length < 300 by omega)]
    rfl
  · intro hp
    simp only [Bool.and_eq_true, decide_eq_true_eq] at hp
    obtain ⟨⟨hw, hs⟩, hl⟩ := hp
    have he : okE (wriE x (T.seq + 1)) = true := wriOk_at hw (by have := h.seq0; omega) (by omega)
    simp only [putOk, Bool.and_eq_true, Bool.not_eq_true', decide_eq_false_iff_not]
    refine ⟨⟨⟨h.mem, he⟩, by omega⟩, ?_⟩
    cases hk : hasKS T.mem (wriE x (T.seq + 1)) with
    | false => rfl
    | true =>
      unfold hasKS at hk
      rw [List.any_eq_true] at hk
      obtain ⟨y, hy, hyk⟩ := hk
      have h1 := ((sameKS_iff _ _).1 hyk).2
      have h2 := h.top T.mem List.mem_cons_self y hy
      simp only [wriE] at h1
      omega
end Go.Proofs.YtbefmbjlogkmbaaGreat
