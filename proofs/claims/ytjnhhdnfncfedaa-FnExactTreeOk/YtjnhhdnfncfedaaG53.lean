/- The contracts of the model's Read and Scan of a tree. The contracts of the program's TreeOk, Read and Scan of a tree. -/
import Derived.Test.YtjnhhdnfncfedaaTreSpec3
import Derived.Maps.AppendAt
import Derived.Test.YtjnhhdnfncfedaaTreUnp
import Derived.Test.YtjnhhdnfncfedaaG31
namespace Go.Proofs.Ytjnhhdnfncfedaa
open Go.RowKit
theorem all_okL {T : Tre} (h : TreeP T) (hn : (mergedL (lsT T)).length ≤ 300) : okL (mergedL (lsT T)) = true := by
  apply merged_ok
  unfold mergedOk
  rw [decide_eq_true hn, decide_eq_true (show (lsT T).length ≤ 20 by
    show (T.mem :: (T.young ++ T.old).map entriesL).length ≤ 20
    have := h.young; have := h.old
    simp; omega)]
  simp only [Bool.true_and, Bool.and_true]
  rw [List.all_eq_true]
  intro l hl
  rcases List.mem_cons.1 hl with rfl | hl
  · exact h.mem
  · obtain ⟨t, ht, rfl⟩ := List.mem_map.1 hl
    exact (tableOk_parts (h.full t ht)).1
/-- What Read leaves. -/
def ReadPost (w : World) (o : Option ByteArray) (e : Ending) (w' : World) : Prop := e = .returned (.tuple #[.string (o.getD ⟨#[]⟩), .bool o.isSome]) ∧ Below w.heap.size w w'
theorem readT_no {T : Tre} {k : ByteArray} {q : Int} (h : treeOk T = false) : readT T k q = none := by unfold readT; rw [if_neg (by rw [h]; simp)]
theorem readT_yes {T : Tre} {k : ByteArray} {q : Int} (h : treeOk T = true) : readT T k q = tellE (seenL (allT T).1 k q) := by unfold readT; rw [if_pos h, tree_all ((treeOk_iff T).1 h)]; rfl
theorem one_ent (w : World) (y : Ent) (t : TypeId) : ∀ j u, (EC y)[j]? = some u → (w.alloc (.cells #[.string y.key, .string y.val, .int .i64 y.seq, .bool y.gone] t)).cell? ((⟨w.heap.size, 0, none⟩ : Addr).add j) = some u := by
  intro j u h
  match j with
  | 0 => cases h; simp [Addr.add, World.cell?_alloc_at]
  | 1 => cases h; simp [Addr.add, World.cell?_alloc_at]
  | 2 => cases h; simp [Addr.add, World.cell?_alloc_at]
  | 3 => cases h; simp [Addr.add, World.cell?_alloc_at]
  | j + 4 => simp [EC] at h
theorem EC_one (y : Ent) : ∀ u ∈ EC y, u.oneCell' = true := by
  intro u hu
  simp only [EC, List.mem_cons, List.not_mem_nil, or_false] at hu
  rcases hu with rfl | rfl | rfl | rfl <;> rfl
theorem ownE_push1 {w : World} {B : Nat} {v : Value} {es : List Ent} {y : Ent} (h : w.ownsRow B 43 4 v (es.length + 1) (EV es ++ EC y)) : OwnE w B v (es ++ [y]) := by
  unfold OwnE
  rw [List.length_append, EV_append, EV_one]
  exact h
/-- What lies between two keys. -/
def inR (a b : ByteArray) (e : Ent) : Bool := !kLt e.key a && kLt e.key b
def scanL (all : List Ent) (a b : ByteArray) (q : Int) : List Ent := (shTo all q all.length).filter (inR a b)
def scanT (T : Tre) (a b : ByteArray) (q : Int) : List Ent := if treeOk T = true ∧ (mergedL (lsT T)).length ≤ 300 then scanL (mergedL (lsT T)) a b q else []
theorem scTo_succ {L : List Ent} {a b : ByteArray} {k : Nat} (hk : k < L.length) : (L.take (k + 1)).filter (inR a b) = (L.take k).filter (inR a b) ++ (if inR a b (nth L k) = true then [nth L k] else []) := by
  rw [List.take_succ_eq_append_getElem hk, List.filter_append, nth_eq hk]
  congr 1
  cases h : inR a b L[k] <;> simp [h]
theorem shTo_le (es : List Ent) (q : Int) : (shTo es q es.length).length ≤ es.length := shTo_len es q es.length
theorem scanT_no {T : Tre} {a b : ByteArray} {q : Int} (h : treeOk T = false ∨ 300 < (allT T).1.length) : scanT T a b q = [] := by
  unfold scanT
  rw [if_neg]
  rintro ⟨h1, h2⟩
  rcases h with h | h
  · rw [h] at h1; cases h1
  · rw [tree_all ((treeOk_iff T).1 h1)] at h
    have h3 : 300 < (mergedL (lsT T)).length := h
    omega
theorem scanT_yes {T : Tre} {a b : ByteArray} {q : Int} (h : treeOk T = true) (hn : (allT T).1.length ≤ 300) : scanT T a b q = scanL (allT T).1 a b q ∧ okL (allT T).1 = true := by
  have hp := (treeOk_iff T).1 h
  have ha := tree_all hp
  rw [ha] at hn ⊢
  exact ⟨by unfold scanT; rw [if_pos ⟨h, hn⟩], all_okL hp hn⟩
end Go.Proofs.Ytjnhhdnfncfedaa
namespace Go.Proofs.Ytjnhhdnfncfedaa
open Go.RowKit
set_option maxHeartbeats 1000000 in
set_option maxRecDepth 100000 in
theorem implTreeOk_any (X : TrX) (w : World) (hx : RdTr w X) (hf : FitTr X) :
    Calls Try.prog 7 #[.agg #[X.vm, X.vy, X.vo, .int .i64 X.seq, X.vs]] w fun e w' => e = .returned (.bool (treeOk X.tre)) ∧ Below w.heap.size w w' := by
  have ht0 := treAt_new w X 32
  have b0 := below1 w (.cells #[X.vm, X.vy, X.vo, .int .i64 X.seq, X.vs] 32)
  have HU : Hid (Calls _ _ _ _ _) := unpackedTree_any X _ (hx.below b0) hf
  unfold UnpTPost at HU
  generalize treeOk X.tre = ok at HU ⊢
  obtain ⟨q0, q1, q2, q3, q4⟩ := id ht0
  go_enter Try.func7, Try.ntmps7
  go_wp2_with fail
  refine HU.out.mono ?_
  rintro e w1 ⟨u, ps, rfl, -, -, hb1⟩
  have b1 := b0.trans (hb1.mono b0.size)
  clear HU ht0 q0 q1 q2 q3 q4 hb1
  go_wp2
  go_ret
  exact ⟨rfl, b1⟩
theorem unpL_ok {T : Tre} : ∀ l ∈ unpL T, okL l = true := fun l hl => by
  cases ht : treeOk T with
  | false => rw [unpL_no ht] at hl; cases hl
  | true =>
    rw [unpL_yes ht] at hl
    have h := (treeOk_iff T).1 ht
    rcases List.mem_cons.1 hl with rfl | hl
    · exact h.mem
    · obtain ⟨t, ht, rfl⟩ := List.mem_map.1 hl
      exact (tableOk_parts (h.full t ht)).1
theorem okL_fits {l : List Ent} (h : okL l = true) : ∀ e ∈ l, Fits e := fun e he => by
  have := ((okL_iff _).1 h).2.1 e he
  simp only [okE, Bool.and_eq_true, decide_eq_true_eq] at this
  exact ⟨by omega, by omega, by omega, by omega⟩
/-- An entry's box. -/
def BoxE (w : World) (b : Nat) (x : Ent) : Prop := w.heap[b]? = some (.cells #[.string x.key, .string x.val, .int .i64 x.seq, .bool x.gone] 43 (0, 0))
theorem BoxE.lt {w : World} {b : Nat} {x : Ent} (h : BoxE w b x) : b < w.heap.size := (Array.getElem?_eq_some_iff.1 h).1
theorem BoxE.below {w w' : World} {b : Nat} {x : Ent} (h : BoxE w b x) (hb : Below w.heap.size w w') : BoxE w' b x := (hb.block b h.lt).trans h
theorem boxE_new (w : World) (x : Ent) : BoxE (w.alloc (.cells #[.string x.key, .string x.val, .int .i64 x.seq, .bool x.gone] 43)) w.heap.size x := heap_alloc_new w _
theorem BoxE.facts {w : World} {b : Nat} {x : Ent} (h : BoxE w b x) : w.cell? ⟨b, 0, none⟩ = some (.string x.key) ∧ w.cell? ⟨b, 1, none⟩ = some (.string x.val) ∧ w.cell? ⟨b, 2, none⟩ = some (.int .i64 x.seq) ∧ w.cell? ⟨b, 3, none⟩ = some (.bool x.gone) ∧
    w.frozen? ⟨b, 0, none⟩ = false ∧ w.frozen? ⟨b, 1, none⟩ = false ∧ w.frozen? ⟨b, 2, none⟩ = false ∧ w.frozen? ⟨b, 3, none⟩ = false := by
  unfold BoxE at h
  refine ⟨?_, ?_, ?_, ?_, ?_, ?_, ?_, ?_⟩ <;> simp [World.cell?, World.frozen?, h]
theorem boxE_set4 {w : World} {b : Nat} {x : Ent} (h : BoxE w b x) (y : Ent) : BoxE ((((w.setCell ⟨b, 0, none⟩ (.string y.key)).setCell ⟨b, 1, none⟩ (.string y.val)).setCell ⟨b, 2, none⟩ (.int .i64 y.seq)).setCell ⟨b, 3, none⟩ (.bool y.gone)) b y := by
  unfold BoxE at h ⊢
  have h0 := heap_setCell_same w b 0 _ _ (.string y.key) h
  have h1 := heap_setCell_same _ b 1 _ _ (.string y.val) h0
  have h2 := heap_setCell_same _ b 2 _ _ (.int .i64 y.seq) h1
  exact heap_setCell_same _ b 3 _ _ (.bool y.gone) h2
theorem foldB_take {k : ByteArray} {q : Int} {ls : List (List Ent)} {i : Nat} {l : List Ent} (h : ls[i]? = some l) : foldB k q noE (ls.take (i + 1)) = stepB (foldB k q noE (ls.take i)) (seenL l k q) := by
  have hi : i < ls.length := (List.getElem?_eq_some_iff.1 h).1
  have hl : ls[i] = l := (List.getElem?_eq_some_iff.1 h).2
  unfold foldB
  rw [List.take_succ_eq_append_getElem hi, List.foldl_append, hl]
  rfl
end Go.Proofs.Ytjnhhdnfncfedaa
