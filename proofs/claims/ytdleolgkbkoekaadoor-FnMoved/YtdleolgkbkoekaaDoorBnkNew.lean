/- The contracts of both NewBanks: 1000 each, Counts 0. -/
import Derived.Test.YtdleolgkbkoekaaDoorBnkBase
import Derived.Test.YtdleolgkbkoekaaDoorNumHelp
import Derived.Deep.DeepCutAuto
namespace Go.Proofs.YtdleolgkbkoekaaDoor
open Go.RowKit
theorem rows_two {w : World} {B1 B2 : Nat} {u v : Value} {x y : Int} {xs ys : List Int} (h1 : OwnI w B1 u (x :: xs)) (h2 : OwnI w B2 v (y :: ys)) (hn : x ≠ y) : ∀ q, u.ownBlock = some q → v.ownBlock = some q → False := by
  intro q e1 e2
  obtain ⟨g, c, rfl⟩ := ownI_some h1 (by simp)
  obtain ⟨g', c', rfl⟩ := ownI_some h2 (by simp)
  obtain rfl : g = q := by simpa [Value.ownBlock] using e1
  obtain rfl : g' = g := by simpa [Value.ownBlock] using e2
  have a1 := h1.cellAt 0 (by simp)
  have a2 := h2.cellAt 0 (by simp)
  rw [a1] at a2
  simp [IV] at a2
  exact hn a2
/-- Where the making of a new bank stands. -/
structure NB (w wr : World) (bo : Nat) (u v : Value) (ms cs : List Int) : Prop where
  res : BoxBk wr w.heap.size (.slice none 0 0) (.slice none 0 0)
  box : BoxBk wr bo u v
  mon : OwnI wr (w.heap.size + 1) u ms
  cnt : OwnI wr (w.heap.size + 1) v cs
  bel : Below w.heap.size w wr
  lt : w.heap.size < bo
theorem NB.rows {w wr : World} {bo : Nat} {u v : Value} {ms cs : List Int} (h : NB w wr bo u v ms cs) (o : Obj) : BoxBk (wr.alloc o) bo u v ∧ OwnI (wr.alloc o) (w.heap.size + 1) u ms ∧ OwnI (wr.alloc o) (w.heap.size + 1) v cs ∧ w.heap.size + 1 ≤ (wr.alloc o).heap.size :=
  ⟨h.box.below (below1 _ _), h.mon.below (below1 _ _), h.cnt.below (below1 _ _), by have := h.box.lt; have := h.lt; simp; omega⟩
theorem NB.put0 {w wr w2 : World} {bo : Nat} {u v v' : Value} {ms cs ms' : List Int} {o : Obj} (h : NB w wr bo u v ms cs) (hg : (wr.alloc o).grownBy w2 u.ownBlock) (ho : OwnI w2 (w.heap.size + 1) v' ms') (hn : ∀ q, u.ownBlock = some q → v.ownBlock = some q → False) (ht : 2 ≠ 26) :
    BoxBk w2 bo u v ∧ NB w (w2.setCell ⟨bo, 0, none⟩ v') bo v' v ms' cs := by
  have hl := h.box.lt
  have hlt := h.lt
  have bx : BoxBk w2 bo u v := (h.rows o).1.of_block (hg.block bo (by simp; omega) (fun e => boxBk_row h.box h.mon ht bo e.symm rfl))
  have rx : BoxBk w2 w.heap.size (.slice none 0 0) (.slice none 0 0) := (h.res.below (below1 _ o)).of_block (hg.block _ (by simp; omega) (fun e => boxBk_row h.res h.mon ht _ e.symm rfl))
  have cx : OwnI w2 (w.heap.size + 1) v cs := row_kept (h.rows o).2.2.1 hg (fun k hk e => hn k e hk)
  have b2 : Below w.heap.size w w2 := (h.bel.trans ((below1 _ o).mono h.bel.size)).grown hg (by simp; omega) (fun k hk => by have := (World.ownsRow.lt h.mon k hk).1; omega)
  refine ⟨bx, ⟨rx.of_block (blkSet (by omega)), bx.set0, row_set ho (fun k hk e => boxBk_row bx ho ht k hk e), row_set cx (fun k hk e => boxBk_row bx cx ht k hk e), b2.setCell (p := ⟨bo, 0, none⟩) (by simp; omega) _, hlt⟩⟩
theorem NB.put1 {w wr w2 : World} {bo : Nat} {u v v' : Value} {ms cs cs' : List Int} {o : Obj} (h : NB w wr bo u v ms cs) (hg : (wr.alloc o).grownBy w2 v.ownBlock) (ho : OwnI w2 (w.heap.size + 1) v' cs') (hn : ∀ q, u.ownBlock = some q → v.ownBlock = some q → False) (ht : 2 ≠ 26) :
    BoxBk w2 bo u v ∧ NB w (w2.setCell ⟨bo, 1, none⟩ v') bo u v' ms cs' := by
  have hl := h.box.lt
  have hlt := h.lt
  have bx : BoxBk w2 bo u v := (h.rows o).1.of_block (hg.block bo (by simp; omega) (fun e => boxBk_row h.box h.cnt ht bo e.symm rfl))
  have rx : BoxBk w2 w.heap.size (.slice none 0 0) (.slice none 0 0) := (h.res.below (below1 _ o)).of_block (hg.block _ (by simp; omega) (fun e => boxBk_row h.res h.cnt ht _ e.symm rfl))
  have cx : OwnI w2 (w.heap.size + 1) u ms := row_kept (h.rows o).2.1 hg (fun k hk e => hn k hk e)
  have b2 : Below w.heap.size w w2 := (h.bel.trans ((below1 _ o).mono h.bel.size)).grown hg (by simp; omega) (fun k hk => by have := (World.ownsRow.lt h.cnt k hk).1; omega)
  refine ⟨bx, ⟨rx.of_block (blkSet (by omega)), bx.set1, row_set cx (fun k hk e => boxBk_row bx cx ht k hk e), row_set ho (fun k hk e => boxBk_row bx ho ht k hk e), b2.setCell (p := ⟨bo, 1, none⟩) (by simp; omega) _, hlt⟩⟩
theorem NB.done {w wr : World} {bo : Nat} {u v : Value} {ms cs : List Int} (h : NB w wr bo u v ms cs) (hn : ∀ q, u.ownBlock = some q → v.ownBlock = some q → False) :
    ToBk w ms cs (.returned (.agg #[u, v])) ((wr.setCell ⟨w.heap.size, 0, none⟩ u).setCell ⟨w.heap.size, 1, none⟩ v) :=
  ⟨⟨u, v, ms, cs⟩, rfl, rfl, rfl, ⟨OwnI.mono (row_base (row_base h.mon (by omega)) (by omega)) (by omega), OwnI.mono (row_base (row_base h.cnt (by omega)) (by omega)) (by omega), hn⟩, (h.bel.setCell (p := ⟨w.heap.size, 0, none⟩) (by simp) _).setCell (p := ⟨w.heap.size, 1, none⟩) (by simp) _⟩
theorem rep_push (k : Nat) (x : Int) : List.replicate k x ++ [x] = List.replicate (k + 1) x := by rw [List.replicate_succ']
theorem nb_two {w wr : World} {bo k j : Nat} {u v : Value} (h : NB w wr bo u v (List.replicate k 1000) (List.replicate j 0)) (hk : k = 0 → u = .slice none 0 0) (hj : j = 0 → v = .slice none 0 0) : ∀ q, u.ownBlock = some q → v.ownBlock = some q → False := by
  intro q e1 e2
  cases k with
  | zero =>
    rw [hk rfl] at e1
    simp [Value.ownBlock] at e1
  | succ k =>
    cases j with
    | zero =>
      rw [hj rfl] at e2
      simp [Value.ownBlock] at e2
    | succ j => exact rows_two (by have h := h.mon; rwa [List.replicate_succ] at h) (by have h := h.cnt; rwa [List.replicate_succ] at h) (by decide) q e1 e2
def newM : List Int := List.replicate 8 1000
def newC : List Int := List.replicate 8 0
theorem tne : 2 ≠ 26 := by decide
set_option maxHeartbeats 4000000 in
set_option maxRecDepth 100000 in
theorem specNewBank_any (w : World) : Calls Tryd.prog 20 #[] w fun e w' => ToBk w newM newC e w' := by
  obtain ⟨i0, hi, hz0, hz1, hz2⟩ := info_parts Tryd.info2
  have r0 := boxBk_new w (.slice none 0 0) (.slice none 0 0)
  have b0 := below1 w (.cells #[.slice none 0 0, .slice none 0 0] 26)
  have s0 : (w.alloc (.cells #[.slice none 0 0, .slice none 0 0] 26)).heap.size = w.heap.size + 1 := by simp
  go_enter Tryd.func20, Tryd.ntmps20
  go_wp2_with (at_make; (refine wpList_make_full _ rfl _ _ 24 rfl (w.heap.size + 1) 2 i0 (.int .i64 0) 1 Tryd.underlying24 hi hz0 hz1 .i64 .i64 8 8 8 rfl rfl rfl rfl ?c1 ?c2 ?c3 ?_))
  case c1 => rw [hz2]; omega
  case c2 => unfold maxLen; omega
  case c3 => simp
  intro w1 ho1 hg1
  rw [made_IV] at ho1
  have ho2 : OwnI w1 (w.heap.size + 1) (.slice (some ⟨w.heap.size + 1, 0, none⟩) 8 8) (List.replicate 8 0) := ho1
  have bb1 : Below (w.alloc (.cells #[.slice none 0 0, .slice none 0 0] 26)).heap.size (w.alloc (.cells #[.slice none 0 0, .slice none 0 0] 26)) w1 := (Below.refl _ _).grown hg1 (Nat.le_refl _) (fun k hk => by cases hk)
  have r1 := r0.below bb1
  have b1 := b0.trans (bb1.mono b0.size)
  have s1 := bb1.size
  rw [s0] at s1
  have N0 : NB w (w1.alloc (.cells #[.slice none 0 0, .slice (some ⟨w.heap.size + 1, 0, none⟩) 8 8] 26)) w1.heap.size (.slice none 0 0) (.slice (some ⟨w.heap.size + 1, 0, none⟩) 8 8) (List.replicate 0 1000) (List.replicate 8 0) :=
    ⟨r1.below (below1 _ _), boxBk_new _ _ _, ownI_nil _ _, ho2.below (below1 _ _), b1.trans ((below1 _ _).mono b1.size), by omega⟩
  clear r0 b0 s0 ho1 hg1 ho2 bb1 r1 b1
  go_wp2
  generalize w1.heap.size = bo at N0 s1 ⊢
  go_loopw [2] (fun i wr => ∃ (k : Nat) (u : Value), k ≤ 8 ∧ i = .int .i64 k ∧ Hid (k = 0 → u = .slice none 0 0) ∧ NB w wr bo u (.slice (some ⟨w.heap.size + 1, 0, none⟩) 8 8) (List.replicate k 1000) (List.replicate 8 0)) (fun i _ => 8 - (intOf i).toNat)
  case atStart => exact ⟨0, _, by omega, rfl, (fun _ => rfl), N0⟩
  case round =>
    obtain ⟨k, u, hk, rfl, HU, N⟩ := hrel
    have TWO : Hid (∀ q, u.ownBlock = some q → (Value.slice (some ⟨w.heap.size + 1, 0, none⟩) 8 8).ownBlock = some q → False) := nb_two N HU.out (fun h => by omega)
    obtain ⟨f0, f1, f2, f3⟩ := N.box.facts
    by_cases hlt : k < 8
    · obtain ⟨n0, n1, n2, n3⟩ := N.rows (.cells #[.int .i64 1000] 2)
      have hone := ownI_one wr 1000
      obtain ⟨ua, uc, hu⟩ := ownSl N.mon
      rw [List.length_replicate] at hu
      subst hu
      go_wp2_with (at_builtin; (refine wpList_append_ints rfl _ _ rfl (w.heap.size + 1) _ _ (List.replicate k 1000) [1000] rfl rfl n1 hone.rd (by simp; omega) n3 ?_))
      intro v2 w2 ho2 hg2
      rw [rep_push] at ho2
      obtain ⟨bx, N2⟩ := N.put0 hg2 ho2 TWO.out tne
      obtain ⟨va, vc, hv⟩ := ownSl ho2
      rw [List.length_replicate] at hv
      subst hv
      obtain ⟨g0, g1, g2, g3⟩ := bx.facts
      clear f0 f1 f2 f3 n0 n1 n2 n3 hone N bx ho2 hg2 TWO
      go_wp2
      go_roundw
      case rel => exact ⟨k + 1, _, by omega, by go_num, (fun h => by omega), N2⟩
      case measure => simp [intOf]; omega
    · have hke : k = 8 := by omega
      subst hke
      have D := N.done TWO.out
      obtain ⟨ua, uc, hu⟩ := ownSl N.mon
      rw [List.length_replicate] at hu
      subst hu
      obtain ⟨h0, h1, h2, h3⟩ := N.res.facts
      have z := (N.res.set0 (u := .slice ua 8 uc)).set1 (u := .slice (some ⟨w.heap.size + 1, 0, none⟩) 8 8)
      obtain ⟨k0, k1, -, -⟩ := z.facts
      have HD : Hid (ToBk _ _ _ _ _) := D
      clear D N z TWO
      go_wp2
      exact bodyPost_ret (v := .agg #[.slice ua 8 uc, .slice (some ⟨w.heap.size + 1, 0, none⟩) 8 8]) (by simp [results, Tryd.results20, go_sem, k0, k1]) rfl HD.out
set_option maxHeartbeats 4000000 in
set_option maxRecDepth 100000 in
theorem implNewBank_any (w : World) : Calls Tryd.prog 19 #[] w fun e w' => ToBk w newM newC e w' := by
  have N0 : NB w ((w.alloc (.cells #[.slice none 0 0, .slice none 0 0] 26)).alloc (.cells #[.slice none 0 0, .slice none 0 0] 26)) (w.heap.size + 1) (.slice none 0 0) (.slice none 0 0) (List.replicate 0 1000) (List.replicate 0 0) := by
    have h := boxBk_new (w.alloc (.cells #[.slice none 0 0, .slice none 0 0] 26)) (.slice none 0 0) (.slice none 0 0)
    have s0 : (w.alloc (.cells #[.slice none 0 0, .slice none 0 0] 26)).heap.size = w.heap.size + 1 := by simp
    rw [s0] at h
    exact ⟨(boxBk_new _ _ _).below (below1 _ _), h, ownI_nil _ _, ownI_nil _ _, below2 _ _ _, by omega⟩
  go_enter Tryd.func19, Tryd.ntmps19
  go_wp2
  generalize ((w.alloc (.cells #[.slice none 0 0, .slice none 0 0] 26)).alloc (.cells #[.slice none 0 0, .slice none 0 0] 26)) = W0 at N0 ⊢
  go_loopw [3] (fun i wr => ∃ (k : Nat) (u v : Value), k ≤ 8 ∧ i = .int .i64 k ∧ Hid ((k = 0 → u = .slice none 0 0) ∧ (k = 0 → v = .slice none 0 0)) ∧ NB w wr (w.heap.size + 1) u v (List.replicate k 1000) (List.replicate k 0)) (fun i _ => 8 - (intOf i).toNat)
  case atStart => exact ⟨0, _, _, by omega, rfl, ⟨fun _ => rfl, fun _ => rfl⟩, N0⟩
  case round =>
    obtain ⟨k, u, v, hk, rfl, HU, N⟩ := hrel
    clear N0
    have TWO : Hid (∀ q, u.ownBlock = some q → v.ownBlock = some q → False) := nb_two N HU.out.1 HU.out.2
    obtain ⟨f0, f1, f2, f3⟩ := N.box.facts
    by_cases hlt : k < 8
    · obtain ⟨n0, n1, n2, n3⟩ := N.rows (.cells #[.int .i64 1000] 2)
      have hone := ownI_one wr 1000
      obtain ⟨ua, uc, hu⟩ := ownSl N.mon
      obtain ⟨ya, yc, hy⟩ := ownSl N.cnt
      rw [List.length_replicate] at hu hy
      subst hu
      subst hy
      go_wp2_with (at_builtin; (refine wpList_append_ints rfl _ _ rfl (w.heap.size + 1) _ _ (List.replicate k 1000) [1000] rfl rfl n1 hone.rd (by simp; omega) n3 ?_))
      intro v2 w2 ho2 hg2
      rw [rep_push] at ho2
      obtain ⟨bx, N2⟩ := N.put0 hg2 ho2 TWO.out tne
      obtain ⟨va, vc, hv⟩ := ownSl ho2
      rw [List.length_replicate] at hv
      subst hv
      obtain ⟨g0, g1, g2, g3⟩ := bx.facts
      have TWO2 : Hid (∀ q, (Value.slice va (k + 1) vc).ownBlock = some q → (Value.slice ya k yc).ownBlock = some q → False) := nb_two N2 (fun h => by omega) HU.out.2
      clear f0 f1 f2 f3 n0 n1 n2 n3 hone N bx ho2 hg2 TWO
      go_upto_region 5 with fail
      generalize w2.setCell ⟨w.heap.size + 1, 0, none⟩ (.slice va (k + 1) vc) = W2 at N2 ⊢
      obtain ⟨e0, e1, e2, e3⟩ := N2.box.facts
      obtain ⟨m0, m1, m2, m3⟩ := N2.rows (.cells #[.int .i64 0] 2)
      have hone2 := ownI_one W2 0
      go_wp2_with (at_builtin; (refine wpList_append_ints rfl _ _ rfl (w.heap.size + 1) _ _ (List.replicate k 0) [0] rfl rfl m2 hone2.rd (by simp; omega) m3 ?_))
      intro v3 w3 ho3 hg3
      rw [rep_push] at ho3
      obtain ⟨bx3, N3⟩ := N2.put1 hg3 ho3 TWO2.out tne
      obtain ⟨xa, xc, hv⟩ := ownSl ho3
      rw [List.length_replicate] at hv
      subst hv
      obtain ⟨h0, h1, h2, h3⟩ := bx3.facts
      clear e0 e1 e2 e3 m0 m1 m2 m3 g0 g1 g2 g3 hone2 N2 bx3 ho3 hg3 TWO2
      go_wp2
      go_roundw
      case rel => exact ⟨k + 1, _, _, by omega, by go_num, ⟨fun h => by omega, fun h => by omega⟩, N3⟩
      case measure => simp [intOf]; omega
    · have hke : k = 8 := by omega
      subst hke
      have D := N.done TWO.out
      obtain ⟨ua, uc, hu⟩ := ownSl N.mon
      obtain ⟨ya, yc, hy⟩ := ownSl N.cnt
      rw [List.length_replicate] at hu hy
      subst hu
      subst hy
      obtain ⟨h0, h1, h2, h3⟩ := N.res.facts
      have z := (N.res.set0 (u := .slice ua 8 uc)).set1 (u := .slice ya 8 yc)
      obtain ⟨k0, k1, -, -⟩ := z.facts
      have HD : Hid (ToBk _ _ _ _ _) := D
      clear D N z TWO
      go_wp2
      exact bodyPost_ret (v := .agg #[.slice ua 8 uc, .slice ya 8 yc]) (by simp [results, Tryd.results19, go_sem, k0, k1]) rfl HD.out
end Go.Proofs.YtdleolgkbkoekaaDoor
