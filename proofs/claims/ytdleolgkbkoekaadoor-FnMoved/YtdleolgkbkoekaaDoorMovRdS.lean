/- The contract of the model's ReadMove. -/
-- UNF Gen
import Derived.Test.YtdleolgkbkoekaaDoorMovMath
namespace Go.Proofs.YtdleolgkbkoekaaDoor
open Go.RowKit
theorem Box4.below {w w' : World} {b : Nat} {t : TypeId} {m : Mov} (h : Box4 w b t m) (hb : Below w.heap.size w w') : Box4 w' b t m := (hb.block _ h.lt).trans h
theorem Box4.fz {w : World} {b : Nat} {t : TypeId} {m : Mov} (h : Box4 w b t m) : w.frozen? ⟨b, 0, none⟩ = false ∧ w.frozen? ⟨b, 1, none⟩ = false ∧ w.frozen? ⟨b, 2, none⟩ = false ∧ w.frozen? ⟨b, 3, none⟩ = false := by
  unfold Box4 at h
  refine ⟨?_, ?_, ?_, ?_⟩ <;> simp [World.frozen?, h]
theorem box4_new (w : World) (t : TypeId) (m : Mov) : Box4 (w.alloc (.cells #[.int .i64 m.fr, .int .i64 m.to', .int .i64 m.sum, .int .i64 m.cou] t)) w.heap.size t m := heap_alloc_new w _
/-- The world in which four cells are stored. -/
abbrev put4 (w : World) (b : Nat) (n : Mov) : World := (((w.setCell ⟨b, 0, none⟩ (.int .i64 n.fr)).setCell ⟨b, 1, none⟩ (.int .i64 n.to')).setCell ⟨b, 2, none⟩ (.int .i64 n.sum)).setCell ⟨b, 3, none⟩ (.int .i64 n.cou)
theorem Box4.put {w : World} {b : Nat} {t : TypeId} {m : Mov} (h : Box4 w b t m) (n : Mov) : Box4 (put4 w b n) b t n := by
  unfold Box4 at h ⊢
  have h1 := heap_setCell_same w b 0 _ _ (.int .i64 n.fr) h
  have h2 := heap_setCell_same _ b 1 _ _ (.int .i64 n.to') h1
  have h3 := heap_setCell_same _ b 2 _ _ (.int .i64 n.sum) h2
  exact heap_setCell_same _ b 3 _ _ (.int .i64 n.cou) h3
theorem put4_below {a w : World} {B b : Nat} (h : Below B a w) (hb : B ≤ b) (n : Mov) : Below B a (put4 w b n) :=
  (((h.setCell (p := ⟨b, 0, none⟩) hb _).setCell (p := ⟨b, 1, none⟩) hb _).setCell (p := ⟨b, 2, none⟩) hb _).setCell (p := ⟨b, 3, none⟩) hb _
theorem put4_other {w : World} {b c : Nat} {n : Mov} (h : c ≠ b) : (put4 w b n).heap[c]? = w.heap[c]? := by
  unfold put4
  rw [heap_setCell_other _ ⟨b, 3, none⟩ c _ h, heap_setCell_other _ ⟨b, 2, none⟩ c _ h, heap_setCell_other _ ⟨b, 1, none⟩ c _ h, heap_setCell_other _ ⟨b, 0, none⟩ c _ h]
theorem words_sizes : ∀ (l a : List UInt8), a ∈ wordsL l → a.length ≤ l.length
  | [], a, h => by
    rw [wordsL, List.mem_singleton] at h
    subst h
    exact Nat.le_refl _
  | c :: r, a, h => by
    rw [wordsL] at h
    split at h
    · rcases List.mem_cons.1 h with rfl | h
      · exact Nat.zero_le _
      · have := words_sizes r a h
        rw [List.length_cons]; omega
    · split at h
      · rename_i x y e
        rcases List.mem_cons.1 h with rfl | h
        · have := words_sizes r x (by rw [e]; exact List.mem_cons_self ..)
          rw [List.length_cons, List.length_cons]; omega
        · have := words_sizes r a (by rw [e]; exact List.mem_cons_of_mem _ h)
          rw [List.length_cons]; omega
      · rw [List.mem_singleton] at h
        subst h
        rw [List.length_cons, List.length_cons]; simp
theorem rdS_atM {w : World} {a : Option Addr} {n cap : Nat} {ss : List ByteArray} (h : RdS w (.slice a n cap) ss) (i : Nat) (hi : i < ss.length) : ∃ b off, a = some ⟨b, off, none⟩ ∧ w.cell? ⟨b, off + i, none⟩ = some (.string ss[i]) := by
  obtain ⟨a', c', e, h1, h2, h3⟩ := h
  injection e with e1 e2 e3
  subst e1
  rcases h3 with rfl | ⟨b, off, rfl, hc⟩
  · simp at hi
  · exact ⟨b, off, rfl, hc i hi⟩
def movZ : Mov := ⟨0, 0, 0, 0⟩
/-- The four numbers of a move. -/
def nmL (m : Mov) : List Int := [m.fr, m.to', m.sum, m.cou]
theorem nmL_ok {m : Mov} (h : MovP m) (k : Nat) (hk : k < 4) : ∃ g, 0 ≤ g ∧ g ≤ 1000000000 ∧ (mwL m)[k]? = some (itoaS g) ∧ (nmL m)[k]? = some g := by
  obtain ⟨⟨a0, a1⟩, ⟨b0, b1⟩, ⟨c0, c1⟩, ⟨d0, d1⟩⟩ := h
  match k, hk with
  | 0, _ => exact ⟨m.fr, a0, by omega, rfl, rfl⟩
  | 1, _ => exact ⟨m.to', b0, by omega, rfl, rfl⟩
  | 2, _ => exact ⟨m.sum, by omega, by omega, rfl, rfl⟩
  | 3, _ => exact ⟨m.cou, d0, by omega, rfl, rfl⟩
theorem ret_mov {R : Mov} {o : Bool} (h : R = movZ) (h2 : o = false) : Ending.returned (.tuple #[.agg #[.int .i64 0, .int .i64 0, .int .i64 0, .int .i64 0], .bool false]) = .returned (.tuple #[.agg #[.int .i64 R.fr, .int .i64 R.to', .int .i64 R.sum, .int .i64 R.cou], .bool o]) := by rw [h, h2]; rfl
theorem ret_mov1 {R : Mov} {o : Bool} {a b c d : Int} (h : R = ⟨a, b, c, d⟩) (h2 : o = true) : Ending.returned (.tuple #[.agg #[.int .i64 a, .int .i64 b, .int .i64 c, .int .i64 d], .bool true]) = .returned (.tuple #[.agg #[.int .i64 R.fr, .int .i64 R.to', .int .i64 R.sum, .int .i64 R.cou], .bool o]) := by rw [h, h2]
theorem rmr_no {s : ByteArray} {R : Mov} {o : Bool} (h : RMR s R o) (hn : o = true → False) : R = movZ ∧ o = false ∧ ∀ m, MovP m → shwS m ≠ s := by
  rcases h with ⟨h1, _⟩ | ⟨h1, h2, h3⟩
  · exact (hn h1).elim
  · exact ⟨h2, h1, h3⟩
theorem words_no : wordsL [] = [[]] := rfl
theorem number_nil (w : World) : Calls Tryd.prog 46 #[.string ⟨#[]⟩] w fun e w' => e = .returned (.tuple #[.int .i64 0, .bool false]) ∧ w' = w := by
  go_enter Tryd.func46, Tryd.ntmps46
  go_wp2
  go_ret2
  exact ⟨rfl, rfl⟩
set_option maxHeartbeats 8000000 in
set_option maxRecDepth 100000 in
theorem specReadMove_any (s : ByteArray) (R : Mov) (o : Bool) (w : World) (hs : s.size ≤ 1048576) (hR : RMR s R o) :
    Calls Tryd.prog 38 #[.string s] w fun e w' => e = .returned (.tuple #[.agg #[.int .i64 R.fr, .int .i64 R.to', .int .i64 R.sum, .int .i64 R.cou], .bool o]) ∧ Below w.heap.size w w' := by
  have HR : Hid (RMR s R o) := hR
  clear hR
  have b0 := below1 w (.cells #[.int .i64 0, .int .i64 0, .int .i64 0, .int .i64 0] 28)
  have x0 : Box4 (w.alloc (.cells #[.int .i64 0, .int .i64 0, .int .i64 0, .int .i64 0] 28)) w.heap.size 28 movZ := heap_alloc_new w _
  have hls := size_length s
  go_enter Tryd.func38, Tryd.ntmps38
  go_wp2_with fail
  generalize w.alloc (.cells #[.int .i64 0, .int .i64 0, .int .i64 0, .int .i64 0] 28) = W0 at b0 x0 ⊢
  refine (words_any s _ hs).mono ?_
  rintro e w1 ⟨v, ys, rfl, hys, hr, hb⟩
  have b1 := b0.trans (hb.mono b0.size)
  have x1 := x0.below hb
  clear b0 x0 hb
  have HW : Hid (∀ k (h : k < ys.length), ys[k].size ≤ 1048576) := fun k h => by
    have hm : bytesOf ys[k] ∈ wordsL s.data.toList := by rw [← hys]; exact List.mem_map_of_mem (List.getElem_mem h)
    have := words_sizes _ _ hm
    rw [show (bytesOf ys[k]).length = ys[k].size from size_length _] at this
    omega
  have HY : Hid (o = true → MovP R ∧ ys = mwL R) := fun ho => by
    rcases HR.out with ⟨_, h1, h2⟩ | ⟨h1, _⟩
    · refine ⟨h1, ?_⟩
      rw [← h2, shw_words h1] at hys
      exact map_data_inj hys
    · rw [ho] at h1; cases h1
  have HP : Hid (ys.length = 4 → 0 < s.size) := fun h4 => by
    rcases Nat.eq_zero_or_pos s.size with h0 | h0
    · have : s.data.toList = [] := List.length_eq_zero_iff.1 (by omega)
      rw [this] at hys
      have := congrArg List.length hys
      rw [List.length_map, h4] at this
      simp [wordsL] at this
    · exact h0
  have hyl : ys.length ≤ 1048577 := by
    have e := congrArg List.length hys
    rw [List.length_map] at e
    have : ∀ l : List UInt8, (wordsL l).length ≤ l.length + 1 := by
      intro l
      induction l with
      | nil => simp [wordsL]
      | cons c r ih =>
        rw [wordsL]
        split
        · rw [List.length_cons, List.length_cons]; omega
        · split
          · rename_i x y e
            rw [e, List.length_cons] at ih
            rw [List.length_cons, List.length_cons]; omega
          · simp
    have := this s.data.toList
    omega
  clear hys hls
  obtain ⟨va, vc, rfl, hlc, hlm, hjunk⟩ := id hr
  clear hjunk
  unfold maxLen at hlm
  have o2 := ownI_none w1
  have b2 := below1 w1 (.cells #[] 2)
  obtain ⟨n, hn⟩ : ∃ n, n = ys.length := ⟨_, rfl⟩
  have HN : Hid (n = ys.length) := hn
  have HRD : Hid (RdS w1 (.slice va n vc) ys) := by unfold Hid; rw [hn]; exact hr
  rw [← hn] at hlc hyl ⊢
  clear hr hn
  go_wp2
  go_loopw [5, 6] (fun nn ii wr => ∃ (k : Nat) (xs : List Int), ii = .int .i64 k ∧ k ≤ n ∧ Hid (xs.length = k) ∧ Hid (o = true → xs = (nmL R).take k) ∧ OwnI wr w1.heap.size nn xs ∧ Below w1.heap.size w1 wr) (fun _ i _ => n - (intOf i).toNat)
  case atStart => exact ⟨0, [], rfl, Nat.zero_le _, rfl, fun _ => rfl, o2, b2⟩
  case round =>
    clear o2 b2
    obtain ⟨k, xs, rfl, hk, HL, HX, ow, bw⟩ := hrel
    have hs1 := bw.size
    obtain ⟨na, nc, hv⟩ := ownSl ow
    rw [HL.out] at hv
    by_cases hlt : k < n
    · obtain ⟨pb, po, rfl, q⟩ := rdS_atM (HRD.out.below bw) k (by rw [← HN.out]; exact hlt)
      have hsz := HW.out k (by rw [← HN.out]; exact hlt)
      have HYK : Hid (o = true → ∃ g, 0 ≤ g ∧ g ≤ 1000000000 ∧ ys[k]'(by rw [← HN.out]; exact hlt) = itoaS g ∧ (nmL R)[k]? = some g) := fun ho => by
        obtain ⟨h1, h2⟩ := HY.out ho
        have h4 : n = 4 := by rw [HN.out, h2]; rfl
        obtain ⟨g, g0, g1, g2, g3⟩ := nmL_ok h1 k (by omega)
        rw [← h2] at g2
        exact ⟨g, g0, g1, (List.getElem?_eq_some_iff.1 g2).2, g3⟩
      generalize ys[k]'(by rw [← HN.out]; exact hlt) = y at q hsz HYK
      go_wp2_with fail
      refine (numberQ_any y _ hsz).mono ?_
      rintro e w2 ⟨⟨x, b, rfl, hx⟩, hw2⟩
      obtain rfl := hw2.symm
      have HQ : Hid (o = true → (nmL R)[k]? = some x ∧ b = true) := fun ho => by
        obtain ⟨g, g0, g1, g2, g3⟩ := HYK.out ho
        obtain ⟨rfl, hb⟩ := hx g g0 g1 g2
        exact ⟨g3, hb⟩
      clear hx HYK q hsz
      cases b with
      | false =>
        obtain ⟨hz, ho, -⟩ := rmr_no HR.out (fun h => by have := (HQ.out h).2; cases this)
        have x3 := x1.below bw
        have b3 := b1.trans (bw.mono b1.size)
        clear ow bw HQ hv
        obtain ⟨d0, d1, d2, d3⟩ := x3.facts
        obtain ⟨f0, f1, f2, f3⟩ := x3.fz
        obtain ⟨k0, k1, k2, k3⟩ := (x3.put movZ).facts
        have HF : Hid (Below w.heap.size w (put4 wr w.heap.size movZ)) := put4_below b3 (Nat.le_refl _) movZ
        unfold put4 movZ at k0 k1 k2 k3 HF
        simp only at k0 k1 k2 k3 HF
        clear x3 b3
        have HZ : Hid (R = movZ ∧ o = false) := ⟨hz, ho⟩
        clear hz ho
        go_wp2
        exact bodyPost_ret (v := .tuple #[.agg #[.int .i64 0, .int .i64 0, .int .i64 0, .int .i64 0], .bool false]) (by simp [results, Tryd.results38, go_sem, k0, k1, k2, k3]) rfl ⟨ret_mov HZ.out.1 HZ.out.2, HF.out⟩
      | true =>
        have ow2 := ow.below (below1 wr (.cells #[.int .i64 x] 2))
        have hone := ownI_one wr x
        have hsz2 : w1.heap.size ≤ (wr.alloc (.cells #[.int .i64 x] 2)).heap.size := by simp; omega
        have HX2 : Hid (o = true → xs ++ [x] = (nmL R).take (k + 1)) := fun ho => by
          have h1 := (HQ.out ho).1
          have hl := (List.getElem?_eq_some_iff.1 h1).1
          rw [List.take_add_one, h1, ← HX.out ho]; rfl
        have HL2 : Hid ((xs ++ [x]).length = k + 1) := by unfold Hid; rw [List.length_append, HL.out]; rfl
        have hxl : xs.length ≤ 1048577 := by rw [HL.out]; omega
        subst hv
        go_wp2_with (at_builtin; (refine wpList_append_ints rfl _ _ rfl w1.heap.size _ _ xs [x] rfl rfl ow2 hone.rd (by simp; omega) hsz2 ?_))
        intro v' w3 ow3 hg
        have bw3 := ((bw.alloc hs1 (.cells #[.int .i64 x] 2)).grown hg hsz2 (fun j hj => (World.ownsRow.lt ow j hj).1))
        clear ow2 hone hsz2 hg ow bw HX HQ HL hxl
        go_wp2
        go_roundw
        case rel => exact ⟨k + 1, _, by go_num, by omega, HL2, HX2, ow3, bw3⟩
        case measure => simp [intOf]; omega
    · have hke : k = n := by omega
      subst hke
      subst hv
      have x3 := x1.below bw
      have b3 := b1.trans (bw.mono b1.size)
      by_cases h4 : k = 4
      · subst h4
        obtain ⟨a, b, c, d, rfl⟩ : ∃ a b c d, xs = [a, b, c, d] := by
          match xs, HL.out with
          | [a, b, c, d], _ => exact ⟨a, b, c, d, rfl⟩
        have hps := HP.out HN.out.symm
        obtain ⟨pb, po, rfl, q0⟩ := ow.rd.at 0 (by simp)
        obtain ⟨pb', po', e', q1⟩ := ow.rd.at 1 (by simp)
        injection e' with e'
        injection e' with e1 e2 e3
        subst e1 e2
        obtain ⟨pb', po', e', q2⟩ := ow.rd.at 2 (by simp)
        injection e' with e'
        injection e' with e1 e2 e4
        subst e1 e2
        obtain ⟨pb', po', e', q3⟩ := ow.rd.at 3 (by simp)
        injection e' with e'
        injection e' with e1 e2 e5
        subst e1 e2
        clear e3 e4 e5
        simp only [List.getElem_cons_zero, List.getElem_cons_succ, Nat.add_zero] at q0 q1 q2 q3
        have HO : Hid (o = true → R = ⟨a, b, c, d⟩) := fun ho => by
          have := HX.out ho
          rw [List.take_of_length_le (by simp [nmL])] at this
          unfold nmL at this
          injection this with e1 e
          injection e with e2 e
          injection e with e3 e
          injection e with e4 e
          cases R
          simp only at e1 e2 e3 e4
          rw [e1, e2, e3, e4]
        have HSH : Hid (∀ W, Calls Tryd.prog 30 #[.agg #[.int .i64 a, .int .i64 b, .int .i64 c, .int .i64 d]] W fun e w' => e = .returned (.string (shwS ⟨a, b, c, d⟩)) ∧ Below W.heap.size W w') := fun W => specShowMove_any ⟨a, b, c, d⟩ W
        have LT : pb < wr.heap.size := World.block_lt_of_cell? wr _ q0
        clear ow bw x1 b1 HX HY HW HP HL
        have i0 : 0 < 4 := by omega
        go_wp2
        go_region
        have bD := (below1 wr (.cells #[.int .i64 a, .int .i64 b, .int .i64 c, .int .i64 d] 28)).drew
        have x4 := x3.below bD
        have b4 := b3.trans (bD.mono b3.size)
        have y4 : Box4 (wr.alloc (.cells #[.int .i64 a, .int .i64 b, .int .i64 c, .int .i64 d] 28)).drew wr.heap.size 28 ⟨a, b, c, d⟩ := box4_new wr 28 ⟨a, b, c, d⟩
        have hne : wr.heap.size ≠ w.heap.size := by have := x3.lt; omega
        obtain ⟨g, hg⟩ : ∃ g, g = wr.heap.size := ⟨_, rfl⟩
        rw [← hg] at y4 hne ⊢
        generalize (wr.alloc (.cells #[.int .i64 a, .int .i64 b, .int .i64 c, .int .i64 d] 28)).drew = V at x4 b4 y4 ⊢
        clear bD x3 b3 hg q0 q1 q2 q3 LT
        obtain ⟨d0, d1, d2, d3⟩ := y4.facts
        simp only at d0 d1 d2 d3
        go_wp2_with fail
        refine (HSH.out _).mono ?_
        cases o with
        | false =>
          obtain ⟨hz, -, hno⟩ := rmr_no HR.out (fun h => by cases h)
          have hsn := shw_ne hno hps ⟨a, b, c, d⟩
          generalize shwS ⟨a, b, c, d⟩ = T at hsn ⊢
          rintro e w5 ⟨rfl, hb5⟩
          have x5 := x4.below hb5
          have b5 := b4.trans (hb5.mono b4.size)
          clear x4 b4 y4 d0 d1 d2 d3 hb5 HO HSH hno
          obtain ⟨d0, d1, d2, d3⟩ := x5.facts
          obtain ⟨f0, f1, f2, f3⟩ := x5.fz
          obtain ⟨k0, k1, k2, k3⟩ := (x5.put movZ).facts
          have HF : Hid (Below w.heap.size w (put4 w5 w.heap.size movZ)) := put4_below b5 (Nat.le_refl _) movZ
          unfold put4 movZ at k0 k1 k2 k3 HF
          simp only at k0 k1 k2 k3 HF
          clear x5 b5
          have HZ : Hid (R = movZ) := hz
          clear hz
          go_wp2
          exact bodyPost_ret (v := .tuple #[.agg #[.int .i64 0, .int .i64 0, .int .i64 0, .int .i64 0], .bool false]) (by simp [results, Tryd.results38, go_sem, k0, k1, k2, k3]) rfl ⟨ret_mov HZ.out rfl, HF.out⟩
        | true =>
          have hR := HO.out rfl
          have hsn : shwS ⟨a, b, c, d⟩ = s := by
            rcases HR.out with ⟨_, _, h2⟩ | ⟨h1, _⟩
            · rw [← hR]; exact h2
            · cases h1
          rw [hsn]
          rintro e w5 ⟨rfl, hb5⟩
          have x5 := x4.below hb5
          have y5 := y4.below hb5
          have b5 := b4.trans (hb5.mono b4.size)
          clear x4 b4 y4 d0 d1 d2 d3 hb5 HO HSH hsn
          obtain ⟨d0, d1, d2, d3⟩ := x5.facts
          obtain ⟨f0, f1, f2, f3⟩ := x5.fz
          obtain ⟨p0, p1, p2, p3⟩ := y5.facts
          obtain ⟨k0, k1, k2, k3⟩ := (x5.put ⟨a, b, c, d⟩).facts
          have HF : Hid (Below w.heap.size w (put4 w5 w.heap.size ⟨a, b, c, d⟩)) := put4_below b5 (Nat.le_refl _) ⟨a, b, c, d⟩
          unfold put4 at k0 k1 k2 k3 HF
          simp only at p0 p1 p2 p3 k0 k1 k2 k3 HF
          clear x5 y5 b5
          have HZ : Hid (R = ⟨a, b, c, d⟩) := hR
          clear hR
          go_wp2
          exact bodyPost_ret (v := .tuple #[.agg #[.int .i64 a, .int .i64 b, .int .i64 c, .int .i64 d], .bool true]) (by simp [results, Tryd.results38, go_sem, k0, k1, k2, k3]) rfl ⟨ret_mov1 HZ.out rfl, HF.out⟩
      · have hne : ((k : Int) != 4) = true := by simp; omega
        obtain ⟨hz, ho, -⟩ := rmr_no HR.out (fun h => by have := (HY.out h).2; rw [this] at HN; exact h4 HN.out)
        clear ow bw
        obtain ⟨d0, d1, d2, d3⟩ := x3.facts
        obtain ⟨f0, f1, f2, f3⟩ := x3.fz
        obtain ⟨k0, k1, k2, k3⟩ := (x3.put movZ).facts
        have HF : Hid (Below w.heap.size w (put4 wr w.heap.size movZ)) := put4_below b3 (Nat.le_refl _) movZ
        unfold put4 movZ at k0 k1 k2 k3 HF
        simp only at k0 k1 k2 k3 HF
        clear x3 b3
        have HZ : Hid (R = movZ ∧ o = false) := ⟨hz, ho⟩
        clear hz ho
        go_wp2
        exact bodyPost_ret (v := .tuple #[.agg #[.int .i64 0, .int .i64 0, .int .i64 0, .int .i64 0], .bool false]) (by simp [results, Tryd.results38, go_sem, k0, k1, k2, k3]) rfl ⟨ret_mov HZ.out.1 HZ.out.2, HF.out⟩
end Go.Proofs.YtdleolgkbkoekaaDoor
