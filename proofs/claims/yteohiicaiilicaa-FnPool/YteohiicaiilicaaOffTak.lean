/- The contracts of the program's take, of its copy of the Offers as a heap, and of its Offered. -/
-- UNF Gen
import Derived.Test.YteohiicaiilicaaOffHeap3
import Derived.Test.YteohiicaiilicaaOffRes
namespace Go.Proofs.Yteohiicaiilicaa
open Go.RowKit
theorem put2O {W : World} {N : Nat} {p q u0 u1 : Value} {t : TypeId} (h : W.heap[N]? = some (.cells #[p, q] t (0, 0))) : ((W.setCell ⟨N, 0, none⟩ u0).setCell ⟨N, 1, none⟩ u1).heap[N]? = some (.cells #[u0, u1] t (0, 0)) := by
  have h1 := heap_setCell_same W N 0 #[p, q] t u0 h
  have h2 := heap_setCell_same (W.setCell ⟨N, 0, none⟩ u0) N 1 _ t u1 h1
  simpa using h2
theorem box2O {W : World} {N : Nat} {p q : Value} {t : TypeId} (h : W.heap[N]? = some (.cells #[p, q] t (0, 0))) : W.cell? ⟨N, 0, none⟩ = some p ∧ W.cell? ⟨N, 1, none⟩ = some q ∧ W.frozen? ⟨N, 0, none⟩ = false ∧ W.frozen? ⟨N, 1, none⟩ = false := by
  refine ⟨?_, ?_, ?_, ?_⟩ <;> simp [World.cell?, World.frozen?, h]
theorem OHp.other {w0 w w' : World} {sb n cap c0 : Nat} {a : Option Addr} {es : List Off} (h : OHp w0 w sb a n cap c0 es) (hb : Below w0.heap.size w0 w') (hs : w'.heap[sb]? = w.heap[sb]?) (hr : ∀ k, (Value.slice a n c0).ownBlock = some k → w'.heap[k]? = w.heap[k]?) : OHp w0 w' sb a n cap c0 es :=
  ⟨hb, h.ge, hs.trans h.box, ownO_kept h.own hr, h.nc, h.cc, h.ne, h.few⟩
theorem ownBlock_any (a : Option Addr) (n c n' c' : Nat) : (Value.slice a n c).ownBlock = (Value.slice a n' c').ownBlock := by cases a <;> rfl
theorem alloc_at (w : World) (o : Obj) : (w.alloc o).heap[w.heap.size]? = some o := by rw [show (w.alloc o).heap = w.heap.push o from rfl]; simp
set_option maxHeartbeats 1000000 in
set_option maxRecDepth 100000 in
theorem otake_no (w0 w : World) (sb cap c0 : Nat) (a : Option Addr) (es : List Off) (h : OHp w0 w sb a 0 cap c0 es) :
    Calls Try.prog 42 #[.pointer (some ⟨sb, 0, none⟩)] w fun e w' => e = .returned (.tuple #[.agg #[.int .i64 0, .string ⟨#[]⟩], .bool false]) ∧ OHp w0 w' sb a 0 cap c0 es ∧ OHop w a sb w' := by
  have hb := below1 w (.cells #[.int .i64 0, .string ⟨#[]⟩] 26)
  have h1 := h.below hb
  have hce := h1.cell
  have bx := alloc_at w (.cells #[.int .i64 0, .string ⟨#[]⟩] 26)
  obtain ⟨z0, z1, g0, g1⟩ := box2O bx
  have HE : Hid (_ ∧ _) := And.intro h1 (OHop.below (a := a) (sb := sb) hb)
  clear h h1 hb bx
  go_enter Try.func42, Try.ntmps42
  go_wp2_with fail
  refine (olen_any _ _ _ _).mono ?_
  rintro e w2 ⟨rfl, hw2⟩
  subst hw2
  go_wp2
  exact bodyPost_ret (v := .tuple #[.agg #[.int .i64 0, .string ⟨#[]⟩], .bool false]) (by simp [results, Try.results42, go_sem, z0, z1]) rfl ⟨rfl, HE.out⟩
set_option maxHeartbeats 1000000 in
set_option maxRecDepth 100000 in
theorem otake_yes (w0 w : World) (sb n cap c0 : Nat) (a : Option Addr) (es : List Off) (h : OHp w0 w sb a (n + 1) cap c0 es) :
    Calls Try.prog 42 #[.pointer (some ⟨sb, 0, none⟩)] w fun e w' => e = .returned (.tuple #[.agg #[.int .i64 (nthO es 0).fee, .string (nthO es 0).text], .bool true]) ∧ OHp w0 w' sb a n n c0 (nxtL es) ∧ OHop w a sb w' := by
  have hb := below1 w (.cells #[.int .i64 0, .string ⟨#[]⟩] 26)
  have h1 := h.below hb
  have hce := h1.cell
  have bx := alloc_at w (.cells #[.int .i64 0, .string ⟨#[]⟩] 26)
  have hN : w0.heap.size ≤ w.heap.size := h.bel.size
  have hsl := h.lt
  have hrl : ∀ k, (Value.slice a 0 0).ownBlock = some k → k < w.heap.size := fun k hk => (World.ownsRow.lt h.own k (by rw [ownBlock_any a _ _ 0 0]; exact hk)).2
  have HPOP : Hid (Calls _ _ _ _ _) := oheapPop_any w0 (w.alloc (.cells #[.int .i64 0, .string ⟨#[]⟩] 26)) sb n cap c0 a es h1
  obtain ⟨x, hx⟩ : ∃ x, x = nthO es 0 := ⟨_, rfl⟩
  rw [← hx] at HPOP ⊢
  generalize nxtL es = fs at HPOP ⊢
  have HX : Hid (∀ w3, OHp w0 w3 sb a n n c0 fs → OHop (w.alloc (.cells #[.int .i64 0, .string ⟨#[]⟩] 26)) a sb w3 →
      (w3.cell? ⟨w.heap.size, 0, none⟩ = some (.int .i64 0) ∧ w3.cell? ⟨w.heap.size, 1, none⟩ = some (.string ⟨#[]⟩) ∧ w3.frozen? ⟨w.heap.size, 0, none⟩ = false ∧ w3.frozen? ⟨w.heap.size, 1, none⟩ = false) ∧
      (((w3.setCell ⟨w.heap.size, 0, none⟩ (.int .i64 x.fee)).setCell ⟨w.heap.size, 1, none⟩ (.string x.text)).cell? ⟨w.heap.size, 0, none⟩ = some (.int .i64 x.fee) ∧ ((w3.setCell ⟨w.heap.size, 0, none⟩ (.int .i64 x.fee)).setCell ⟨w.heap.size, 1, none⟩ (.string x.text)).cell? ⟨w.heap.size, 1, none⟩ = some (.string x.text)) ∧
      OHp w0 ((w3.setCell ⟨w.heap.size, 0, none⟩ (.int .i64 x.fee)).setCell ⟨w.heap.size, 1, none⟩ (.string x.text)) sb a n n c0 fs ∧ OHop w a sb ((w3.setCell ⟨w.heap.size, 0, none⟩ (.int .i64 x.fee)).setCell ⟨w.heap.size, 1, none⟩ (.string x.text))) := fun w3 h3 hop3 => by
    have bx3 : w3.heap[w.heap.size]? = some (.cells #[.int .i64 0, .string ⟨#[]⟩] 26 (0, 0)) := (hop3.block _ (by simp) (by omega) (fun e => by have := hrl _ e; omega)).trans bx
    have bx4 := put2O (u0 := .int .i64 x.fee) (u1 := .string x.text) bx3
    refine ⟨box2O bx3, ⟨(box2O bx4).1, (box2O bx4).2.1⟩, h3.other ((h3.bel.setCell hN _).setCell hN _) ?_ (fun k hk => ?_), ⟨?_, fun k hk hks hkr => ?_⟩⟩
    · rw [heap_setCell_other _ _ _ _ (by simp; omega), heap_setCell_other _ _ _ _ (by simp; omega)]
    · have := hrl k (by rw [ownBlock_any a 0 0 n c0]; exact hk)
      rw [heap_setCell_other _ _ _ _ (by simp; omega), heap_setCell_other _ _ _ _ (by simp; omega)]
    · have := hop3.size; simp at this ⊢; omega
    · rw [heap_setCell_other _ _ _ _ (by simp; omega), heap_setCell_other _ _ _ _ (by simp; omega), hop3.block k (by simp; omega) hks hkr]
      exact hb.block k hk
  have hta := fun W => run_assert_off W (.agg #[.int .i64 x.fee, .string x.text])
  clear h h1 hb bx hN hsl hrl hx
  go_enter Try.func42, Try.ntmps42
  go_wp2_with fail
  refine (olen_any _ _ _ _).mono ?_
  rintro e w2 ⟨rfl, hw2⟩
  subst hw2
  clear hce
  have hnz : ¬ (n : Int) + 1 = 0 := by omega
  have hnb : ((n : Int) + 1 == 0) = false := by simp; omega
  go_wp2_with fail
  refine HPOP.out.mono ?_
  rintro e w3 ⟨rfl, h3, hop3⟩
  obtain ⟨⟨z0, z1, g0, g1⟩, ⟨x0, x1⟩, he⟩ := HX.out w3 h3 hop3
  have HE : Hid (_ ∧ _) := he
  clear h3 hop3 he HX HPOP
  go_wp2
  exact bodyPost_ret (v := .tuple #[.agg #[.int .i64 x.fee, .string x.text], .bool true]) (by simp [results, Try.results42, go_sem, x0, x1]) rfl ⟨rfl, HE.out⟩
set_option maxHeartbeats 1000000 in
set_option maxRecDepth 100000 in
theorem copiedOffs_any (v : Value) (bs : List Off) (w : World) (hr : RdO w v bs) (hl : bs.length ≤ 1000000000) :
    Calls Try.prog 52 #[v] w fun e w' => ∃ u, e = .returned u ∧ OwnO w' w.heap.size u bs ∧ Below w.heap.size w w' := by
  have hoi := ownO_none w
  have b0 := below1 w (.cells #[] 26)
  have hr0 := hr.below b0
  go_enter Try.func52, Try.ntmps52
  go_wp2_with (at_builtin; (refine wpList_append_offs rfl _ _ rfl w.heap.size _ _ [] bs rfl rfl hoi hr0 (by simp; omega) (by simp) ?_))
  intro u w1 ho hg
  have b1 : Below w.heap.size w w1 := b0.grown hg (by simp) (fun k hk => by have : w.heap.size = k := Option.some.inj hk; omega)
  clear hoi b0 hr0 hg
  go_wp2
  go_ret
  exact ⟨u, rfl, ho, b1⟩
set_option maxHeartbeats 1000000 in
set_option maxRecDepth 100000 in
theorem offersOf_any (v : Value) (es : List Off) (w : World) (hr : RdO w v es) (hl : es.length ≤ 51) :
    Calls Try.prog 39 #[v] w fun e w' => ∃ sb a n cap, e = .returned (.pointer (some ⟨sb, 0, none⟩)) ∧ OHp w w' sb a n cap cap es := by
  go_enter Try.func39, Try.ntmps39
  go_wp2_with fail
  refine (copiedOffs_any v es _ hr (by omega)).mono ?_
  rintro e w1 ⟨u, rfl, ho, hb⟩
  obtain ⟨a, n, c, rfl⟩ : ∃ a n c, u = .slice a n c := by
    obtain ⟨a, c, hv, -⟩ := ho.rd
    exact ⟨a, _, c, hv⟩
  have HE : Hid (OHp w (w1.alloc (.cells #[.slice a n c] 64)) w1.heap.size a n c c es) := ⟨hb.alloc hb.size _, hb.size, alloc_at _ _, ho.below (below1 _ _), (ownO_shape ho).2.1, Nat.le_refl _, fun k hk => by have := (World.ownsRow.lt ho k hk).2; omega, hl⟩
  clear ho hb hr
  go_wp2
  go_ret
  exact ⟨_, _, _, _, rfl, HE.out⟩
theorem OPush.box {w0 w : World} {sb : Nat} {es : List Off} (h : OPush w0 w sb es) : ∃ a n cap, w.cell? ⟨sb, 0, none⟩ = some (.slice a n cap) ∧ OwnO w w0.heap.size (.slice a n cap) es ∧ Below w0.heap.size w0 w := by
  obtain ⟨a, n, cap, h⟩ := h
  exact ⟨a, n, cap, h.cell, h.own, h.bel⟩
set_option maxHeartbeats 4000000 in
set_option maxRecDepth 100000 in
theorem implOffered_any (v : Value) (es : List Off) (o : Off) (w : World) (hr : RdO w v es) (hf : ∀ e ∈ es, e.text.size ≤ maxLen) (hfo : o.text.size ≤ maxLen) :
    Calls Try.prog 10 #[v, .agg #[.int .i64 o.fee, .string o.text]] w fun e w' => OffRes es o w e w' := by
  obtain ⟨a, cap, hv, hl, hm, _⟩ := id hr
  unfold maxLen at hm
  subst hv
  have b1 := below1 w (.cells #[.int .i64 o.fee, .string o.text] 26)
  have hat := offAt_new w o 26
  have HC : Hid (∀ P, poolOk es = P → ∀ W, RdO W (.slice a es.length cap) es → Calls Try.prog 17 #[.slice a es.length cap] W fun e w' => e = .returned (.bool P) ∧ Below W.heap.size W w') := fun P hP W h => by subst hP; exact implPoolOk_any _ es W h hf
  have HO : Hid (∀ P, okO o = P → ∀ W, Calls Try.prog 38 #[.agg #[.int .i64 o.fee, .string o.text]] W fun e w' => e = .returned (.bool P) ∧ Below W.heap.size W w') := fun P hP W => by subst hP; exact offerOk_any o W hfo
  have hr1 := hr.below b1
  clear hf hfo
  cases hp : poolOk es with
  | false =>
    have RES : Hid (offO es o = false) := by unfold Hid offO; rw [hp]; rfl
    go_enter Try.func10, Try.ntmps10
    go_wp2_with fail
    refine (HC.out false hp _ hr1).mono ?_
    rintro e w2 ⟨rfl, hb2⟩
    have b2 := b1.trans (hb2.mono b1.size)
    clear hb2 b1 hr1 hat
    go_wp2
    go_ret2
    exact offRes_no RES.out b2
  | true =>
    have hl50 := (poolOk_iff.1 hp).1
    cases hok : okO o with
    | false =>
      have RES : Hid (offO es o = false) := by unfold Hid offO; rw [hp, hok]; rfl
      go_enter Try.func10, Try.ntmps10
      go_wp2_with fail
      refine (HC.out true hp _ hr1).mono ?_
      rintro e w2 ⟨rfl, hb2⟩
      obtain ⟨c0, c1⟩ := hat.below hb2
      have b2 := b1.trans (hb2.mono b1.size)
      clear hb2 b1 hr1 hat
      go_wp2_with fail
      refine (HO.out false hok _).mono ?_
      rintro e w3 ⟨rfl, hb3⟩
      have b3 := b2.trans (hb3.mono b2.size)
      clear hb3 b2 c0 c1
      go_wp2
      go_ret2
      exact offRes_no RES.out b3
    | true =>
      by_cases h50 : es.length = 50
      · have RES : Hid (offO es o = false) := by unfold Hid offO; rw [hp, hok]; simp [h50]
        have heq : ((es.length : Int) == 50) = true := by simp; omega
        have heq2 : decide ((es.length : Int) = 50) = true := by simp; omega
        clear h50
        go_enter Try.func10, Try.ntmps10
        go_wp2_with fail
        refine (HC.out true hp _ hr1).mono ?_
        rintro e w2 ⟨rfl, hb2⟩
        obtain ⟨c0, c1⟩ := hat.below hb2
        have b2 := b1.trans (hb2.mono b1.size)
        clear hb2 b1 hr1 hat
        go_wp2_with fail
        refine (HO.out true hok _).mono ?_
        rintro e w3 ⟨rfl, hb3⟩
        have b3 := b2.trans (hb3.mono b2.size)
        clear hb3 b2 c0 c1
        go_wp2
        go_ret2
        exact offRes_no RES.out b3
      · have RES : Hid (offO es o = true) := by unfold Hid offO; rw [hp, hok]; simp [h50]
        have heq : ((es.length : Int) == 50) = false := by simp; omega
        have heq2 : decide ((es.length : Int) = 50) = false := by simp; omega
        have hl49 : es.length < 50 := by omega
        clear h50
        go_enter Try.func10, Try.ntmps10
        go_wp2_with fail
        refine (HC.out true hp _ hr1).mono ?_
        rintro e w2 ⟨rfl, hb2⟩
        have hat2 := hat.below hb2
        obtain ⟨c0, c1⟩ := id hat2
        have b2 := b1.trans (hb2.mono b1.size)
        clear hb2 b1 hr1 hat
        go_wp2_with fail
        refine (HO.out true hok _).mono ?_
        rintro e w3 ⟨rfl, hb3⟩
        have hat3 := hat2.below hb3
        have b3 := b2.trans (hb3.mono b2.size)
        have hr3 := hr.below b3
        clear hb3 b2 c0 c1 hat2
        go_wp2_with fail
        refine (offersOf_any _ es _ hr3 (by omega)).mono ?_
        rintro e w4 ⟨sb, a4, n4, c4, rfl, h4⟩
        obtain ⟨d0, d1⟩ := hat3.below h4.bel
        clear hat3
        go_wp2_with fail
        refine (oheapPush_any w3 _ sb n4 c4 a4 es o h4 (by omega)).mono ?_
        rintro e w5 ⟨rfl, h5⟩
        obtain ⟨a5, n5, c5, hce5, ho5, hb5⟩ := h5.box
        have HE : Hid (OffRes es o w (.returned (.tuple #[.slice a5 n5 c5, .bool true])) w5) := offRes_yes RES.out ho5 b3.size (b3.trans (hb5.mono b3.size))
        clear h4 h5 ho5 hb5 d0 d1 hr3 b3
        go_wp2
        go_ret2
        exact HE.out
end Go.Proofs.Yteohiicaiilicaa
