/- The contracts of the laws' own helpers over patches and devices: measured, copied, alike. -/
import Derived.Test.YthchhkiijehjbaaGreatDoorG02
import Derived.Test.YthchhkiijehjbaaGreatDoorG03
import Derived.Test.YthchhkiijehjbaaGreatDoorStrMark
-- UNF Gen
namespace Go.Proofs.YthchhkiijehjbaaGreatDoor
open Go.RowKit
set_option maxHeartbeats 1000000 in
set_option maxRecDepth 100000 in
theorem szPatch_any (x : Pat) (l : Int) (w : World) (hl0 : 0 ≤ l) (hl1 : l ≤ 1048576) (hk : x.text.size ≤ maxLen) :
    Calls Tryz.prog 39 #[.agg #[.int .i64 x.pos, .string x.text], .int .i64 l] w fun e w' => Below w.heap.size w w' ∧ ∃ z : Int, e = .returned (.int .i64 z) ∧ (z = -1 ∨ 0 ≤ z ∧ z ≤ l) := by
  unfold maxLen at hk
  by_cases h1 : l - (x.text.size : Int) < 0
  · go_enter Tryz.func39, Tryz.ntmps39
    go_wp2
    go_ret
    exact ⟨below1 _ _, -1, rfl, .inl rfl⟩
  · go_enter Tryz.func39, Tryz.ntmps39
    go_wp2
    go_ret
    exact ⟨below1 _ _, _, rfl, .inr ⟨by omega, by omega⟩⟩
/-- What the measure of a row of patches leaves. -/
def SzPs (w : World) (es : List Pat) (l : Int) (e : Ending) (w' : World) : Prop :=
  Below w.heap.size w w' ∧ ∃ z : Int, e = .returned (.int .i64 z) ∧ (z = -1 ∨ 0 ≤ z ∧ z + es.length ≤ l)
set_option maxHeartbeats 1000000 in
set_option maxRecDepth 100000 in
theorem szPats_at (v : Value) (es : List Pat) (l : Int) (w : World) (hr : RdPt w v es) (hsz : ∀ x ∈ es, x.text.size ≤ maxLen) (hl0 : 0 ≤ l) (hl1 : l ≤ 1048576) :
    Calls Tryz.prog 18 #[v, .int .i64 l] w fun e w' => SzPs w es l e w' := by
  obtain ⟨a, cap, hv, hl, hm, _⟩ := id hr
  unfold maxLen at hm
  subst hv
  have HSZ : Hid (∀ x ∈ es, x.text.size ≤ maxLen) := hsz
  clear hsz
  by_cases hbig : l - (es.length : Int) < 0
  · go_enter Tryz.func18, Tryz.ntmps18
    go_wp2
    go_ret
    exact ⟨Below.refl _ _, -1, rfl, .inl rfl⟩
  · go_enter Tryz.func18, Tryz.ntmps18
    go_wp2
    go_loopw [1, 5] (fun z i wr => ∃ (k : Nat) (x : Int), k ≤ es.length ∧ i = .int .i64 k ∧ z = .int .i64 x ∧ 0 ≤ x ∧ x ≤ l - (es.length : Int) ∧ Below w.heap.size w wr) (fun _ i _ => es.length - (intOf i).toNat)
    case atStart => exact ⟨0, _, Nat.zero_le _, rfl, rfl, by omega, by omega, Below.refl _ _⟩
    case round =>
      obtain ⟨k, x, hk, rfl, rfl, hx0, hx1, hb⟩ := hrel
      by_cases hlt : k < es.length
      · obtain ⟨b, off, rfl, hc⟩ := (hr.below hb).at rfl k hlt
        have hsk := HSZ.out _ (List.getElem_mem hlt)
        rw [← nthP_eq hlt] at hsk
        generalize nthP es k = y at hc hsk
        obtain ⟨c0, c1⟩ := hc
        go_wp2_with fail
        refine (szPatch_any y x _ hx0 (by omega) hsk).mono ?_
        rintro e w1 ⟨hb1, z, rfl, hz⟩
        have bz := hb.trans (hb1.mono hb.size)
        rcases hz with hz | ⟨hz0, hz1⟩
        · subst hz
          go_wp2
          go_ret
          exact ⟨bz, -1, rfl, .inl rfl⟩
        · clear hb hb1
          go_wp2
          go_roundw
          case rel => exact ⟨k + 1, _, by omega, by go_num, rfl, hz0, by omega, bz⟩
          case measure => simp [intOf]; omega
      · go_wp2
        go_ret
        exact ⟨hb, x, rfl, .inr ⟨hx0, by omega⟩⟩
set_option maxHeartbeats 1000000 in
set_option maxRecDepth 100000 in
theorem eqPatch_same (x : Pat) (w : World) :
    Calls Tryz.prog 45 #[.agg #[.int .i64 x.pos, .string x.text], .agg #[.int .i64 x.pos, .string x.text]] w fun e w' => e = .returned (.bool true) ∧ Below w.heap.size w w' := by
  have h2 : (x.pos != x.pos) = false := by simp
  go_enter Tryz.func45, Tryz.ntmps45
  go_wp2
  go_ret
  exact ⟨rfl, below2 _ _ _⟩
set_option maxHeartbeats 1000000 in
set_option maxRecDepth 100000 in
theorem eqPats_same (va vb : Value) (es : List Pat) (w : World) (ha : RdPt w va es) (hb : RdPt w vb es) :
    Calls Tryz.prog 24 #[va, vb] w fun e w' => e = .returned (.bool true) ∧ Below w.heap.size w w' := by
  obtain ⟨aa, ca, hva, hla, hma, _⟩ := id ha
  obtain ⟨ab, cb, hvb, hlb, hmb, _⟩ := id hb
  subst hva
  subst hvb
  unfold maxLen at hma hmb
  have hne : ((es.length : Int) != (es.length : Int)) = false := by simp
  go_enter Tryz.func24, Tryz.ntmps24
  go_wp2
  go_loopw [5] (fun i wr => ∃ k : Nat, k ≤ es.length ∧ i = .int .i64 k ∧ Below w.heap.size w wr) (fun i _ => es.length - (intOf i).toNat)
  case atStart => exact ⟨0, Nat.zero_le _, rfl, Below.refl _ _⟩
  case round =>
    obtain ⟨k, hk, rfl, hbw⟩ := hrel
    by_cases hlt : k < es.length
    · obtain ⟨b1, o1, rfl, hc1⟩ := (ha.below hbw).at rfl k hlt
      obtain ⟨b2, o2, rfl, hc2⟩ := (hb.below hbw).at rfl k hlt
      obtain ⟨x, hx⟩ : ∃ x, x = nthP es k := ⟨_, rfl⟩
      rw [← hx] at hc1 hc2
      clear hx
      go_wp2_with fail
      refine wp_region_noPanic ?_
      refine wp_region_held_drew (S := fun w' => (w'.cell? ⟨b1, o1 + k * 2, none⟩ = some (.int .i64 x.pos) ∧ w'.cell? ⟨b1, o1 + k * 2 + 1, none⟩ = some (.string x.text)) ∧ (w'.cell? ⟨b2, o2 + k * 2, none⟩ = some (.int .i64 x.pos) ∧ w'.cell? ⟨b2, o2 + k * 2 + 1, none⟩ = some (.string x.text))) (by kernel_rfl) ⟨hc1, hc2⟩ (fun hH => ?_)
      refine tkG 0 17 hH ?_
      try simp only [Act.put, List.setIfInBounds_toArray, List.set_cons_zero, List.set_cons_succ]
      refine tkG 1 18 hH ?_
      try simp only [Act.put, List.setIfInBounds_toArray, List.set_cons_zero, List.set_cons_succ]
      refine tkG 2 19 hH ?_
      try simp only [Act.put, List.setIfInBounds_toArray, List.set_cons_zero, List.set_cons_succ]
      refine tkG 3 20 hH ?_
      try simp only [Act.put, List.setIfInBounds_toArray, List.set_cons_zero, List.set_cons_succ]
      refine tkG 4 21 hH ?_
      try simp only [Act.put, List.setIfInBounds_toArray, List.set_cons_zero, List.set_cons_succ]
      refine tkG 5 22 hH ?_
      try simp only [Act.put, List.setIfInBounds_toArray, List.set_cons_zero, List.set_cons_succ]
      refine tkG 6 23 hH ?_
      try simp only [Act.put, List.setIfInBounds_toArray, List.set_cons_zero, List.set_cons_succ]
      refine tkG 7 24 hH ?_
      try simp only [Act.put, List.setIfInBounds_toArray, List.set_cons_zero, List.set_cons_succ]
      refine wpAnyH_ready (rs := [8]) (by kernel_rfl) (by simp) ?_
      refine AllReadyH.cons rfl (fun K hK => ?_) AllReadyH.nil
      go_simp
      refine (eqPatch_same x _).mono ?_
      rintro e w1 ⟨rfl, hb1⟩
      refine hK.out _ _ ⟨PatAt.below (w := wr.drew) (e := x) hH.1 hb1, PatAt.below (w := wr.drew) (e := x) hH.2 hb1⟩ (fun hA => ?_)
      clear hK K
      try simp only [Act.put, List.setIfInBounds_toArray, List.set_cons_zero, List.set_cons_succ]
      refine tkG 9 26 hA ?_
      try simp only [Act.put, List.setIfInBounds_toArray, List.set_cons_zero, List.set_cons_succ]
      refine wpAnyH_done (by kernel_rfl) ?_ _
      refine NoPanic.normal ?_
      have bz := hbw.drew.trans (hb1.mono hbw.size)
      clear hH hA hc1 hc2
      go_wp2
      go_roundw
      case rel => exact ⟨k + 1, by omega, by go_num, bz⟩
      case measure => simp [intOf]; omega
    · go_wp2
      go_ret
      exact ⟨rfl, hbw⟩
/-- What a device that comes in can be; what the measure leaves. -/
structure HeldDv (X : DvX) : Prop where
  secs : ∀ s ∈ X.secs, s.size ≤ maxLen
  late : ∀ p ∈ X.late, p.text.size ≤ maxLen
def SmallDv (X : DvX) : Prop := X.secs.length + X.late.length ≤ 1048576
def SzDv (w : World) (X : DvX) (e : Ending) (w' : World) : Prop := Below w.heap.size w w' ∧ ∃ z : Int, e = .returned (.int .i64 z) ∧ (z = -1 ∨ 0 ≤ z ∧ SmallDv X)
set_option maxHeartbeats 2000000 in
set_option maxRecDepth 100000 in
theorem szDevice_any (X : DvX) (w : World) (hx : RdDv w X) (hh : HeldDv X) :
    Calls Tryz.prog 6 #[.agg #[X.vs, X.vl], .int .i64 1048576] w fun e w' => SzDv w X e w' := by
  have t0 := dvAt_new w X 25
  have b0 := below1 w (.cells #[X.vs, X.vl] 25)
  have HS : Hid (∀ l W, RdS W X.vs X.secs → 0 ≤ l → l ≤ 1048576 → Calls Tryz.prog 17 #[X.vs, .int .i64 l] W fun e w' => w' = W ∧ ∃ x : Int, e = .returned (.int .i64 x) ∧ (x = -1 ∨ 0 ≤ x ∧ x + X.secs.length ≤ l ∧ ∀ s ∈ X.secs, s.size ≤ 1048576)) := fun l W h h0 h1 => szTexts_at _ _ l W h hh.secs h0 h1
  have HP : Hid (∀ l W, RdPt W X.vl X.late → 0 ≤ l → l ≤ 1048576 → Calls Tryz.prog 18 #[X.vl, .int .i64 l] W fun e w' => SzPs W X.late l e w') := fun l W h h0 h1 => szPats_at _ _ l W h hh.late h0 h1
  obtain ⟨q0, q1⟩ := id t0
  clear hh
  go_enter Tryz.func6, Tryz.ntmps6
  go_wp2_with fail
  refine (HS.out _ _ (hx.secs.below b0) (by omega) (by omega)).mono ?_
  rintro e w1 ⟨hw1, z1, rfl, hz1⟩
  subst hw1
  rcases hz1 with hz1 | ⟨hz10, hz11, -⟩
  · subst hz1
    go_wp2
    go_ret
    exact ⟨b0, -1, rfl, .inl rfl⟩
  go_wp2_with fail
  refine (HP.out _ _ (hx.late.below b0) hz10 (by omega)).mono ?_
  rintro e w2 ⟨hb2, z2, rfl, hz2⟩
  have b2 := b0.trans (hb2.mono b0.size)
  clear q0 q1 t0 hb2 b0
  rcases hz2 with hz2 | ⟨hz20, hz21⟩
  · subst hz2
    go_wp2
    go_ret
    exact ⟨b2, -1, rfl, .inl rfl⟩
  · have HSUM : Hid (SmallDv X) := by unfold Hid SmallDv; omega
    clear hz11 hz21
    go_wp2
    go_ret
    exact ⟨b2, z2, rfl, .inr ⟨hz20, HSUM.out⟩⟩
/-- A device in rows of the call's own. -/
structure OwnDv (w : World) (B : Nat) (X : DvX) : Prop where
  secs : OwnS w B X.vs X.secs
  late : OwnPt w B X.vl X.late
theorem OwnDv.below {w w' : World} {B : Nat} {X : DvX} (h : OwnDv w B X) (hb : Below w.heap.size w w') : OwnDv w' B X := ⟨h.secs.below hb, h.late.below hb⟩
theorem OwnDv.rd {w : World} {B : Nat} {X : DvX} (h : OwnDv w B X) : RdDv w X := ⟨h.secs.rd, own_nil h.secs, h.late.rd⟩
theorem OwnDv.mono {w : World} {B B' : Nat} {X : DvX} (h : OwnDv w B X) (hb : B' ≤ B) : OwnDv w B' X := ⟨h.secs.mono hb, h.late.mono hb⟩
/-- The blocks of a device's rows. -/
def dvB (X : DvX) : List Nat := oneB X.vs ++ oneB X.vl
theorem OwnDv.bound {w : World} {B : Nat} {X : DvX} (h : OwnDv w B X) {k : Nat} (hk : k ∈ dvB X) : B ≤ k ∧ k < w.heap.size := by
  rcases List.mem_append.1 hk with hk | hk
  · exact World.ownsRow.lt h.secs k (mem_oneB.1 hk)
  · exact World.ownsRow.lt h.late k (mem_oneB.1 hk)
theorem OwnDv.touch {bs : List Nat} {w w' : World} {B : Nat} {X : DvX} (h : OwnDv w B X) (ht : Touch bs w w') (hn : ∀ k ∈ dvB X, k ∉ bs) : OwnDv w' B X :=
  ⟨ht.row h.secs (fun k hk => hn k (List.mem_append_left _ (mem_oneB.2 hk))), ht.row h.late (fun k hk => hn k (List.mem_append_right _ (mem_oneB.2 hk)))⟩
theorem Touch.dv {bs : List Nat} {w w' : World} {b : Nat} {X : DvX} (h : Touch bs w w') (ht : DvAt w b X) (hn : b ∉ bs) : DvAt w' b X := ht.of_block (h.block b ht.lt hn)
/-- A device of the call's own, with these sectors and patches. -/
def ToDv (w : World) (ss : List ByteArray) (ps : List Pat) (e : Ending) (w' : World) : Prop := ∃ Y : DvX, e = .returned (.agg #[Y.vs, Y.vl]) ∧ Y.secs = ss ∧ Y.late = ps ∧ OwnDv w' w.heap.size Y ∧ Below w.heap.size w w'
theorem own_slice {w : World} {B t z n : Nat} {v : Value} {xs : List Value} (h : w.ownsRow B t z v n xs) : ∃ a c, v = .slice a n c := by
  rcases h.2 with ⟨hv, h0⟩ | ⟨g, cap, cur, hv, _⟩
  · exact ⟨none, 0, by rw [hv, h0]⟩
  · exact ⟨_, _, hv⟩
/-- A device's box. -/
def BoxDv (w : World) (b : Nat) (u0 u1 : Value) : Prop := w.heap[b]? = some (.cells #[u0, u1] 31 (0, 0))
theorem BoxDv.lt {w : World} {b : Nat} {u0 u1 : Value} (h : BoxDv w b u0 u1) : b < w.heap.size := (Array.getElem?_eq_some_iff.1 h).1
theorem BoxDv.of_block {w w' : World} {b : Nat} {u0 u1 : Value} (h : BoxDv w b u0 u1) (hb : w'.heap[b]? = w.heap[b]?) : BoxDv w' b u0 u1 := hb.trans h
theorem BoxDv.below {w w' : World} {b : Nat} {u0 u1 : Value} (h : BoxDv w b u0 u1) (hb : Below w.heap.size w w') : BoxDv w' b u0 u1 := h.of_block (hb.block b h.lt)
theorem BoxDv.facts {w : World} {b : Nat} {u0 u1 : Value} (h : BoxDv w b u0 u1) : w.cell? ⟨b, 0, none⟩ = some u0 ∧ w.cell? ⟨b, 1, none⟩ = some u1 ∧ w.frozen? ⟨b, 0, none⟩ = false ∧ w.frozen? ⟨b, 1, none⟩ = false := by
  unfold BoxDv at h
  refine ⟨?_, ?_, ?_, ?_⟩ <;> simp [World.cell?, World.frozen?, h]
theorem boxDv_new (w : World) (u0 u1 : Value) : BoxDv (w.alloc (.cells #[u0, u1] 31)) w.heap.size u0 u1 := heap_alloc_new w _
theorem boxDv_row {w : World} {B b t s n : Nat} {u0 u1 v : Value} {xs : List Value} (h : BoxDv w b u0 u1) (ho : w.ownsRow B t s v n xs) (ht : t ≠ 31) : ∀ k, v.ownBlock = some k → b = k → False := by
  intro k hk e
  subst e
  rcases ho.2 with ⟨rfl, _⟩ | ⟨g, cap, cur, rfl, _, hg, _⟩
  · simp [Value.ownBlock] at hk
  · obtain rfl : g = b := by simpa [Value.ownBlock] using hk
    unfold BoxDv at h
    rw [h] at hg
    injection hg with hg
    injection hg with _ h2
    exact ht h2.symm
theorem BoxDv.set0 {w : World} {b : Nat} {u0 u1 u : Value} (h : BoxDv w b u0 u1) : BoxDv (w.setCell ⟨b, 0, none⟩ u) b u u1 := by
  unfold BoxDv at h ⊢
  exact heap_setCell_same w b 0 _ _ u h
theorem BoxDv.set1 {w : World} {b : Nat} {u0 u1 u : Value} (h : BoxDv w b u0 u1) : BoxDv (w.setCell ⟨b, 1, none⟩ u) b u0 u := by
  unfold BoxDv at h ⊢
  exact heap_setCell_same w b 1 _ _ u h
theorem BoxDv.at {w : World} {b : Nat} {X : DvX} (h : BoxDv w b X.vs X.vl) : DvAt w b X := ⟨h.facts.1, h.facts.2.1⟩
theorem block_set {w : World} {b c j : Nat} {u : Value} (h : c ≠ b) : (w.setCell ⟨c, j, none⟩ u).heap[b]? = w.heap[b]? := heap_setCell_other w ⟨c, j, none⟩ b u (fun e => h e.symm)
set_option maxHeartbeats 4000000 in
set_option maxRecDepth 100000 in
theorem toDevice_any (X : DvX) (w : World) (hx : RdDv w X) (hh : SmallDv X) :
    Calls Tryz.prog 8 #[.agg #[X.vs, X.vl]] w fun e w' => ToDv w X.secs X.late e w' := by
  have HS : Hid (∀ W, RdS W X.vs X.secs → Calls Tryz.prog 20 #[X.vs] W fun e w' => ∃ u, e = .returned u ∧ OwnS w' W.heap.size u X.secs ∧ Below W.heap.size W w') := fun W h => toTexts_any _ _ W h (by unfold SmallDv at hh; omega)
  have HP : Hid (∀ W, RdPt W X.vl X.late → Calls Tryz.prog 21 #[X.vl] W fun e w' => ∃ u, e = .returned u ∧ OwnPt w' W.heap.size u X.late ∧ Below W.heap.size W w') := fun W h => toPats_any _ _ W h (by unfold SmallDv at hh; omega)
  clear hh
  have t0 := dvAt_new w X 25
  have b0 := below1 w (.cells #[X.vs, X.vl] 25)
  obtain ⟨W0, hW0⟩ : ∃ W0, W0 = w.alloc (.cells #[X.vs, X.vl] 25) := ⟨_, rfl⟩
  have s0 : W0.heap.size = w.heap.size + 1 := by rw [hW0]; simp
  rw [← hW0] at t0 b0
  have r1 := boxDv_new W0 (.slice none 0 0) (.slice none 0 0)
  have bb1 := below1 W0 (.cells #[.slice none 0 0, .slice none 0 0] 31)
  obtain ⟨W1, hW1⟩ : ∃ W1, W1 = W0.alloc (.cells #[.slice none 0 0, .slice none 0 0] 31) := ⟨_, rfl⟩
  have s1 : W1.heap.size = w.heap.size + 2 := by rw [hW1]; simp [s0]
  rw [← hW1] at r1 bb1
  have o2 := boxDv_new W1 (.slice none 0 0) (.slice none 0 0)
  have bb2 := below1 W1 (.cells #[.slice none 0 0, .slice none 0 0] 31)
  obtain ⟨W2, hW2⟩ : ∃ W2, W2 = W1.alloc (.cells #[.slice none 0 0, .slice none 0 0] 31) := ⟨_, rfl⟩
  have s2 : W2.heap.size = w.heap.size + 3 := by rw [hW2]; simp [s1]
  rw [← hW2] at o2 bb2
  have t2 := (t0.below bb1).below bb2
  have r2 := r1.below bb2
  rw [s0] at r2
  rw [s1] at o2
  have b2 : Below w.heap.size w W2 := (b0.trans (bb1.mono b0.size)).trans (bb2.mono (by omega))
  have HW : Hid (((w.alloc (.cells #[X.vs, X.vl] 25)).alloc (.cells #[.slice none 0 0, .slice none 0 0] 31)).alloc (.cells #[.slice none 0 0, .slice none 0 0] 31) = W2) := by unfold Hid; rw [hW2, hW1, hW0]
  obtain ⟨q0, q1⟩ := id t2
  rw [← HW.out] at q0 q1
  clear t0 b0 r1 bb1 bb2 hW0 hW1 hW2 s0 s1
  go_enter Tryz.func8, Tryz.ntmps8
  go_wp2_with fail
  rw [HW.out]
  refine (HS.out _ (hx.secs.below b2)).mono ?_
  rintro e w3 ⟨us, rfl, hs3, hb3⟩
  have t3 := t2.below hb3
  have r3 := r2.below hb3
  have o3 := o2.below hb3
  have b3 := b2.trans (hb3.mono b2.size)
  have s3 := hb3.size
  clear q0 q1 t2 r2 o2 b2 hb3 HS HW
  obtain ⟨f0, f1, f2, f3⟩ := o3.facts
  have o4 := o3.set0 (u := us)
  have t4 : DvAt (w3.setCell ⟨w.heap.size + 2, 0, none⟩ us) w.heap.size X := t3.of_block (block_set (by omega))
  have r4 : BoxDv (w3.setCell ⟨w.heap.size + 2, 0, none⟩ us) (w.heap.size + 1) _ _ := r3.of_block (block_set (by omega))
  have hs4 : OwnS (w3.setCell ⟨w.heap.size + 2, 0, none⟩ us) (w.heap.size + 3) us X.secs := by rw [s2] at hs3; exact row_base hs3 (by omega)
  have b4 : Below w.heap.size w (w3.setCell ⟨w.heap.size + 2, 0, none⟩ us) := b3.setCell (p := ⟨w.heap.size + 2, 0, none⟩) (by simp) _
  have s4 : W2.heap.size ≤ (w3.setCell ⟨w.heap.size + 2, 0, none⟩ us).heap.size := by simpa using s3
  obtain ⟨as1, cs1, hvs⟩ := own_slice hs3
  obtain ⟨q0, q1⟩ := id t4
  clear t3 r3 o3 b3 hs3
  generalize X.secs.length = sn at hvs
  subst hvs
  go_wp2_with fail
  generalize w3.setCell ⟨w.heap.size + 2, 0, none⟩ (.slice as1 sn cs1) = W4 at o4 t4 r4 hs4 b4 s4 q0 q1 ⊢
  refine (HP.out _ (hx.late.below b4)).mono ?_
  rintro e w5 ⟨ul, rfl, hl5, hb5⟩
  have r5 := r4.below hb5
  have o5 := o4.below hb5
  have b5 := b4.trans (hb5.mono b4.size)
  have hs5 := hs4.below hb5
  clear q0 q1 t4 r4 o4 b4 hs4 hb5 HP f0 f1 f2 f3
  obtain ⟨al1, cl1, hvl⟩ := own_slice hl5
  obtain ⟨f0, f1, f2, f3⟩ := o5.facts
  have o6 := o5.set1 (u := ul)
  have r6 : BoxDv (w5.setCell ⟨w.heap.size + 2, 1, none⟩ ul) (w.heap.size + 1) _ _ := r5.of_block (block_set (by omega))
  have hs6 : OwnS (w5.setCell ⟨w.heap.size + 2, 1, none⟩ ul) (w.heap.size + 3) (.slice as1 sn cs1) X.secs := row_base hs5 (by omega)
  have hl6 : OwnPt (w5.setCell ⟨w.heap.size + 2, 1, none⟩ ul) (w.heap.size + 3) ul X.late := row_base (OwnPt.mono hl5 (by omega)) (by omega)
  have b6 : Below w.heap.size w (w5.setCell ⟨w.heap.size + 2, 1, none⟩ ul) := b5.setCell (p := ⟨w.heap.size + 2, 1, none⟩) (by simp) _
  obtain ⟨g0, g1, g2, g3⟩ := o6.facts
  obtain ⟨h0, h1, h2, h3⟩ := r6.facts
  clear o5 r5 hs5 hl5 b5
  generalize X.late.length = ln at hvl
  subst hvl
  have HF : Hid (ToDv w X.secs X.late (.returned (.agg #[.slice as1 sn cs1, .slice al1 ln cl1])) (((w5.setCell ⟨w.heap.size + 2, 1, none⟩ (.slice al1 ln cl1)).setCell ⟨w.heap.size + 1, 0, none⟩ (.slice as1 sn cs1)).setCell ⟨w.heap.size + 1, 1, none⟩ (.slice al1 ln cl1))) :=
    ⟨⟨.slice as1 sn cs1, .slice al1 ln cl1, X.secs, X.late⟩, rfl, rfl, rfl, ⟨OwnS.mono (row_base (row_base hs6 (by omega)) (by omega)) (by omega), OwnPt.mono (row_base (row_base hl6 (by omega)) (by omega)) (by omega)⟩, (b6.setCell (p := ⟨w.heap.size + 1, 0, none⟩) (by simp) _).setCell (p := ⟨w.heap.size + 1, 1, none⟩) (by simp) _⟩
  have z := (r6.set0 (u := .slice as1 sn cs1)).set1 (u := .slice al1 ln cl1)
  obtain ⟨k0, k1, -, -⟩ := z.facts
  clear z o6 r6 hs6 hl6 b6
  go_wp2
  exact bodyPost_ret (v := .agg #[.slice as1 sn cs1, .slice al1 ln cl1]) (by simp [results, Tryz.results8, go_sem, k0, k1]) rfl HF.out
theorem below_drewN' {W : World} (n : Nat) : Below W.heap.size W (W.drewN n) := below_drewN (Below.refl _ _) n
set_option maxHeartbeats 2000000 in
set_option maxRecDepth 100000 in
theorem eqDevice_same (Y Z : DvX) (w : World) (hy : RdDv w Y) (hz : RdDv w Z) (hs : Y.secs = Z.secs) (hl : Y.late = Z.late) :
    Calls Tryz.prog 10 #[.agg #[Y.vs, Y.vl], .agg #[Z.vs, Z.vl]] w fun e w' => e = .returned (.bool true) ∧ Below w.heap.size w w' := by
  have HS : Hid (∀ W, RdDv W Y → RdDv W Z → Calls Tryz.prog 23 #[Y.vs, Z.vs] W fun e w' => e = .returned (.bool true) ∧ ∃ q, w' = W.drewN q) := fun W h1 h2 => eqTexts_same _ _ Y.secs W h1.secs (by rw [hs]; exact h2.secs)
  have HP : Hid (∀ W, RdDv W Y → RdDv W Z → Calls Tryz.prog 24 #[Y.vl, Z.vl] W fun e w' => e = .returned (.bool true) ∧ Below W.heap.size W w') := fun W h1 h2 => eqPats_same _ _ Y.late W h1.late (by rw [hl]; exact h2.late)
  clear hs hl
  have t0 := dvAt_new w Y 31
  have b0 := below1 w (.cells #[Y.vs, Y.vl] 31)
  obtain ⟨W0, hW0⟩ : ∃ W0, W0 = w.alloc (.cells #[Y.vs, Y.vl] 31) := ⟨_, rfl⟩
  have s0 : W0.heap.size = w.heap.size + 1 := by rw [hW0]; simp
  rw [← hW0] at t0 b0
  have u1 := dvAt_new W0 Z 31
  have b1 := below1 W0 (.cells #[Z.vs, Z.vl] 31)
  obtain ⟨W1, hW1⟩ : ∃ W1, W1 = W0.alloc (.cells #[Z.vs, Z.vl] 31) := ⟨_, rfl⟩
  rw [← hW1] at u1 b1
  rw [s0] at u1
  have t1 := t0.below b1
  have bw1 : Below w.heap.size w W1 := b0.trans (b1.mono (by omega))
  have HW1 : Hid ((w.alloc (.cells #[Y.vs, Y.vl] 31)).alloc (.cells #[Z.vs, Z.vl] 31) = W1) := by unfold Hid; rw [hW1, hW0]
  obtain ⟨d0, d1⟩ := id t1
  obtain ⟨e0, e1⟩ := id u1
  rw [← HW1.out] at d0 d1 e0 e1
  clear t0 b0 b1 hW0 hW1 s0
  go_enter Tryz.func10, Tryz.ntmps10
  go_wp2_with fail
  rw [HW1.out]
  refine (HS.out _ (hy.below bw1) (hz.below bw1)).mono ?_
  rintro e w2 ⟨rfl, n2, rfl⟩
  have bd : Below W1.heap.size W1 (W1.drewN n2) := below_drewN' n2
  have t2 := t1.below bd
  have u2 := u1.below bd
  have b2 := bw1.trans (bd.mono bw1.size)
  clear d0 d1 e0 e1 t1 u1 bw1 bd HS HW1
  generalize W1.drewN n2 = w2 at t2 u2 b2 ⊢
  obtain ⟨d0, d1⟩ := id t2
  obtain ⟨e0, e1⟩ := id u2
  go_wp2_with fail
  refine (HP.out _ (hy.below b2) (hz.below b2)).mono ?_
  rintro e w3 ⟨rfl, hb3⟩
  have b3 := b2.trans (hb3.mono b2.size)
  clear d0 d1 e0 e1 t2 u2 b2 hb3 HP
  go_wp2
  go_ret
  exact ⟨rfl, b3⟩
end Go.Proofs.YthchhkiijehjbaaGreatDoor
