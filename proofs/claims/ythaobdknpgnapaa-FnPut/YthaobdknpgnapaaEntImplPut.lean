/- The contract of the program's Put. -/
import Derived.Test.YthaobdknpgnapaaEntSpecPut2
import Derived.Test.YthaobdknpgnapaaEntImplShown
namespace Go.Proofs.Ythaobdknpgnapaa
open Go.RowKit
theorem pieces3 {W0 W : World} {g : Nat} {u1 u3 : Value} {A C : List Ent} {x : Ent} (hb : Below W0.heap.size W0 W) (h1 : RdE W0 u1 A) (h3 : RdE W0 u3 C) (hx : EntAt W g 0 x) :
    Pieces (W.alloc (.cells #[u1, .slice (some ⟨g, 0, none⟩) 1 1, u3] 24)) (.slice (some ⟨W.heap.size, 0, none⟩) 3 3) [(u1, A), (.slice (some ⟨g, 0, none⟩) 1 1, [x]), (u3, C)] := by
  have hb2 := below1 W (.cells #[u1, .slice (some ⟨g, 0, none⟩) 1 1, u3] 24)
  refine .inr ⟨W.heap.size, 0, 3, rfl, Nat.le_refl _, by decide, fun i hi => ?_⟩
  match i, hi with
  | 0, _ => exact ⟨by simp [World.cell?_alloc_at], (h1.below hb).below hb2⟩
  | 1, _ => exact ⟨by simp [World.cell?_alloc_at], rdE_one (hx.below hb2)⟩
  | 2, _ => exact ⟨by simp [World.cell?_alloc_at], (h3.below hb).below hb2⟩
theorem pieces3d {W0 W : World} {g n : Nat} {u1 u3 : Value} {A C : List Ent} {x : Ent} (hn : n = W.heap.size) (hb : Below W0.heap.size W0 W) (h1 : RdE W0 u1 A) (h3 : RdE W0 u3 C) (hx : EntAt W g 0 x) :
    Pieces (W.alloc (.cells #[u1, .slice (some ⟨g, 0, none⟩) 1 1, u3] 24)).drew (.slice (some ⟨n, 0, none⟩) 3 3) [(u1, A), (.slice (some ⟨g, 0, none⟩) 1 1, [x]), (u3, C)] := by
  subst hn
  exact (pieces3 hb h1 h3 hx).below ⟨rfl, rfl, rfl, Nat.le_refl _, fun _ _ => rfl⟩
theorem cut_form (v : Value) (es : List Ent) (i j m : Nat) (x y : Int) (w : World) (hx : x = (i : Int)) (hy : y = (j : Int)) (hr : RdE w v es) (hij : i ≤ j) (hj : j ≤ es.length) (hm : m = j - i) :
    Calls Try.prog 47 #[v, .int .i64 x, .int .i64 y] w fun e w' => ∃ aa cc, e = .returned (.slice aa m cc) ∧ (∀ W, RdE W v es → RdE W (.slice aa m cc) ((es.take j).drop i)) ∧ w' = w := by
  refine (cut_at v es i j x y w hx hy hr hij hj).mono ?_
  rintro e w' ⟨u, rfl, hu, rfl⟩
  obtain ⟨aa, cc, hf, _⟩ := id (hu _ hr)
  rw [List.length_drop, List.length_take, Nat.min_eq_left hj, ← hm] at hf
  subst hf
  exact ⟨aa, cc, rfl, hu, rfl⟩
theorem joinE3 (u1 u2 u3 : Value) (A B C : List Ent) : joinE [(u1, A), (u2, B), (u3, C)] = A ++ (B ++ C) := by simp [joinE]
theorem joined3 (w3 : World) (x : Ent) (u1 u3 : Value) (A C : List Ent) (n : Nat) (h1 : RdE w3 u1 A) (h3 : RdE w3 u3 C) (hn : n = w3.heap.size + 1) (hl : A.length + C.length ≤ 10000) :
    Calls Try.prog 46 #[.slice (some ⟨n, 0, none⟩) 3 3] ((w3.alloc (.cells #[.string x.key, .string x.val, .int .i64 x.seq, .bool x.gone] 26)).alloc (.cells #[u1, .slice (some ⟨w3.heap.size, 0, none⟩) 1 1, u3] 24)).drew fun e w' => ∃ u, e = .returned u ∧ OwnE w' w3.heap.size u (A ++ ([x] ++ C)) ∧ Below w3.heap.size w3 w' := by
  have hp := pieces3d (n := n) (by rw [hn]; simp) (below1 w3 (.cells #[.string x.key, .string x.val, .int .i64 x.seq, .bool x.gone] 26)) h1 h3 (entAt_box w3 x 26)
  have hj := joinE3 u1 (.slice (some ⟨w3.heap.size, 0, none⟩) 1 1) u3 A [x] C
  refine (joined_any _ _ _ hp (by rw [hj]; simp; omega) (by simp)).mono ?_
  rintro e w' ⟨u, rfl, ho, hb⟩
  rw [hj] at ho
  have b2 := (below2 w3 (.cells #[.string x.key, .string x.val, .int .i64 x.seq, .bool x.gone] 26) (.cells #[u1, .slice (some ⟨w3.heap.size, 0, none⟩) 1 1, u3] 24)).drew
  exact ⟨u, rfl, ho.mono b2.size, b2.trans (hb.mono b2.size)⟩
theorem at_keyE (es : List Ent) (x : Ent) : atE es ⟨x.key, ⟨#[]⟩, x.seq, false⟩ = atE es x := rfl
theorem has_keyE (es : List Ent) (x : Ent) : hasKS es ⟨x.key, ⟨#[]⟩, x.seq, false⟩ = hasKS es x := rfl
theorem placeOf_at (v : Value) (es : List Ent) (x : Ent) (p : Nat) (s : Bool) (w : World) (hr : RdE w v es) (hok : okL es = true) (hp : atE es x = p) (hs : hasKS es x = s) :
    Calls Try.prog 45 #[v, .string x.key, .int .i64 x.seq] w fun e w' => e = .returned (.tuple #[.int .i64 (p : Nat), .bool s]) ∧ Below w.heap.size w w' := by
  subst hp; subst hs; exact placeOf_any v es x.key x.seq w hr hok
theorem hide {p : Prop} (h : p) : Hid p := h
set_option maxHeartbeats 4000000 in
set_option maxRecDepth 100000 in
theorem implPut_any (v : Value) (es : List Ent) (x : Ent) (w : World) (hr : RdE w v es) (hf : ∀ e ∈ es, Fits e) (hfx : Fits x) :
    Calls Try.prog 9 #[v, .agg #[.string x.key, .string x.val, .int .i64 x.seq, .bool x.gone]] w fun e w' => PutPost w es x e w' := by
  obtain ⟨a, cap, hv, hl, hm, _⟩ := id hr
  unfold maxLen at hm
  subst hv
  have hbx := entAt_box w x 26
  have hb0 := below1 w (.cells #[.string x.key, .string x.val, .int .i64 x.seq, .bool x.gone] 26)
  have hr0 := hr.below hb0
  cases hok : okL es with
  | false =>
    have RES : Hid (putOk es x = false) := by unfold Hid putOk; simp [hok]
    go_enter Try.func9, Try.ntmps9
    go_wp2_with fail
    refine (implOk_no _ es _ hr0 hf hok).mono ?_
    rintro e w1 ⟨rfl, hb1⟩
    have bz := hb0.trans (hb1.mono (by simp))
    go_wp2
    go_ret2
    exact putPost_no RES.out (ownE_empty bz.size) (bz.alloc bz.size _)
  | true =>
    have hlen := okL_len hok
    cases hox : okE x with
    | false =>
      have RES : Hid (putOk es x = false) := by unfold Hid putOk; simp [hox]
      go_enter Try.func9, Try.ntmps9
      go_wp2_with fail
      refine (implOk_yes _ es _ hr0 hf hok).mono ?_
      rintro e w1 ⟨rfl, hb1⟩
      obtain ⟨c0, c1, c2, c3⟩ := hbx.below hb1
      simp only [Nat.zero_add] at c1 c2 c3
      have bz := hb0.trans (hb1.mono (by simp))
      clear hb1 hbx
      go_wp2_with fail
      refine (entryOk_no x _ hfx hox).mono ?_
      rintro e w2 ⟨rfl, hb2⟩
      have bz2 := bz.trans (hb2.mono bz.size)
      go_wp2
      go_ret2
      exact putPost_no RES.out (ownE_empty bz2.size) (bz2.alloc bz2.size _)
    | true =>
      by_cases h300 : es.length = 300
      · skip
        have RES : Hid (putOk es x = false) := by unfold Hid putOk; simp [h300]
        have hq : ((es.length : Int) == 300) = true := by simp; omega
        clear h300
        go_enter Try.func9, Try.ntmps9
        go_wp2_with fail
        refine (implOk_yes _ es _ hr0 hf hok).mono ?_
        rintro e w1 ⟨rfl, hb1⟩
        obtain ⟨c0, c1, c2, c3⟩ := hbx.below hb1
        simp only [Nat.zero_add] at c1 c2 c3
        have bz := hb0.trans (hb1.mono (by simp))
        clear hb1 hbx
        go_wp2_with fail
        refine (entryOk_yes x _ hfx hox).mono ?_
        rintro e w2 ⟨rfl, hb2⟩
        have bz2 := bz.trans (hb2.mono bz.size)
        go_wp2
        go_ret2
        exact putPost_no RES.out (ownE_empty bz2.size) (bz2.alloc bz2.size _)
      · have hq : ((es.length : Int) == 300) = false := by simp; omega
        obtain ⟨p, hp⟩ : ∃ p, atE es x = p := ⟨_, rfl⟩
        have HP : Hid (atE es x = p) := hp
        have hpl : p ≤ es.length := by rw [← hp]; exact atE_le _ _
        clear hp
        cases hhs : hasKS es x with
        | true =>
          have RES : Hid (putOk es x = false) := by unfold Hid putOk; simp [hhs]
          go_enter Try.func9, Try.ntmps9
          go_wp2_with fail
          refine (implOk_yes _ es _ hr0 hf hok).mono ?_
          rintro e w1 ⟨rfl, hb1⟩
          have hbx1 := hbx.below hb1
          obtain ⟨c0, c1, c2, c3⟩ := id hbx1
          simp only [Nat.zero_add] at c1 c2 c3
          have bz := hb0.trans (hb1.mono (by simp))
          clear hb1 hbx
          go_wp2_with fail
          refine (entryOk_yes x _ hfx hox).mono ?_
          rintro e w2 ⟨rfl, hb2⟩
          have bz2 := bz.trans (hb2.mono bz.size)
          obtain ⟨d0, d1, d2, d3⟩ := hbx1.below hb2
          simp only [Nat.zero_add] at d1 d2 d3
          clear hb2 hbx1 c0 c1 c2 c3
          go_wp2_with fail
          refine (placeOf_at _ es x p true _ (hr.below bz2) hok HP.out hhs).mono ?_
          rintro e w3 ⟨rfl, hb3⟩
          have bz3 := bz2.trans (hb3.mono bz2.size)
          go_wp2
          go_ret2
          exact putPost_no RES.out (ownE_empty bz3.size) (bz3.alloc bz3.size _)
        | false =>
          have RES : Hid (putOk es x = true) := by unfold Hid putOk; simp [hhs, hok, hox, h300]
          clear h300
          go_enter Try.func9, Try.ntmps9
          go_wp2_with fail
          refine (implOk_yes _ es _ hr0 hf hok).mono ?_
          rintro e w1 ⟨rfl, hb1⟩
          have hbx1 := hbx.below hb1
          obtain ⟨c0, c1, c2, c3⟩ := id hbx1
          simp only [Nat.zero_add] at c1 c2 c3
          have bz := hb0.trans (hb1.mono (by simp))
          clear hb1 hbx
          go_wp2_with fail
          refine (entryOk_yes x _ hfx hox).mono ?_
          rintro e w2 ⟨rfl, hb2⟩
          have bz2 := bz.trans (hb2.mono bz.size)
          have hbx2 := hbx1.below hb2
          obtain ⟨d0, d1, d2, d3⟩ := id hbx2
          simp only [Nat.zero_add] at d1 d2 d3
          clear hb2 hbx1 c0 c1 c2 c3
          go_wp2_with fail
          refine (placeOf_at _ es x p false _ (hr.below bz2) hok HP.out hhs).mono ?_
          rintro e w3 ⟨rfl, hb3⟩
          have bz3 := bz2.trans (hb3.mono bz2.size)
          have hbx3 := hbx2.below hb3
          have hr3 := hr.below bz3
          clear hb3 hbx2 d0 d1 d2 d3
          go_wp2_with fail
          have hl3 := hbx3.lt
          obtain ⟨c0, c1, c2, c3⟩ := id hbx3
          simp only [Nat.zero_add] at c1 c2 c3
          have hne := World.new_ne w3 _ c0
          have CUT0 : Hid (∀ W, RdE W (.slice a es.length cap) es → Calls Try.prog 47 #[.slice a es.length cap, .int .i64 0, .int .i64 (p : Int)] W fun e w' => ∃ aa cc, e = .returned (.slice aa p cc) ∧ (∀ W, RdE W (.slice a es.length cap) es → RdE W (.slice aa p cc) ((es.take p).drop 0)) ∧ w' = W) := fun W h => cut_form _ es 0 p p 0 p W rfl rfl h (Nat.zero_le _) hpl rfl
          have CUT1 : Hid (∀ W, RdE W (.slice a es.length cap) es → Calls Try.prog 47 #[.slice a es.length cap, .int .i64 (p : Int), .int .i64 (es.length : Int)] W fun e w' => ∃ aa cc, e = .returned (.slice aa (es.length - p) cc) ∧ (∀ W, RdE W (.slice a es.length cap) es → RdE W (.slice aa (es.length - p) cc) ((es.take es.length).drop p)) ∧ w' = W) := fun W h => cut_form _ es p es.length (es.length - p) p es.length W rfl rfl h hpl (Nat.le_refl _) rfl
          go_region_held3 (fun w' => w'.cell? ⟨w.heap.size, 0, none⟩ = some (.string x.key) ∧ w'.cell? ⟨w.heap.size, 1, none⟩ = some (.string x.val) ∧ w'.cell? ⟨w.heap.size, 2, none⟩ = some (.int .i64 x.seq) ∧ w'.cell? ⟨w.heap.size, 3, none⟩ = some (.bool x.gone)) (go_keep)
            (first
              | (go_at_call_of 47 (Value.int IntKind.i64 0); refine (CUT0.out _ ?_).mono ?_; (first | exact hr3 | exact hr3.below (below1 _ _).drew | exact RdE.below (w := w3.drew) hr3 (below1 _ _)); rintro e w4 ⟨a1, k1, rfl, hu1, rfl⟩; have HU1 := hide hu1; clear hu1)
              | (go_at_call_of 47 (Value.int IntKind.i64 (es.length : Int)); refine (CUT1.out _ ?_).mono ?_; (first | exact hr3 | exact hr3.below (below1 _ _).drew | exact RdE.below (w := w3.drew) hr3 (below1 _ _)); rintro e w5 ⟨a3, k3, rfl, hu3, rfl⟩; have HU3 := hide hu3; clear hu3)
              | (go_at_call 46; refine (joined3 w3 x (.slice a1 p k1) (.slice a3 (es.length - p) k3) ((es.take p).drop 0) ((es.take es.length).drop p) _ (HU1.out _ hr3) (HU3.out _ hr3) rfl (by simp; omega)).mono ?_; rintro e w6 ⟨u6, rfl, ho6, hb6⟩; have hq6 : ∀ o, w6.cell? ⟨w.heap.size, o, none⟩ = w3.cell? ⟨w.heap.size, o, none⟩ := fun o => (bcell hb6).1 _ o hl3))
          all_goals go_wp2
          all_goals go_ret2
          all_goals
            have e : insE es x = (es.take p).drop 0 ++ ([x] ++ (es.take es.length).drop p) := by unfold insE; rw [HP.out, List.drop_zero, List.take_length]; rfl
            refine putPost_yes RES.out ?_ (bz3.trans (hb6.mono bz3.size))
            rw [e]
            exact ho6.mono bz3.size
end Go.Proofs.Ythaobdknpgnapaa
