/- The contracts of both Sets. -/
import Derived.Test.YtmfopbkhlekhkaaDoorLefFind
import Derived.Test.YtmfopbkhlekhkaaDoorLefIns
namespace Go.Proofs.YtmfopbkhlekhkaaDoor
open Go.RowKit
theorem rdL_new (w : World) (x : Lef) : RdL (w.alloc (.cells #[.int .i64 x.pl, .int .i64 x.va] 42)) (.slice (some ⟨w.heap.size, 0, none⟩) 1 1) [x] :=
  ⟨_, 1, rfl, Nat.le_refl _, by unfold maxLen; omega, (fun h => by cases h), .inr ⟨w.heap.size, 0, rfl, fun i hi => by
    have : i = 0 := by simpa using hi
    subst this
    refine ⟨?_, ?_⟩ <;> simp [nthL]⟩⟩
theorem atL_eq {es : List Lef} (ho : LefOk es) {p : Int} {k : Nat} (hk : k < es.length) (h : (nthL es k).pl = p) : k = atL es p ∧ hasL es p = true := by
  have h1 : k = atL es p := by
    rcases Nat.lt_trichotomy k (atL es p) with c | c | c
    · have := atL_lo es p c; omega
    · exact c
    · have h2 := atL_at es p (by omega)
      have h3 := lef_lt ho c hk
      omega
  refine ⟨h1, ?_⟩
  unfold hasL
  rw [← h1, decide_eq_true hk, decide_eq_true h]; rfl
theorem atL_ne {es : List Lef} {p : Int} {k : Nat} (hk : k = atL es p) (h : (nthL es k).pl ≠ p) : hasL es p = false := by
  unfold hasL
  rw [← hk, decide_eq_false h, Bool.and_false]
/-- Is the value put already, ahead of Leaf number k? -/
def putB (es : List Lef) (p v : Int) (k : Nat) : Bool := decide (v = -1) || decide (atL es p < k)
theorem midL_no {p v : Int} (h : v = -1) : midL p v = [] := by unfold midL; rw [if_pos h]
theorem midL_yes {p v : Int} (h : v ≠ -1) : midL p v = [⟨p, v⟩] := by unfold midL; rw [if_neg h]
theorem outS_T {es : List Lef} {p v : Int} {k : Nat} (hk : k < es.length) (hp : putB es p v k = true) (h : (nthL es k).pl ≠ p) : outS es p v (k + 1) = outS es p v k ++ [nthL es k] ∧ putB es p v (k + 1) = true := by
  unfold putB at hp ⊢
  simp only [Bool.or_eq_true, decide_eq_true_eq] at hp ⊢
  refine ⟨?_, by rcases hp with h | h; exact .inl h; exact .inr (by omega)⟩
  rcases Nat.lt_trichotomy k (atL es p) with c | c | c
  · exact outS_lo c
  · have hv : v = -1 := by rcases hp with h | h; exact h; omega
    rw [outS_at0 c hk (atL_ne c h), midL_no hv, List.append_nil]
  · exact outS_hi c hk
theorem outS_Te {es : List Lef} (ho : LefOk es) {p v : Int} {k : Nat} (hk : k < es.length) (hp : putB es p v k = true) (h : (nthL es k).pl = p) : outS es p v (k + 1) = outS es p v k ∧ putB es p v (k + 1) = true := by
  obtain ⟨c, hh⟩ := atL_eq ho hk h
  unfold putB at hp ⊢
  simp only [Bool.or_eq_true, decide_eq_true_eq] at hp ⊢
  have hv : v = -1 := by rcases hp with h | h; exact h; omega
  refine ⟨by rw [outS_at1 c hh, midL_no hv, List.append_nil], .inl hv⟩
theorem outS_F {es : List Lef} (ho : LefOk es) {p v : Int} {k : Nat} (hk : k < es.length) (hp : putB es p v k = false) (h : (nthL es k).pl < p) : outS es p v (k + 1) = outS es p v k ++ [nthL es k] ∧ putB es p v (k + 1) = false := by
  unfold putB at hp ⊢
  simp only [Bool.or_eq_false_iff, decide_eq_false_iff_not] at hp ⊢
  have c : k < atL es p := by
    rcases Nat.lt_or_ge k (atL es p) with c | c
    · exact c
    · have := atL_hi ho p c hk; omega
  exact ⟨outS_lo c, hp.1, by omega⟩
theorem outS_Fn {es : List Lef} {p v : Int} {k : Nat} (hk : k < es.length) (hp : putB es p v k = false) (h : p ≤ (nthL es k).pl) (h2 : (nthL es k).pl ≠ p) : outS es p v (k + 1) = outS es p v k ++ [⟨p, v⟩] ++ [nthL es k] ∧ putB es p v (k + 1) = true := by
  unfold putB at hp ⊢
  simp only [Bool.or_eq_false_iff, decide_eq_false_iff_not] at hp
  simp only [Bool.or_eq_true, decide_eq_true_eq]
  have c : k = atL es p := by
    rcases Nat.lt_or_ge k (atL es p) with c | c
    · have := atL_lo es p c; omega
    · omega
  exact ⟨by rw [outS_at0 c hk (atL_ne c h2), midL_yes hp.1], .inr (by omega)⟩
theorem outS_Fe {es : List Lef} (ho : LefOk es) {p v : Int} {k : Nat} (hk : k < es.length) (hp : putB es p v k = false) (h : (nthL es k).pl = p) : outS es p v (k + 1) = outS es p v k ++ [⟨p, v⟩] ∧ putB es p v (k + 1) = true := by
  obtain ⟨c, hh⟩ := atL_eq ho hk h
  unfold putB at hp ⊢
  simp only [Bool.or_eq_false_iff, decide_eq_false_iff_not] at hp
  simp only [Bool.or_eq_true, decide_eq_true_eq]
  exact ⟨by rw [outS_at1 c hh, midL_yes hp.1], .inr (by omega)⟩
theorem outS_endT {es : List Lef} {p v : Int} (hp : putB es p v es.length = true) : outS es p v es.length = putLf es p v := by
  rw [← outS_end]
  unfold putB at hp
  simp only [Bool.or_eq_true, decide_eq_true_eq] at hp
  split
  · have hv : v = -1 := by rcases hp with h | h; exact h; omega
    rw [midL_no hv, List.append_nil]
  · rfl
theorem outS_endF {es : List Lef} {p v : Int} (hp : putB es p v es.length = false) : outS es p v es.length ++ [⟨p, v⟩] = putLf es p v := by
  rw [← outS_end]
  unfold putB at hp
  simp only [Bool.or_eq_false_iff, decide_eq_false_iff_not] at hp
  rw [if_pos (by omega), midL_yes hp.1]
theorem outS_len {es : List Lef} {p v : Int} {k : Nat} : (outS es p v k).length ≤ es.length + 1 := by
  have h1 := midL_len p v
  unfold outS
  split
  · rw [List.length_take]; omega
  · simp only [List.length_append, List.length_take, List.length_drop]; omega
theorem setR_no {es : List Lef} {p v : Int} (h : setOk es p v = false) : setR es p v = [] := by unfold setR; rw [h]; rfl
theorem setR_yes {es : List Lef} {p v : Int} (h : setOk es p v = true) : setR es p v = putLf es p v := by unfold setR; rw [h]; rfl
theorem pushL_below {w wr w1 : World} {B : Nat} {v : Value} {o : Obj} {ys : List Lef} (hown : OwnL wr B v ys) (hb : Below B w wr) (hg : (wr.alloc o).grownBy w1 v.ownBlock) (hB : B ≤ wr.heap.size := by first | exact Below.size (by assumption) | assumption) : Below B w w1 :=
  (hb.alloc hB o).grown hg (by simp; omega) (fun k hk => (World.ownsRow.lt hown k hk).1)
def SetPost (w : World) (es : List Lef) (p v : Int) (e : Ending) (w' : World) : Prop := ∃ u, e = .returned u ∧ OwnL w' w.heap.size u (setR es p v) ∧ Below w.heap.size w w'
set_option maxHeartbeats 8000000 in
set_option maxRecDepth 100000 in
theorem specSet_any (vl : Value) (es : List Lef) (p v : Int) (w : World) (hr : RdL w vl es) :
    Calls Tryd.prog 15 #[vl, .int .i64 p, .int .i64 v] w fun e w' => SetPost w es p v e w' := by
  have ho0 := ownL_none w
  have b0 := below1 w (.cells #[] 42)
  have hr0 := hr.below b0
  have HP1 := fun W => inL_any p 0 255 W
  have HV1 := fun W => l12Value_any v W
  cases hk : lefOk es with
  | false =>
    have RES : Hid (setR es p v = []) := setR_no (by unfold setOk; rw [hk]; rfl)
    have HL : ∀ u w', RdL w' u es → Calls Tryd.prog 23 #[u] w' fun e w'' => e = .returned (.bool false) ∧ Drew w' w'' := fun u w' h => by rw [← hk]; exact specLeavesOk_any u es w' h
    clear hk
    go_enter Tryd.func15, Tryd.ntmps15
    go_wp2_with (go_at_call 23; refine (HL _ _ hr0).mono ?_; rintro e w1 ⟨rfl, hd1⟩)
    go_ret
    exact ⟨_, rfl, by rw [RES.out]; exact ho0.below hd1.below, b0.trans (hd1.below.mono (by simp))⟩
  | true =>
    have HO : Hid (LefOk es) := lefOk_iff.1 hk
    have HL : ∀ u w', RdL w' u es → Calls Tryd.prog 23 #[u] w' fun e w'' => e = .returned (.bool true) ∧ Drew w' w'' := fun u w' h => by rw [← hk]; exact specLeavesOk_any u es w' h
    by_cases hp : 0 ≤ p ∧ p ≤ 255
    · rw [show decide (0 ≤ p ∧ p ≤ 255) = true from decide_eq_true hp] at HP1
      by_cases hv : v = -1 ∨ (0 ≤ v ∧ v ≤ 1000000000)
      · have RES : Hid (setR es p v = putLf es p v) := setR_yes (by unfold setOk; rw [hk, decide_eq_true hp, decide_eq_true hv]; rfl)
        have hlen := lef_len HO.out
        obtain ⟨vb, hvb⟩ : ∃ vb, vb = decide (v = -1) := ⟨_, rfl⟩
        have GO : ∀ W, Drew (w.alloc (.cells #[] 42)) W → OwnL W w.heap.size (.slice (some ⟨w.heap.size, 0, none⟩) 0 0) [] ∧ Below w.heap.size w W := fun W hd => ⟨ho0.below hd.below, b0.trans (hd.below.mono (by simp))⟩
        have hvn : ((v != -1) = !vb) ∧ ((v == -1) = vb) ∧ (vb = true ∨ (vb = false ∧ (0 ≤ v ∧ v ≤ 1000000000))) := by
          subst hvb
          by_cases c : v = -1
          · simp [c]
          · refine ⟨by simp [c], by simp [c], .inr ⟨by simp [c], by omega⟩⟩
        obtain ⟨n1, n2, n3⟩ := hvn
        have HVB : Hid (vb = decide (v = -1)) := hvb
        obtain ⟨n, hn⟩ : ∃ n, n = es.length := ⟨_, rfl⟩
        have HN : Hid (n = es.length) := hn
        obtain ⟨a, cap, hvl, hl, hm, _⟩ := id hr
        unfold maxLen at hm
        rw [← hn] at hvl hl hlen
        subst hvl
        have HR : Hid (RdL w (.slice a n cap) es) := hr
        clear hk hp hv ho0 b0 hn hvb hr
        go_enter Tryd.func15, Tryd.ntmps15
        rcases n3 with n3 | ⟨n3, n4⟩
        · subst n3
          go_wp2_with (first
            | (go_at_call 23; refine (HL _ _ hr0).mono ?_; rintro e w1 ⟨rfl, hd1⟩)
            | (go_at_call 49; refine (HP1 _).mono ?_; rintro e w2 ⟨rfl, rfl⟩))
          obtain ⟨o1, b1⟩ := GO _ hd1
          clear GO hd1 hr0 HL HP1 HV1
          obtain ⟨ol, hol⟩ : ∃ ol, ol = outS es p v := ⟨_, rfl⟩
          have hll : ∀ k, (ol k).length ≤ 257 := fun k => by rw [hol]; have := outS_len (es := es) (p := p) (v := v) (k := k); have := HN.out; omega
          have HOL : Hid (ol = outS es p v) := hol
          have o2 : OwnL w2 w.heap.size (.slice (some ⟨w.heap.size, 0, none⟩) 0 0) (ol 0) := by rw [hol]; unfold outS; rw [if_pos (Nat.zero_le _), List.take_zero]; exact o1
          clear o1 hol
          go_loopw [7, 8, 9] (fun s7 s8 s9 wr => ∃ (k : Nat) (u : Value) (pb : Bool), k ≤ n ∧ s7 = u ∧ s8 = .bool pb ∧ s9 = .int .i64 k ∧ Hid (putB es p v k = pb) ∧ OwnL wr w.heap.size u (ol k) ∧ Below w.heap.size w wr) (fun _ _ s9 _ => n - (intOf s9).toNat)
          case atStart => exact ⟨0, _, _, Nat.zero_le _, rfl, rfl, rfl, (by unfold Hid putB; rw [← HVB.out]; rfl), o2, b1⟩
          case round =>
            obtain ⟨k, u, pb, hk, rfl, rfl, rfl, HB, ho, hb⟩ := hrel
            clear o2 b1
            have hlk := hll k
            obtain ⟨ys, hys⟩ : ∃ ys, ys = ol k := ⟨_, rfl⟩
            have HY : Hid (ys = ol k) := hys
            rw [← hys] at ho hlk
            clear hys
            by_cases hlt : k < n
            · have hke : k < es.length := by rw [← HN.out]; exact hlt
              obtain ⟨b, off, rfl, hc⟩ := (HR.out.below hb).at HN.out k hke
              obtain ⟨c0, c1⟩ := id hc
              obtain ⟨x, hx⟩ : ∃ x, x = nthL es k := ⟨_, rfl⟩
              rw [← hx] at c0 c1
              have HX : Hid (x = nthL es k) := hx
              have hk1 : (k : Int) < (n : Int) := by omega
              have hbl : b < wr.heap.size := hc.lt
              clear hx hc
              cases pb with
              | true =>
                by_cases he : x.pl = p
                · have F := outS_Te HO.out hke HB.out (by rw [← HX.out]; exact he)
                  have F1 : Hid (ol (k + 1) = ys) := by unfold Hid; rw [HY.out, HOL.out]; exact F.1
                  have F2 : Hid (putB es p v (k + 1) = true) := F.2
                  have hne : (x.pl != p) = false := by simp [he]
                  clear F he
                  go_wp2
                  go_roundw
                  case rel => exact ⟨k + 1, _, true, by omega, rfl, rfl, by go_num, F2, by rw [F1.out]; exact ho, hb⟩
                  case measure => simp [intOf]; omega
                · have F := outS_T hke HB.out (by rw [← HX.out]; exact he)
                  have F1 : Hid (ol (k + 1) = ys ++ [x]) := by unfold Hid; rw [HY.out, HX.out, HOL.out]; exact F.1
                  have F2 : Hid (putB es p v (k + 1) = true) := F.2
                  have hne : (x.pl != p) = true := by simp [he]
                  clear F he
                  go_wp2_with (at_builtin; (refine wpList_append_lefs rfl _ _ rfl w.heap.size _ _ ys [x] rfl rfl (ho.below (below1 _ (.cells #[.int .i64 x.pl, .int .i64 x.va] 42))) (rdL_new _ x) (by simp only [List.length_cons, List.length_nil]; omega) (by have := hb.size; simp; omega) ?_))
                  intro u' w' ho' hg'
                  have b' := pushL_below ho hb hg'
                  clear hg' ho hb
                  go_wp2
                  go_roundw
                  case rel => exact ⟨k + 1, u', true, by omega, rfl, rfl, by go_num, F2, by rw [F1.out]; exact ho', b'⟩
                  case measure => simp [intOf]; omega
              | false =>
                by_cases hge : p ≤ x.pl
                · have hged : decide (p ≤ x.pl) = true := decide_eq_true hge
                  by_cases he : x.pl = p
                  · have F := outS_Fe HO.out hke HB.out (by rw [← HX.out]; exact he)
                    have F1 : Hid (ol (k + 1) = ys ++ [⟨p, v⟩]) := by unfold Hid; rw [HY.out, HOL.out]; exact F.1
                    have F2 : Hid (putB es p v (k + 1) = true) := F.2
                    have hne : (x.pl != p) = false := by simp [he]
                    clear F he
                    go_wp2_with (at_builtin; (refine wpList_append_lefs rfl _ _ rfl w.heap.size _ _ ys [⟨p, v⟩] rfl rfl (ho.below (below1 _ (.cells #[.int .i64 p, .int .i64 v] 42))) (rdL_new _ ⟨p, v⟩) (by simp only [List.length_cons, List.length_nil]; omega) (by have := hb.size; simp; omega) ?_))
                    intro u' w' ho' hg'
                    have b' := pushL_below ho hb hg'
                    have c0' : w'.cell? ⟨b, off + k * 2, none⟩ = some (.int .i64 x.pl) := by
                      have := (HR.out.below b').at HN.out k hke
                      obtain ⟨b2, off2, hb2, h2⟩ := this
                      cases hb2
                      rw [← HX.out] at h2
                      exact h2.1
                    clear hg' ho hb
                    go_wp2
                    go_roundw
                    case rel => exact ⟨k + 1, u', true, by omega, rfl, rfl, by go_num, F2, by rw [F1.out]; exact ho', b'⟩
                    case measure => simp [intOf]; omega
                  · have F := outS_Fn hke HB.out (by rw [← HX.out]; exact hge) (by rw [← HX.out]; exact he)
                    have F1 : Hid (ol (k + 1) = ys ++ [⟨p, v⟩] ++ [x]) := by unfold Hid; rw [HY.out, HX.out, HOL.out]; exact F.1
                    have F2 : Hid (putB es p v (k + 1) = true) := F.2
                    have hne : (x.pl != p) = true := by simp [he]
                    clear F he
                    go_wp2_with (at_builtin; (refine wpList_append_lefs rfl _ _ rfl w.heap.size _ _ ys [⟨p, v⟩] rfl rfl (ho.below (below1 _ (.cells #[.int .i64 p, .int .i64 v] 42))) (rdL_new _ ⟨p, v⟩) (by simp only [List.length_cons, List.length_nil]; omega) (by have := hb.size; simp; omega) ?_))
                    intro u' w' ho' hg'
                    have b' := pushL_below ho hb hg'
                    have cc : LefAt w' b (off + k * 2) x := by
                      have := (HR.out.below b').at HN.out k hke
                      obtain ⟨b2, off2, hb2, h2⟩ := this
                      cases hb2
                      rw [← HX.out] at h2
                      exact h2
                    obtain ⟨d0, d1⟩ := cc
                    have hl2 : (ys ++ [(⟨p, v⟩ : Lef)]).length ≤ 258 := by rw [List.length_append]; simp; omega
                    clear hg' ho hb c0 c1
                    go_wp2_with (at_builtin; (refine wpList_append_lefs rfl _ _ rfl w.heap.size _ _ (ys ++ [Lef.mk p v]) [x] rfl rfl (ho'.below (below1 _ (.cells #[.int .i64 x.pl, .int .i64 x.va] 42))) (rdL_new _ x) (by simp only [List.length_cons, List.length_nil]; omega) (by have := b'.size; simp; omega) ?_))
                    intro u2 w2' ho2 hg2
                    have b2 := pushL_below ho' b' hg2
                    clear hg2 ho' b'
                    go_wp2
                    go_roundw
                    case rel => exact ⟨k + 1, u2, true, by omega, rfl, rfl, by go_num, F2, by rw [F1.out]; simpa using ho2, b2⟩
                    case measure => simp [intOf]; omega
                · have hged : decide (p ≤ x.pl) = false := decide_eq_false hge
                  have F := outS_F HO.out hke HB.out (by rw [← HX.out]; omega)
                  have F1 : Hid (ol (k + 1) = ys ++ [x]) := by unfold Hid; rw [HY.out, HX.out, HOL.out]; exact F.1
                  have F2 : Hid (putB es p v (k + 1) = false) := F.2
                  have hne : (x.pl != p) = true := by simp; omega
                  clear F
                  go_wp2_with (at_builtin; (refine wpList_append_lefs rfl _ _ rfl w.heap.size _ _ ys [x] rfl rfl (ho.below (below1 _ (.cells #[.int .i64 x.pl, .int .i64 x.va] 42))) (rdL_new _ x) (by simp only [List.length_cons, List.length_nil]; omega) (by have := hb.size; simp; omega) ?_))
                  intro u' w' ho' hg'
                  have b' := pushL_below ho hb hg'
                  clear hg' ho hb
                  go_wp2
                  go_roundw
                  case rel => exact ⟨k + 1, u', false, by omega, rfl, rfl, by go_num, F2, by rw [F1.out]; exact ho', b'⟩
                  case measure => simp [intOf]; omega
            · have hke : k = n := by omega
              subst hke
              have HB2 : putB es p v es.length = pb := by rw [← HN.out]; exact HB.out
              cases pb with
              | true =>
                have F : Hid (setR es p v = ys) := by unfold Hid; rw [RES.out, ← outS_endT HB2, HY.out, HOL.out, HN.out]
                clear HB2
                go_wp2
                go_ret
                exact ⟨_, rfl, by rw [F.out]; exact ho, hb⟩
              | false =>
                have F : Hid (setR es p v = ys ++ [⟨p, v⟩]) := by unfold Hid; rw [RES.out, ← outS_endF HB2, HY.out, HOL.out, HN.out]
                clear HB2
                go_wp2_with (at_builtin; (refine wpList_append_lefs rfl _ _ rfl w.heap.size _ _ ys [⟨p, v⟩] rfl rfl (ho.below (below1 _ (.cells #[.int .i64 p, .int .i64 v] 42))) (rdL_new _ ⟨p, v⟩) (by simp only [List.length_cons, List.length_nil]; omega) (by have := hb.size; simp; omega) ?_))
                intro u' w' ho' hg'
                have b' := pushL_below ho hb hg'
                clear hg' ho hb
                go_wp2
                go_ret
                exact ⟨u', rfl, by rw [F.out]; exact ho', b'⟩
        · subst n3
          rw [show decide (0 ≤ v ∧ v ≤ 1000000000) = true from decide_eq_true n4] at HV1
          go_wp2_with (first
            | (go_at_call 23; refine (HL _ _ hr0).mono ?_; rintro e w1 ⟨rfl, hd1⟩)
            | (go_at_call 49; refine (HP1 _).mono ?_; rintro e w2 ⟨rfl, rfl⟩)
            | (go_at_call 50; refine (HV1 _).mono ?_; rintro e w2 ⟨rfl, rfl⟩))
          obtain ⟨o1, b1⟩ := GO _ hd1
          clear GO hd1 hr0 HL HP1 HV1
          obtain ⟨ol, hol⟩ : ∃ ol, ol = outS es p v := ⟨_, rfl⟩
          have hll : ∀ k, (ol k).length ≤ 257 := fun k => by rw [hol]; have := outS_len (es := es) (p := p) (v := v) (k := k); have := HN.out; omega
          have HOL : Hid (ol = outS es p v) := hol
          have o2 : OwnL w2 w.heap.size (.slice (some ⟨w.heap.size, 0, none⟩) 0 0) (ol 0) := by rw [hol]; unfold outS; rw [if_pos (Nat.zero_le _), List.take_zero]; exact o1
          clear o1 hol
          go_loopw [7, 8, 9] (fun s7 s8 s9 wr => ∃ (k : Nat) (u : Value) (pb : Bool), k ≤ n ∧ s7 = u ∧ s8 = .bool pb ∧ s9 = .int .i64 k ∧ Hid (putB es p v k = pb) ∧ OwnL wr w.heap.size u (ol k) ∧ Below w.heap.size w wr) (fun _ _ s9 _ => n - (intOf s9).toNat)
          case atStart => exact ⟨0, _, _, Nat.zero_le _, rfl, rfl, rfl, (by unfold Hid putB; rw [← HVB.out]; simp), o2, b1⟩
          case round =>
            obtain ⟨k, u, pb, hk, rfl, rfl, rfl, HB, ho, hb⟩ := hrel
            clear o2 b1
            have hlk := hll k
            obtain ⟨ys, hys⟩ : ∃ ys, ys = ol k := ⟨_, rfl⟩
            have HY : Hid (ys = ol k) := hys
            rw [← hys] at ho hlk
            clear hys
            by_cases hlt : k < n
            · have hke : k < es.length := by rw [← HN.out]; exact hlt
              obtain ⟨b, off, rfl, hc⟩ := (HR.out.below hb).at HN.out k hke
              obtain ⟨c0, c1⟩ := id hc
              obtain ⟨x, hx⟩ : ∃ x, x = nthL es k := ⟨_, rfl⟩
              rw [← hx] at c0 c1
              have HX : Hid (x = nthL es k) := hx
              have hk1 : (k : Int) < (n : Int) := by omega
              have hbl : b < wr.heap.size := hc.lt
              clear hx hc
              cases pb with
              | true =>
                by_cases he : x.pl = p
                · have F := outS_Te HO.out hke HB.out (by rw [← HX.out]; exact he)
                  have F1 : Hid (ol (k + 1) = ys) := by unfold Hid; rw [HY.out, HOL.out]; exact F.1
                  have F2 : Hid (putB es p v (k + 1) = true) := F.2
                  have hne : (x.pl != p) = false := by simp [he]
                  clear F he
                  go_wp2
                  go_roundw
                  case rel => exact ⟨k + 1, _, true, by omega, rfl, rfl, by go_num, F2, by rw [F1.out]; exact ho, hb⟩
                  case measure => simp [intOf]; omega
                · have F := outS_T hke HB.out (by rw [← HX.out]; exact he)
                  have F1 : Hid (ol (k + 1) = ys ++ [x]) := by unfold Hid; rw [HY.out, HX.out, HOL.out]; exact F.1
                  have F2 : Hid (putB es p v (k + 1) = true) := F.2
                  have hne : (x.pl != p) = true := by simp [he]
                  clear F he
                  go_wp2_with (at_builtin; (refine wpList_append_lefs rfl _ _ rfl w.heap.size _ _ ys [x] rfl rfl (ho.below (below1 _ (.cells #[.int .i64 x.pl, .int .i64 x.va] 42))) (rdL_new _ x) (by simp only [List.length_cons, List.length_nil]; omega) (by have := hb.size; simp; omega) ?_))
                  intro u' w' ho' hg'
                  have b' := pushL_below ho hb hg'
                  clear hg' ho hb
                  go_wp2
                  go_roundw
                  case rel => exact ⟨k + 1, u', true, by omega, rfl, rfl, by go_num, F2, by rw [F1.out]; exact ho', b'⟩
                  case measure => simp [intOf]; omega
              | false =>
                by_cases hge : p ≤ x.pl
                · have hged : decide (p ≤ x.pl) = true := decide_eq_true hge
                  by_cases he : x.pl = p
                  · have F := outS_Fe HO.out hke HB.out (by rw [← HX.out]; exact he)
                    have F1 : Hid (ol (k + 1) = ys ++ [⟨p, v⟩]) := by unfold Hid; rw [HY.out, HOL.out]; exact F.1
                    have F2 : Hid (putB es p v (k + 1) = true) := F.2
                    have hne : (x.pl != p) = false := by simp [he]
                    clear F he
                    go_wp2_with (at_builtin; (refine wpList_append_lefs rfl _ _ rfl w.heap.size _ _ ys [⟨p, v⟩] rfl rfl (ho.below (below1 _ (.cells #[.int .i64 p, .int .i64 v] 42))) (rdL_new _ ⟨p, v⟩) (by simp only [List.length_cons, List.length_nil]; omega) (by have := hb.size; simp; omega) ?_))
                    intro u' w' ho' hg'
                    have b' := pushL_below ho hb hg'
                    have c0' : w'.cell? ⟨b, off + k * 2, none⟩ = some (.int .i64 x.pl) := by
                      have := (HR.out.below b').at HN.out k hke
                      obtain ⟨b2, off2, hb2, h2⟩ := this
                      cases hb2
                      rw [← HX.out] at h2
                      exact h2.1
                    clear hg' ho hb
                    go_wp2
                    go_roundw
                    case rel => exact ⟨k + 1, u', true, by omega, rfl, rfl, by go_num, F2, by rw [F1.out]; exact ho', b'⟩
                    case measure => simp [intOf]; omega
                  · have F := outS_Fn hke HB.out (by rw [← HX.out]; exact hge) (by rw [← HX.out]; exact he)
                    have F1 : Hid (ol (k + 1) = ys ++ [⟨p, v⟩] ++ [x]) := by unfold Hid; rw [HY.out, HX.out, HOL.out]; exact F.1
                    have F2 : Hid (putB es p v (k + 1) = true) := F.2
                    have hne : (x.pl != p) = true := by simp [he]
                    clear F he
                    go_wp2_with (at_builtin; (refine wpList_append_lefs rfl _ _ rfl w.heap.size _ _ ys [⟨p, v⟩] rfl rfl (ho.below (below1 _ (.cells #[.int .i64 p, .int .i64 v] 42))) (rdL_new _ ⟨p, v⟩) (by simp only [List.length_cons, List.length_nil]; omega) (by have := hb.size; simp; omega) ?_))
                    intro u' w' ho' hg'
                    have b' := pushL_below ho hb hg'
                    have cc : LefAt w' b (off + k * 2) x := by
                      have := (HR.out.below b').at HN.out k hke
                      obtain ⟨b2, off2, hb2, h2⟩ := this
                      cases hb2
                      rw [← HX.out] at h2
                      exact h2
                    obtain ⟨d0, d1⟩ := cc
                    have hl2 : (ys ++ [(⟨p, v⟩ : Lef)]).length ≤ 258 := by rw [List.length_append]; simp; omega
                    clear hg' ho hb c0 c1
                    go_wp2_with (at_builtin; (refine wpList_append_lefs rfl _ _ rfl w.heap.size _ _ (ys ++ [Lef.mk p v]) [x] rfl rfl (ho'.below (below1 _ (.cells #[.int .i64 x.pl, .int .i64 x.va] 42))) (rdL_new _ x) (by simp only [List.length_cons, List.length_nil]; omega) (by have := b'.size; simp; omega) ?_))
                    intro u2 w2' ho2 hg2
                    have b2 := pushL_below ho' b' hg2
                    clear hg2 ho' b'
                    go_wp2
                    go_roundw
                    case rel => exact ⟨k + 1, u2, true, by omega, rfl, rfl, by go_num, F2, by rw [F1.out]; simpa using ho2, b2⟩
                    case measure => simp [intOf]; omega
                · have hged : decide (p ≤ x.pl) = false := decide_eq_false hge
                  have F := outS_F HO.out hke HB.out (by rw [← HX.out]; omega)
                  have F1 : Hid (ol (k + 1) = ys ++ [x]) := by unfold Hid; rw [HY.out, HX.out, HOL.out]; exact F.1
                  have F2 : Hid (putB es p v (k + 1) = false) := F.2
                  have hne : (x.pl != p) = true := by simp; omega
                  clear F
                  go_wp2_with (at_builtin; (refine wpList_append_lefs rfl _ _ rfl w.heap.size _ _ ys [x] rfl rfl (ho.below (below1 _ (.cells #[.int .i64 x.pl, .int .i64 x.va] 42))) (rdL_new _ x) (by simp only [List.length_cons, List.length_nil]; omega) (by have := hb.size; simp; omega) ?_))
                  intro u' w' ho' hg'
                  have b' := pushL_below ho hb hg'
                  clear hg' ho hb
                  go_wp2
                  go_roundw
                  case rel => exact ⟨k + 1, u', false, by omega, rfl, rfl, by go_num, F2, by rw [F1.out]; exact ho', b'⟩
                  case measure => simp [intOf]; omega
            · have hke : k = n := by omega
              subst hke
              have HB2 : putB es p v es.length = pb := by rw [← HN.out]; exact HB.out
              cases pb with
              | true =>
                have F : Hid (setR es p v = ys) := by unfold Hid; rw [RES.out, ← outS_endT HB2, HY.out, HOL.out, HN.out]
                clear HB2
                go_wp2
                go_ret
                exact ⟨_, rfl, by rw [F.out]; exact ho, hb⟩
              | false =>
                have F : Hid (setR es p v = ys ++ [⟨p, v⟩]) := by unfold Hid; rw [RES.out, ← outS_endF HB2, HY.out, HOL.out, HN.out]
                clear HB2
                go_wp2_with (at_builtin; (refine wpList_append_lefs rfl _ _ rfl w.heap.size _ _ ys [⟨p, v⟩] rfl rfl (ho.below (below1 _ (.cells #[.int .i64 p, .int .i64 v] 42))) (rdL_new _ ⟨p, v⟩) (by simp only [List.length_cons, List.length_nil]; omega) (by have := hb.size; simp; omega) ?_))
                intro u' w' ho' hg'
                have b' := pushL_below ho hb hg'
                clear hg' ho hb
                go_wp2
                go_ret
                exact ⟨u', rfl, by rw [F.out]; exact ho', b'⟩
      · have RES : Hid (setR es p v = []) := setR_no (by unfold setOk; rw [decide_eq_false hv, Bool.and_false])
        rw [show decide (0 ≤ v ∧ v ≤ 1000000000) = false from decide_eq_false (fun c => hv (.inr c))] at HV1
        have hv2 : (v != -1) = true := by simp; intro c; exact hv (.inl c)
        clear hk hp hv
        go_enter Tryd.func15, Tryd.ntmps15
        go_wp2_with (first
          | (go_at_call 23; refine (HL _ _ hr0).mono ?_; rintro e w1 ⟨rfl, hd1⟩)
          | (go_at_call 49; refine (HP1 _).mono ?_; rintro e w2 ⟨rfl, rfl⟩)
          | (go_at_call 50; refine (HV1 _).mono ?_; rintro e w2 ⟨rfl, rfl⟩))
        go_ret
        exact ⟨_, rfl, by rw [RES.out]; exact ho0.below hd1.below, b0.trans (hd1.below.mono (by simp))⟩
    · have RES : Hid (setR es p v = []) := setR_no (by unfold setOk; rw [hk, decide_eq_false hp]; rfl)
      rw [show decide (0 ≤ p ∧ p ≤ 255) = false from decide_eq_false hp] at HP1
      clear hk hp
      go_enter Tryd.func15, Tryd.ntmps15
      go_wp2_with (first
        | (go_at_call 23; refine (HL _ _ hr0).mono ?_; rintro e w1 ⟨rfl, hd1⟩)
        | (go_at_call 49; refine (HP1 _).mono ?_; rintro e w2 ⟨rfl, rfl⟩))
      go_ret
      exact ⟨_, rfl, by rw [RES.out]; exact ho0.below hd1.below, b0.trans (hd1.below.mono (by simp))⟩
set_option maxHeartbeats 400000 in
theorem trieValueOk_any (x : Int) (w : World) :
    Calls Tryd.prog 38 #[.int .i64 x] w fun e w' => e = .returned (.bool (decide (x = -1 ∨ (0 ≤ x ∧ x ≤ 1000000000)))) ∧ w' = w := by
  by_cases h : x = -1
  · subst h
    go_enter Tryd.func38, Tryd.ntmps38
    go_wp2
    go_ret
    exact ⟨ret_bool (by simp), rfl⟩
  · have h2 : (x == -1) = false := by simp [h]
    go_enter Tryd.func38, Tryd.ntmps38
    go_wp2_with (go_at_call 59; refine (leafValueOk_any _ _).mono ?_; rintro e w1 ⟨rfl, rfl⟩)
    go_ret
    exact ⟨ret_bool (by rw [Bool.eq_iff_iff]; simp [h]), rfl⟩
theorem put_has {es : List Lef} {p v : Int} (h : hasL es p = true) : putLf es p v = (es.eraseIdx (atL es p)).take (atL es p) ++ midL p v ++ (es.eraseIdx (atL es p)).drop (atL es p) := by
  have h1 := (hasL_lt h).1
  have e : hasN es p = 1 := by unfold hasN; rw [h]; simp
  unfold putLf
  rw [e, List.eraseIdx_eq_take_drop_succ, List.take_left' (by rw [List.length_take]; omega), List.drop_left' (by rw [List.length_take]; omega)]
theorem put_new {es : List Lef} {p v : Int} (h : hasL es p = false) : putLf es p v = es.take (atL es p) ++ midL p v ++ es.drop (atL es p) := by
  have e : hasN es p = 0 := by unfold hasN; rw [h]; simp
  unfold putLf
  rw [e, Nat.add_zero]
set_option maxHeartbeats 8000000 in
set_option maxRecDepth 100000 in
theorem implSet_any (vl : Value) (es : List Lef) (p v : Int) (w : World) (hr : RdL w vl es) :
    Calls Tryd.prog 9 #[vl, .int .i64 p, .int .i64 v] w fun e w' => SetPost w es p v e w' := by
  have HP1 := fun W => trieAtOk_any p W
  have HV1 := fun W => trieValueOk_any v W
  cases hk : lefOk es with
  | false =>
    have RES : Hid (setR es p v = []) := setR_no (by unfold setOk; rw [hk]; rfl)
    have HL : ∀ u w', RdL w' u es → Calls Tryd.prog 22 #[u] w' fun e w'' => e = .returned (.bool false) ∧ Below w'.heap.size w' w'' := fun u w' h => by rw [← hk]; exact implLeavesOk_any u es w' h
    clear hk
    go_enter Tryd.func9, Tryd.ntmps9
    go_wp2_with (go_at_call 22; refine (HL _ _ hr).mono ?_; rintro e w1 ⟨rfl, hd1⟩)
    go_ret
    exact ⟨_, rfl, by rw [RES.out]; exact (ownL_none w1).mono hd1.size, hd1.alloc hd1.size _⟩
  | true =>
    have HO : Hid (LefOk es) := lefOk_iff.1 hk
    have HL : ∀ u w', RdL w' u es → Calls Tryd.prog 22 #[u] w' fun e w'' => e = .returned (.bool true) ∧ Below w'.heap.size w' w'' := fun u w' h => by rw [← hk]; exact implLeavesOk_any u es w' h
    by_cases hp : 0 ≤ p ∧ p ≤ 255
    · rw [show decide (0 ≤ p ∧ p ≤ 255) = true from decide_eq_true hp] at HP1
      by_cases hv : v = -1 ∨ (0 ≤ v ∧ v ≤ 1000000000)
      · rw [show decide (v = -1 ∨ (0 ≤ v ∧ v ≤ 1000000000)) = true from decide_eq_true hv] at HV1
        have RES : Hid (setR es p v = putLf es p v) := setR_yes (by unfold setOk; rw [hk, decide_eq_true hp, decide_eq_true hv]; rfl)
        have hlen := lef_len HO.out
        have hal := atL_le es p
        have HF := fun W u (h : RdL W u es) => leafPlace_any u es p W h HO.out
        have HHT : hasL es p = true → atL es p < es.length := fun h => (hasL_lt h).1
        have HPH : Hid (hasL es p = true → putLf es p v = (es.eraseIdx (atL es p)).take (atL es p) ++ midL p v ++ (es.eraseIdx (atL es p)).drop (atL es p)) := put_has
        have HPN : Hid (hasL es p = false → putLf es p v = es.take (atL es p) ++ midL p v ++ es.drop (atL es p)) := put_new
        obtain ⟨hs, hhs⟩ : ∃ hs, hs = hasL es p := ⟨_, rfl⟩
        obtain ⟨i, hi⟩ : ∃ i, i = atL es p := ⟨_, rfl⟩
        rw [← hhs] at HHT HPH HPN
        simp only [← hhs, ← hi] at HF
        rw [← hi] at hal HHT HPH HPN
        clear hk hp hv hhs hi
        cases hs with
        | true =>
          have hil := HHT rfl
          have HR := HPH.out rfl
          have hi1 : IntKind.i64.wrap ((i : Int) + 1) = (i : Int) + 1 := by rw [IntKind.wrap_i64]; omega
          have hel : (es.eraseIdx i).length = es.length - 1 := List.length_eraseIdx_of_lt hil
          by_cases hv1 : v = -1
          · have hvd : (v == -1) = true := by simp [hv1]
            have F : Hid (setR es p v = es.eraseIdx i) := by unfold Hid; rw [RES.out, HR, midL_no hv1, List.append_nil, List.take_append_drop]
            clear hv1 HR
            go_enter Tryd.func9, Tryd.ntmps9
            go_wp2_with (first
              | (go_at_call 22; refine (HL _ _ hr).mono ?_; rintro e w1 ⟨rfl, b1⟩)
              | (go_at_call 37; refine (HP1 _).mono ?_; rintro e wa ⟨rfl, rfl⟩)
              | (go_at_call 38; refine (HV1 _).mono ?_; rintro e wb ⟨rfl, rfl⟩)
              | (go_at_call 39; refine (copiedLefs_any _ es _ (hr.below b1) (by omega)).mono ?_; rintro e w2 ⟨u2, rfl, ho2, hb2⟩)
              | (go_at_call 40; refine (HF _ _ ho2.rd).mono ?_; rintro e w3 ⟨rfl, hb3⟩))
            have b2 := b1.trans (hb2.mono b1.size)
            have b3 := b2.trans (hb3.mono b2.size)
            have ho3 := (ho2.below hb3).mono b1.size
            clear ho2 hb2 hb3 b1 b2 HL HP1 HV1 HF hr
            refine (delL_any _ es w.heap.size i _ ho3 hil).mono ?_
            rintro e w4 ⟨u4, rfl, ho4, hub, hg4⟩
            have b4 := b3.grown hg4 b3.size (fun k hk => (World.ownsRow.lt ho3 k hk).1)
            clear ho3 b3 hg4
            go_wp2
            go_ret
            exact ⟨_, rfl, by rw [F.out]; exact ho4, b4⟩
          · have hvd : (v == -1) = false := by simp [hv1]
            have F : Hid (setR es p v = (es.eraseIdx i).take i ++ [Lef.mk p v] ++ (es.eraseIdx i).drop i) := by unfold Hid; rw [RES.out, HR, midL_yes hv1]
            clear hv1 HR
            go_enter Tryd.func9, Tryd.ntmps9
            go_wp2_with (first
              | (go_at_call 22; refine (HL _ _ hr).mono ?_; rintro e w1 ⟨rfl, b1⟩)
              | (go_at_call 37; refine (HP1 _).mono ?_; rintro e wa ⟨rfl, rfl⟩)
              | (go_at_call 38; refine (HV1 _).mono ?_; rintro e wb ⟨rfl, rfl⟩)
              | (go_at_call 39; refine (copiedLefs_any _ es _ (hr.below b1) (by omega)).mono ?_; rintro e w2 ⟨u2, rfl, ho2, hb2⟩)
              | (go_at_call 40; refine (HF _ _ ho2.rd).mono ?_; rintro e w3 ⟨rfl, hb3⟩))
            have b2 := b1.trans (hb2.mono b1.size)
            have b3 := b2.trans (hb3.mono b2.size)
            have ho3 := (ho2.below hb3).mono b1.size
            clear ho2 hb2 hb3 b1 b2 HL HP1 HV1 HF hr
            refine (delL_any _ es w.heap.size i _ ho3 hil).mono ?_
            rintro e w4 ⟨u4, rfl, ho4, hub, hg4⟩
            have b4 := b3.grown hg4 b3.size (fun k hk => (World.ownsRow.lt ho3 k hk).1)
            clear ho3 b3 hg4
            have hlt4 : ∀ k, u4.ownBlock = some k → k < w4.heap.size := ownL_lt ho4
            go_wp2_with fail
            refine (insL_any _ w.heap.size w4.heap.size i ⟨p, v⟩ (es.eraseIdx i) _ (ho4.below (below1 _ _)) (by omega) (by omega) (by have := b4.size; simp; omega) (heap_alloc_new _ _) (fun e => by have := hlt4 _ e; omega)).mono ?_
            rintro e w5 ⟨u5, rfl, ho5, hg5⟩
            have b5 := pushL_below ho4 b4 hg5 b4.size
            go_wp2
            go_ret
            exact ⟨_, rfl, by rw [F.out]; exact ho5, b5⟩
        | false =>
          have HR := HPN.out rfl
          by_cases hv1 : v = -1
          · have hvd : (v == -1) = true := by simp [hv1]
            have F : Hid (setR es p v = es) := by unfold Hid; rw [RES.out, HR, midL_no hv1, List.append_nil, List.take_append_drop]
            clear hv1 HR
            go_enter Tryd.func9, Tryd.ntmps9
            go_wp2_with (first
              | (go_at_call 22; refine (HL _ _ hr).mono ?_; rintro e w1 ⟨rfl, b1⟩)
              | (go_at_call 37; refine (HP1 _).mono ?_; rintro e wa ⟨rfl, rfl⟩)
              | (go_at_call 38; refine (HV1 _).mono ?_; rintro e wb ⟨rfl, rfl⟩)
              | (go_at_call 39; refine (copiedLefs_any _ es _ (hr.below b1) (by omega)).mono ?_; rintro e w2 ⟨u2, rfl, ho2, hb2⟩)
              | (go_at_call 40; refine (HF _ _ ho2.rd).mono ?_; rintro e w3 ⟨rfl, hb3⟩))
            go_ret
            have b2 := b1.trans (hb2.mono b1.size)
            have b3 := b2.trans (hb3.mono b2.size)
            have ho3 := (ho2.below hb3).mono b1.size
            clear ho2 hb2 hb3 b1 b2 HL HP1 HV1 HF hr
            exact ⟨_, rfl, by rw [F.out]; exact ho3, b3⟩
          · have hvd : (v == -1) = false := by simp [hv1]
            have F : Hid (setR es p v = es.take i ++ [Lef.mk p v] ++ es.drop i) := by unfold Hid; rw [RES.out, HR, midL_yes hv1]
            clear hv1 HR
            go_enter Tryd.func9, Tryd.ntmps9
            go_wp2_with (first
              | (go_at_call 22; refine (HL _ _ hr).mono ?_; rintro e w1 ⟨rfl, b1⟩)
              | (go_at_call 37; refine (HP1 _).mono ?_; rintro e wa ⟨rfl, rfl⟩)
              | (go_at_call 38; refine (HV1 _).mono ?_; rintro e wb ⟨rfl, rfl⟩)
              | (go_at_call 39; refine (copiedLefs_any _ es _ (hr.below b1) (by omega)).mono ?_; rintro e w2 ⟨u2, rfl, ho2, hb2⟩)
              | (go_at_call 40; refine (HF _ _ ho2.rd).mono ?_; rintro e w3 ⟨rfl, hb3⟩))
            have b2 := b1.trans (hb2.mono b1.size)
            have b3 := b2.trans (hb3.mono b2.size)
            have ho3 := (ho2.below hb3).mono b1.size
            clear ho2 hb2 hb3 b1 b2 HL HP1 HV1 HF hr
            have hlt4 : ∀ k, u2.ownBlock = some k → k < w3.heap.size := ownL_lt ho3
            refine (insL_any _ w.heap.size w3.heap.size i ⟨p, v⟩ es _ (ho3.below (below1 _ _)) (by omega) hal (by have := b3.size; simp; omega) (heap_alloc_new _ _) (fun e => by have := hlt4 _ e; omega)).mono ?_
            rintro e w5 ⟨u5, rfl, ho5, hg5⟩
            have b5 := pushL_below ho3 b3 hg5 b3.size
            go_wp2
            go_ret
            exact ⟨_, rfl, by rw [F.out]; exact ho5, b5⟩
      · have RES : Hid (setR es p v = []) := setR_no (by unfold setOk; rw [decide_eq_false hv, Bool.and_false])
        rw [show decide (v = -1 ∨ (0 ≤ v ∧ v ≤ 1000000000)) = false from decide_eq_false hv] at HV1
        clear hk hp hv
        go_enter Tryd.func9, Tryd.ntmps9
        go_wp2_with (first
          | (go_at_call 22; refine (HL _ _ hr).mono ?_; rintro e w1 ⟨rfl, hd1⟩)
          | (go_at_call 37; refine (HP1 _).mono ?_; rintro e w2 ⟨rfl, rfl⟩)
          | (go_at_call 38; refine (HV1 _).mono ?_; rintro e w3 ⟨rfl, rfl⟩))
        go_ret
        exact ⟨_, rfl, by rw [RES.out]; exact (ownL_none _).mono hd1.size, hd1.alloc hd1.size _⟩
    · have RES : Hid (setR es p v = []) := setR_no (by unfold setOk; rw [hk, decide_eq_false hp]; rfl)
      rw [show decide (0 ≤ p ∧ p ≤ 255) = false from decide_eq_false hp] at HP1
      clear hk hp
      go_enter Tryd.func9, Tryd.ntmps9
      go_wp2_with (first
        | (go_at_call 22; refine (HL _ _ hr).mono ?_; rintro e w1 ⟨rfl, hd1⟩)
        | (go_at_call 37; refine (HP1 _).mono ?_; rintro e w2 ⟨rfl, rfl⟩))
      go_ret
      exact ⟨_, rfl, by rw [RES.out]; exact (ownL_none _).mono hd1.size, hd1.alloc hd1.size _⟩
end Go.Proofs.YtmfopbkhlekhkaaDoor
