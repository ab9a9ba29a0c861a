/- The contracts of the program's numbers of groups, step by step, and of its Peak. -/
import Derived.Test.YtmfopbkhlekhkaaDoorTriGrp0
namespace Go.Proofs.YtmfopbkhlekhkaaDoor
open Go.RowKit
theorem grp_succ (f : Nat → Int) (s q : Nat) : grp f (s + 1) q = pr (grp f s (2 * q)) (grp f s (2 * q + 1)) := rfl
/-- The Leafs of a group. -/
theorem bet_ex {es : List Lef} (hok : LefOk es) (s q : Nat) (v : Value) (x y : Int) (hx : x = ((q * 2 ^ s : Nat) : Int)) (hy : y = (((q + 1) * 2 ^ s : Nat) : Int)) :
    ∃ ins, LefOk ins ∧ (ins = [] → grp (fL es) s q = emp s) ∧ grp (fL ins) s q = grp (fL es) s q ∧ ∀ W, RdL W v es → Calls Tryd.prog 74 #[v, .int .i64 x, .int .i64 y] W fun e w' => ∃ u, e = .returned u ∧ RdL w' u ins ∧ Below W.heap.size W w' := by
  subst hx hy
  have hle : ((q * 2 ^ s : Nat) : Int) ≤ (((q + 1) * 2 ^ s : Nat) : Int) := Int.ofNat_le.2 (Nat.mul_le_mul_right _ (Nat.le_succ q))
  exact ⟨_, betL_ok hok _ _, grp_empty hok s q, grp_bet hok s q, fun W h => leavesBetween_any v es _ _ W h hok hle⟩
set_option maxHeartbeats 4000000 in
set_option maxRecDepth 100000 in
theorem walkG1 (F : Nat) (hF2 : F ≤ 256) (ins : List Lef) (L R G : Int) (v : Value) (es : List Lef) (w : World) (hr : RdL w v es) (ht : Tab w) (HZ : ins = [] → G = emp 1) (HM : pr L R = G) (hL : I64 L) (hR : I64 R)
    (HB : ∀ W, RdL W v es → Calls Tryd.prog 74 #[v, .int .i64 (F : Int), .int .i64 ((F : Int) + 2)] W fun e w' => ∃ u, e = .returned u ∧ RdL w' u ins ∧ Below W.heap.size W w')
    (HL : ∀ W u, RdL W u ins → Tab W → Calls Tryd.prog 56 #[EArr, u, .int .i64 (F : Int), .int .i64 0] W fun e w' => e = .returned (.int .i64 L) ∧ Below W.heap.size W w')
    (HR : ∀ W u, RdL W u ins → Tab W → Calls Tryd.prog 56 #[EArr, u, .int .i64 ((F : Int) + 1), .int .i64 0] W fun e w' => e = .returned (.int .i64 R) ∧ Below W.heap.size W w') :
    Calls Tryd.prog 56 #[EArr, v, .int .i64 (F : Int), .int .i64 1] w fun e w' => e = .returned (.int .i64 G) ∧ Below w.heap.size w w' := by
  have qa := empA_new w
  have b0 := below1 w (.cells #[.int .i64 (emp 0), .int .i64 (emp 1), .int .i64 (emp 2), .int .i64 (emp 3), .int .i64 (emp 4), .int .i64 (emp 5), .int .i64 (emp 6), .int .i64 (emp 7), .int .i64 (emp 8)] 77)
  have hr0 := hr.below b0
  have HZ' : Hid (ins = [] → G = emp 1) := HZ
  have HM' : Hid (pr L R = G) := HM
  clear hr HZ HM
  unfold EArr at HL HR ⊢
  go_enter Tryd.func56, Tryd.ntmps56
  go_wp2_with fail
  refine (HB _ hr0).mono ?_
  rintro e w1 ⟨u, rfl, hu, hb1⟩
  have b1 := b0.trans (hb1.mono (by simp))
  have qa1 := qa.below hb1
  have ht1 := ht.on b1
  clear hb1 hr0 HB qa b0
  obtain ⟨c0, c1, c2, c3, c4, c5, c6, c7, c8⟩ := qa1.all
  rcases betL_head hu with ⟨hi, a, c, rfl⟩ | ⟨x, r, b, off, c, hi, rfl, hl, hc, hx⟩
  · have HG : Hid (G = emp 1) := HZ'.out hi
    go_wp2
    go_ret
    exact ⟨ret_intE HG.out.symm, b1⟩
  · have hn0 : 0 < ins.length := by rw [hi]; simp
    obtain ⟨n, hn⟩ : ∃ n, n = ins.length := ⟨_, rfl⟩
    rw [← hn] at hl hn0 hu ⊢
    have hnz : ((n : Int) == 0) = false := by simp; omega
    unfold maxLen at hc
    have HRU : Hid (RdL w1 (.slice (some ⟨b, off, none⟩) n c) ins) := hu
    clear hn hi hu HZ' hx
    go_wp2_with fail
    refine (HL _ _ HRU.out ht1).mono ?_
    rintro e w2 ⟨rfl, hb2⟩
    have b2 := b1.trans (hb2.mono b1.size)
    have ht2 := ht.on b2
    have qa2 := qa1.below hb2
    clear c0 c1 c2 c3 c4 c5 c6 c7 c8
    obtain ⟨c0, c1, c2, c3, c4, c5, c6, c7, c8⟩ := qa2.all
    go_wp2_with fail
    refine (HR _ _ (HRU.out.below hb2) ht2).mono ?_
    rintro e w3 ⟨rfl, hb3⟩
    have b3 := b2.trans (hb3.mono b2.size)
    have ht3 := ht.on b3
    go_wp2_with fail
    refine (implPr L R _ hL hR ht3).mono ?_
    rintro e w4 ⟨rfl, hb4⟩
    have b4 := b3.trans (hb4.mono b3.size)
    go_wp2
    go_ret
    exact ⟨ret_intE HM'.out, b4⟩
theorem group1_any (IH : ∀ (q : Nat), (q + 1) * 1 ≤ 256 → ∀ (v : Value) (es : List Lef) (w : World), RdL w v es → LefOk es → Tab w → Calls Tryd.prog 56 #[EArr, v, .int .i64 ((q * 1 : Nat) : Int), .int .i64 0] w fun e w' => e = .returned (.int .i64 (grp (fL es) 0 q)) ∧ Below w.heap.size w w')
    (q : Nat) (hq : (q + 1) * 2 ≤ 256) (v : Value) (es : List Lef) (w : World) (hr : RdL w v es) (hok : LefOk es) (ht : Tab w) :
    Calls Tryd.prog 56 #[EArr, v, .int .i64 ((q * 2 : Nat) : Int), .int .i64 1] w fun e w' => e = .returned (.int .i64 (grp (fL es) 1 q)) ∧ Below w.heap.size w w' := by
  have e3 : ((2 * q * 1 : Nat) : Int) = ((q * 2 : Nat) : Int) := by omega
  have e4 : (((2 * q + 1) * 1 : Nat) : Int) = ((q * 2 : Nat) : Int) + 1 := by omega
  have o1 : (2 * q + 1) * 1 ≤ 256 := by omega
  have o2 : (2 * q + 1 + 1) * 1 ≤ 256 := by
    have e : 2 * q + 1 + 1 = (q + 1) * 2 := by omega
    rw [e, Nat.mul_assoc]
    exact hq
  have o3 : q * 2 ≤ 256 := by omega
  obtain ⟨ins, ok, hz, hg, hb⟩ := bet_ex hok 1 q v ((q * 2 : Nat) : Int) (((q * 2 : Nat) : Int) + 2) (by omega) (by omega)
  have i1 := fun a b => i64_small (grp_lo (fL_lo ins) a b) (grp_hi (fL_hi ins) a b)
  have HL := fun W u h t => IH (2 * q) o1 u ins W h ok t
  have HR := fun W u h t => IH (2 * q + 1) o2 u ins W h ok t
  rw [e3] at HL
  rw [e4] at HR
  exact walkG1 (q * 2) o3 ins (grp (fL ins) 0 (2 * q)) (grp (fL ins) 0 (2 * q + 1)) (grp (fL es) 1 q) v es w hr ht hz ((grp_succ (fL ins) 0 q).symm.trans hg) (i1 0 (2 * q)) (i1 0 (2 * q + 1)) hb HL HR
set_option maxHeartbeats 4000000 in
set_option maxRecDepth 100000 in
theorem walkG2 (F : Nat) (hF2 : F ≤ 256) (ins : List Lef) (L R G : Int) (v : Value) (es : List Lef) (w : World) (hr : RdL w v es) (ht : Tab w) (HZ : ins = [] → G = emp 2) (HM : pr L R = G) (hL : I64 L) (hR : I64 R)
    (HB : ∀ W, RdL W v es → Calls Tryd.prog 74 #[v, .int .i64 (F : Int), .int .i64 ((F : Int) + 4)] W fun e w' => ∃ u, e = .returned u ∧ RdL w' u ins ∧ Below W.heap.size W w')
    (HL : ∀ W u, RdL W u ins → Tab W → Calls Tryd.prog 56 #[EArr, u, .int .i64 (F : Int), .int .i64 1] W fun e w' => e = .returned (.int .i64 L) ∧ Below W.heap.size W w')
    (HR : ∀ W u, RdL W u ins → Tab W → Calls Tryd.prog 56 #[EArr, u, .int .i64 ((F : Int) + 2), .int .i64 1] W fun e w' => e = .returned (.int .i64 R) ∧ Below W.heap.size W w') :
    Calls Tryd.prog 56 #[EArr, v, .int .i64 (F : Int), .int .i64 2] w fun e w' => e = .returned (.int .i64 G) ∧ Below w.heap.size w w' := by
  have qa := empA_new w
  have b0 := below1 w (.cells #[.int .i64 (emp 0), .int .i64 (emp 1), .int .i64 (emp 2), .int .i64 (emp 3), .int .i64 (emp 4), .int .i64 (emp 5), .int .i64 (emp 6), .int .i64 (emp 7), .int .i64 (emp 8)] 77)
  have hr0 := hr.below b0
  have HZ' : Hid (ins = [] → G = emp 2) := HZ
  have HM' : Hid (pr L R = G) := HM
  clear hr HZ HM
  unfold EArr at HL HR ⊢
  go_enter Tryd.func56, Tryd.ntmps56
  go_wp2_with fail
  refine (HB _ hr0).mono ?_
  rintro e w1 ⟨u, rfl, hu, hb1⟩
  have b1 := b0.trans (hb1.mono (by simp))
  have qa1 := qa.below hb1
  have ht1 := ht.on b1
  clear hb1 hr0 HB qa b0
  obtain ⟨c0, c1, c2, c3, c4, c5, c6, c7, c8⟩ := qa1.all
  rcases betL_head hu with ⟨hi, a, c, rfl⟩ | ⟨x, r, b, off, c, hi, rfl, hl, hc, hx⟩
  · have HG : Hid (G = emp 2) := HZ'.out hi
    go_wp2
    go_ret
    exact ⟨ret_intE HG.out.symm, b1⟩
  · have hn0 : 0 < ins.length := by rw [hi]; simp
    obtain ⟨n, hn⟩ : ∃ n, n = ins.length := ⟨_, rfl⟩
    rw [← hn] at hl hn0 hu ⊢
    have hnz : ((n : Int) == 0) = false := by simp; omega
    unfold maxLen at hc
    have HRU : Hid (RdL w1 (.slice (some ⟨b, off, none⟩) n c) ins) := hu
    clear hn hi hu HZ' hx
    go_wp2_with fail
    refine (HL _ _ HRU.out ht1).mono ?_
    rintro e w2 ⟨rfl, hb2⟩
    have b2 := b1.trans (hb2.mono b1.size)
    have ht2 := ht.on b2
    have qa2 := qa1.below hb2
    clear c0 c1 c2 c3 c4 c5 c6 c7 c8
    obtain ⟨c0, c1, c2, c3, c4, c5, c6, c7, c8⟩ := qa2.all
    go_wp2_with fail
    refine (HR _ _ (HRU.out.below hb2) ht2).mono ?_
    rintro e w3 ⟨rfl, hb3⟩
    have b3 := b2.trans (hb3.mono b2.size)
    have ht3 := ht.on b3
    go_wp2_with fail
    refine (implPr L R _ hL hR ht3).mono ?_
    rintro e w4 ⟨rfl, hb4⟩
    have b4 := b3.trans (hb4.mono b3.size)
    go_wp2
    go_ret
    exact ⟨ret_intE HM'.out, b4⟩
theorem group2_any (IH : ∀ (q : Nat), (q + 1) * 2 ≤ 256 → ∀ (v : Value) (es : List Lef) (w : World), RdL w v es → LefOk es → Tab w → Calls Tryd.prog 56 #[EArr, v, .int .i64 ((q * 2 : Nat) : Int), .int .i64 1] w fun e w' => e = .returned (.int .i64 (grp (fL es) 1 q)) ∧ Below w.heap.size w w')
    (q : Nat) (hq : (q + 1) * 4 ≤ 256) (v : Value) (es : List Lef) (w : World) (hr : RdL w v es) (hok : LefOk es) (ht : Tab w) :
    Calls Tryd.prog 56 #[EArr, v, .int .i64 ((q * 4 : Nat) : Int), .int .i64 2] w fun e w' => e = .returned (.int .i64 (grp (fL es) 2 q)) ∧ Below w.heap.size w w' := by
  have e3 : ((2 * q * 2 : Nat) : Int) = ((q * 4 : Nat) : Int) := by omega
  have e4 : (((2 * q + 1) * 2 : Nat) : Int) = ((q * 4 : Nat) : Int) + 2 := by omega
  have o1 : (2 * q + 1) * 2 ≤ 256 := by omega
  have o2 : (2 * q + 1 + 1) * 2 ≤ 256 := by
    have e : 2 * q + 1 + 1 = (q + 1) * 2 := by omega
    rw [e, Nat.mul_assoc]
    exact hq
  have o3 : q * 4 ≤ 256 := by omega
  obtain ⟨ins, ok, hz, hg, hb⟩ := bet_ex hok 2 q v ((q * 4 : Nat) : Int) (((q * 4 : Nat) : Int) + 4) (by omega) (by omega)
  have i1 := fun a b => i64_small (grp_lo (fL_lo ins) a b) (grp_hi (fL_hi ins) a b)
  have HL := fun W u h t => IH (2 * q) o1 u ins W h ok t
  have HR := fun W u h t => IH (2 * q + 1) o2 u ins W h ok t
  rw [e3] at HL
  rw [e4] at HR
  exact walkG2 (q * 4) o3 ins (grp (fL ins) 1 (2 * q)) (grp (fL ins) 1 (2 * q + 1)) (grp (fL es) 2 q) v es w hr ht hz ((grp_succ (fL ins) 1 q).symm.trans hg) (i1 1 (2 * q)) (i1 1 (2 * q + 1)) hb HL HR
set_option maxHeartbeats 4000000 in
set_option maxRecDepth 100000 in
theorem walkG3 (F : Nat) (hF2 : F ≤ 256) (ins : List Lef) (L R G : Int) (v : Value) (es : List Lef) (w : World) (hr : RdL w v es) (ht : Tab w) (HZ : ins = [] → G = emp 3) (HM : pr L R = G) (hL : I64 L) (hR : I64 R)
    (HB : ∀ W, RdL W v es → Calls Tryd.prog 74 #[v, .int .i64 (F : Int), .int .i64 ((F : Int) + 8)] W fun e w' => ∃ u, e = .returned u ∧ RdL w' u ins ∧ Below W.heap.size W w')
    (HL : ∀ W u, RdL W u ins → Tab W → Calls Tryd.prog 56 #[EArr, u, .int .i64 (F : Int), .int .i64 2] W fun e w' => e = .returned (.int .i64 L) ∧ Below W.heap.size W w')
    (HR : ∀ W u, RdL W u ins → Tab W → Calls Tryd.prog 56 #[EArr, u, .int .i64 ((F : Int) + 4), .int .i64 2] W fun e w' => e = .returned (.int .i64 R) ∧ Below W.heap.size W w') :
    Calls Tryd.prog 56 #[EArr, v, .int .i64 (F : Int), .int .i64 3] w fun e w' => e = .returned (.int .i64 G) ∧ Below w.heap.size w w' := by
  have qa := empA_new w
  have b0 := below1 w (.cells #[.int .i64 (emp 0), .int .i64 (emp 1), .int .i64 (emp 2), .int .i64 (emp 3), .int .i64 (emp 4), .int .i64 (emp 5), .int .i64 (emp 6), .int .i64 (emp 7), .int .i64 (emp 8)] 77)
  have hr0 := hr.below b0
  have HZ' : Hid (ins = [] → G = emp 3) := HZ
  have HM' : Hid (pr L R = G) := HM
  clear hr HZ HM
  unfold EArr at HL HR ⊢
  go_enter Tryd.func56, Tryd.ntmps56
  go_wp2_with fail
  refine (HB _ hr0).mono ?_
  rintro e w1 ⟨u, rfl, hu, hb1⟩
  have b1 := b0.trans (hb1.mono (by simp))
  have qa1 := qa.below hb1
  have ht1 := ht.on b1
  clear hb1 hr0 HB qa b0
  obtain ⟨c0, c1, c2, c3, c4, c5, c6, c7, c8⟩ := qa1.all
  rcases betL_head hu with ⟨hi, a, c, rfl⟩ | ⟨x, r, b, off, c, hi, rfl, hl, hc, hx⟩
  · have HG : Hid (G = emp 3) := HZ'.out hi
    go_wp2
    go_ret
    exact ⟨ret_intE HG.out.symm, b1⟩
  · have hn0 : 0 < ins.length := by rw [hi]; simp
    obtain ⟨n, hn⟩ : ∃ n, n = ins.length := ⟨_, rfl⟩
    rw [← hn] at hl hn0 hu ⊢
    have hnz : ((n : Int) == 0) = false := by simp; omega
    unfold maxLen at hc
    have HRU : Hid (RdL w1 (.slice (some ⟨b, off, none⟩) n c) ins) := hu
    clear hn hi hu HZ' hx
    go_wp2_with fail
    refine (HL _ _ HRU.out ht1).mono ?_
    rintro e w2 ⟨rfl, hb2⟩
    have b2 := b1.trans (hb2.mono b1.size)
    have ht2 := ht.on b2
    have qa2 := qa1.below hb2
    clear c0 c1 c2 c3 c4 c5 c6 c7 c8
    obtain ⟨c0, c1, c2, c3, c4, c5, c6, c7, c8⟩ := qa2.all
    go_wp2_with fail
    refine (HR _ _ (HRU.out.below hb2) ht2).mono ?_
    rintro e w3 ⟨rfl, hb3⟩
    have b3 := b2.trans (hb3.mono b2.size)
    have ht3 := ht.on b3
    go_wp2_with fail
    refine (implPr L R _ hL hR ht3).mono ?_
    rintro e w4 ⟨rfl, hb4⟩
    have b4 := b3.trans (hb4.mono b3.size)
    go_wp2
    go_ret
    exact ⟨ret_intE HM'.out, b4⟩
theorem group3_any (IH : ∀ (q : Nat), (q + 1) * 4 ≤ 256 → ∀ (v : Value) (es : List Lef) (w : World), RdL w v es → LefOk es → Tab w → Calls Tryd.prog 56 #[EArr, v, .int .i64 ((q * 4 : Nat) : Int), .int .i64 2] w fun e w' => e = .returned (.int .i64 (grp (fL es) 2 q)) ∧ Below w.heap.size w w')
    (q : Nat) (hq : (q + 1) * 8 ≤ 256) (v : Value) (es : List Lef) (w : World) (hr : RdL w v es) (hok : LefOk es) (ht : Tab w) :
    Calls Tryd.prog 56 #[EArr, v, .int .i64 ((q * 8 : Nat) : Int), .int .i64 3] w fun e w' => e = .returned (.int .i64 (grp (fL es) 3 q)) ∧ Below w.heap.size w w' := by
  have e3 : ((2 * q * 4 : Nat) : Int) = ((q * 8 : Nat) : Int) := by omega
  have e4 : (((2 * q + 1) * 4 : Nat) : Int) = ((q * 8 : Nat) : Int) + 4 := by omega
  have o1 : (2 * q + 1) * 4 ≤ 256 := by omega
  have o2 : (2 * q + 1 + 1) * 4 ≤ 256 := by
    have e : 2 * q + 1 + 1 = (q + 1) * 2 := by omega
    rw [e, Nat.mul_assoc]
    exact hq
  have o3 : q * 8 ≤ 256 := by omega
  obtain ⟨ins, ok, hz, hg, hb⟩ := bet_ex hok 3 q v ((q * 8 : Nat) : Int) (((q * 8 : Nat) : Int) + 8) (by omega) (by omega)
  have i1 := fun a b => i64_small (grp_lo (fL_lo ins) a b) (grp_hi (fL_hi ins) a b)
  have HL := fun W u h t => IH (2 * q) o1 u ins W h ok t
  have HR := fun W u h t => IH (2 * q + 1) o2 u ins W h ok t
  rw [e3] at HL
  rw [e4] at HR
  exact walkG3 (q * 8) o3 ins (grp (fL ins) 2 (2 * q)) (grp (fL ins) 2 (2 * q + 1)) (grp (fL es) 3 q) v es w hr ht hz ((grp_succ (fL ins) 2 q).symm.trans hg) (i1 2 (2 * q)) (i1 2 (2 * q + 1)) hb HL HR
set_option maxHeartbeats 4000000 in
set_option maxRecDepth 100000 in
theorem walkG4 (F : Nat) (hF2 : F ≤ 256) (ins : List Lef) (L R G : Int) (v : Value) (es : List Lef) (w : World) (hr : RdL w v es) (ht : Tab w) (HZ : ins = [] → G = emp 4) (HM : pr L R = G) (hL : I64 L) (hR : I64 R)
    (HB : ∀ W, RdL W v es → Calls Tryd.prog 74 #[v, .int .i64 (F : Int), .int .i64 ((F : Int) + 16)] W fun e w' => ∃ u, e = .returned u ∧ RdL w' u ins ∧ Below W.heap.size W w')
    (HL : ∀ W u, RdL W u ins → Tab W → Calls Tryd.prog 56 #[EArr, u, .int .i64 (F : Int), .int .i64 3] W fun e w' => e = .returned (.int .i64 L) ∧ Below W.heap.size W w')
    (HR : ∀ W u, RdL W u ins → Tab W → Calls Tryd.prog 56 #[EArr, u, .int .i64 ((F : Int) + 8), .int .i64 3] W fun e w' => e = .returned (.int .i64 R) ∧ Below W.heap.size W w') :
    Calls Tryd.prog 56 #[EArr, v, .int .i64 (F : Int), .int .i64 4] w fun e w' => e = .returned (.int .i64 G) ∧ Below w.heap.size w w' := by
  have qa := empA_new w
  have b0 := below1 w (.cells #[.int .i64 (emp 0), .int .i64 (emp 1), .int .i64 (emp 2), .int .i64 (emp 3), .int .i64 (emp 4), .int .i64 (emp 5), .int .i64 (emp 6), .int .i64 (emp 7), .int .i64 (emp 8)] 77)
  have hr0 := hr.below b0
  have HZ' : Hid (ins = [] → G = emp 4) := HZ
  have HM' : Hid (pr L R = G) := HM
  clear hr HZ HM
  unfold EArr at HL HR ⊢
  go_enter Tryd.func56, Tryd.ntmps56
  go_wp2_with fail
  refine (HB _ hr0).mono ?_
  rintro e w1 ⟨u, rfl, hu, hb1⟩
  have b1 := b0.trans (hb1.mono (by simp))
  have qa1 := qa.below hb1
  have ht1 := ht.on b1
  clear hb1 hr0 HB qa b0
  obtain ⟨c0, c1, c2, c3, c4, c5, c6, c7, c8⟩ := qa1.all
  rcases betL_head hu with ⟨hi, a, c, rfl⟩ | ⟨x, r, b, off, c, hi, rfl, hl, hc, hx⟩
  · have HG : Hid (G = emp 4) := HZ'.out hi
    go_wp2
    go_ret
    exact ⟨ret_intE HG.out.symm, b1⟩
  · have hn0 : 0 < ins.length := by rw [hi]; simp
    obtain ⟨n, hn⟩ : ∃ n, n = ins.length := ⟨_, rfl⟩
    rw [← hn] at hl hn0 hu ⊢
    have hnz : ((n : Int) == 0) = false := by simp; omega
    unfold maxLen at hc
    have HRU : Hid (RdL w1 (.slice (some ⟨b, off, none⟩) n c) ins) := hu
    clear hn hi hu HZ' hx
    go_wp2_with fail
    refine (HL _ _ HRU.out ht1).mono ?_
    rintro e w2 ⟨rfl, hb2⟩
    have b2 := b1.trans (hb2.mono b1.size)
    have ht2 := ht.on b2
    have qa2 := qa1.below hb2
    clear c0 c1 c2 c3 c4 c5 c6 c7 c8
    obtain ⟨c0, c1, c2, c3, c4, c5, c6, c7, c8⟩ := qa2.all
    go_wp2_with fail
    refine (HR _ _ (HRU.out.below hb2) ht2).mono ?_
    rintro e w3 ⟨rfl, hb3⟩
    have b3 := b2.trans (hb3.mono b2.size)
    have ht3 := ht.on b3
    go_wp2_with fail
    refine (implPr L R _ hL hR ht3).mono ?_
    rintro e w4 ⟨rfl, hb4⟩
    have b4 := b3.trans (hb4.mono b3.size)
    go_wp2
    go_ret
    exact ⟨ret_intE HM'.out, b4⟩
theorem group4_any (IH : ∀ (q : Nat), (q + 1) * 8 ≤ 256 → ∀ (v : Value) (es : List Lef) (w : World), RdL w v es → LefOk es → Tab w → Calls Tryd.prog 56 #[EArr, v, .int .i64 ((q * 8 : Nat) : Int), .int .i64 3] w fun e w' => e = .returned (.int .i64 (grp (fL es) 3 q)) ∧ Below w.heap.size w w')
    (q : Nat) (hq : (q + 1) * 16 ≤ 256) (v : Value) (es : List Lef) (w : World) (hr : RdL w v es) (hok : LefOk es) (ht : Tab w) :
    Calls Tryd.prog 56 #[EArr, v, .int .i64 ((q * 16 : Nat) : Int), .int .i64 4] w fun e w' => e = .returned (.int .i64 (grp (fL es) 4 q)) ∧ Below w.heap.size w w' := by
  have e3 : ((2 * q * 8 : Nat) : Int) = ((q * 16 : Nat) : Int) := by omega
  have e4 : (((2 * q + 1) * 8 : Nat) : Int) = ((q * 16 : Nat) : Int) + 8 := by omega
  have o1 : (2 * q + 1) * 8 ≤ 256 := by omega
  have o2 : (2 * q + 1 + 1) * 8 ≤ 256 := by
    have e : 2 * q + 1 + 1 = (q + 1) * 2 := by omega
    rw [e, Nat.mul_assoc]
    exact hq
  have o3 : q * 16 ≤ 256 := by omega
  obtain ⟨ins, ok, hz, hg, hb⟩ := bet_ex hok 4 q v ((q * 16 : Nat) : Int) (((q * 16 : Nat) : Int) + 16) (by omega) (by omega)
  have i1 := fun a b => i64_small (grp_lo (fL_lo ins) a b) (grp_hi (fL_hi ins) a b)
  have HL := fun W u h t => IH (2 * q) o1 u ins W h ok t
  have HR := fun W u h t => IH (2 * q + 1) o2 u ins W h ok t
  rw [e3] at HL
  rw [e4] at HR
  exact walkG4 (q * 16) o3 ins (grp (fL ins) 3 (2 * q)) (grp (fL ins) 3 (2 * q + 1)) (grp (fL es) 4 q) v es w hr ht hz ((grp_succ (fL ins) 3 q).symm.trans hg) (i1 3 (2 * q)) (i1 3 (2 * q + 1)) hb HL HR
set_option maxHeartbeats 4000000 in
set_option maxRecDepth 100000 in
theorem walkG5 (F : Nat) (hF2 : F ≤ 256) (ins : List Lef) (L R G : Int) (v : Value) (es : List Lef) (w : World) (hr : RdL w v es) (ht : Tab w) (HZ : ins = [] → G = emp 5) (HM : pr L R = G) (hL : I64 L) (hR : I64 R)
    (HB : ∀ W, RdL W v es → Calls Tryd.prog 74 #[v, .int .i64 (F : Int), .int .i64 ((F : Int) + 32)] W fun e w' => ∃ u, e = .returned u ∧ RdL w' u ins ∧ Below W.heap.size W w')
    (HL : ∀ W u, RdL W u ins → Tab W → Calls Tryd.prog 56 #[EArr, u, .int .i64 (F : Int), .int .i64 4] W fun e w' => e = .returned (.int .i64 L) ∧ Below W.heap.size W w')
    (HR : ∀ W u, RdL W u ins → Tab W → Calls Tryd.prog 56 #[EArr, u, .int .i64 ((F : Int) + 16), .int .i64 4] W fun e w' => e = .returned (.int .i64 R) ∧ Below W.heap.size W w') :
    Calls Tryd.prog 56 #[EArr, v, .int .i64 (F : Int), .int .i64 5] w fun e w' => e = .returned (.int .i64 G) ∧ Below w.heap.size w w' := by
  have qa := empA_new w
  have b0 := below1 w (.cells #[.int .i64 (emp 0), .int .i64 (emp 1), .int .i64 (emp 2), .int .i64 (emp 3), .int .i64 (emp 4), .int .i64 (emp 5), .int .i64 (emp 6), .int .i64 (emp 7), .int .i64 (emp 8)] 77)
  have hr0 := hr.below b0
  have HZ' : Hid (ins = [] → G = emp 5) := HZ
  have HM' : Hid (pr L R = G) := HM
  clear hr HZ HM
  unfold EArr at HL HR ⊢
  go_enter Tryd.func56, Tryd.ntmps56
  go_wp2_with fail
  refine (HB _ hr0).mono ?_
  rintro e w1 ⟨u, rfl, hu, hb1⟩
  have b1 := b0.trans (hb1.mono (by simp))
  have qa1 := qa.below hb1
  have ht1 := ht.on b1
  clear hb1 hr0 HB qa b0
  obtain ⟨c0, c1, c2, c3, c4, c5, c6, c7, c8⟩ := qa1.all
  rcases betL_head hu with ⟨hi, a, c, rfl⟩ | ⟨x, r, b, off, c, hi, rfl, hl, hc, hx⟩
  · have HG : Hid (G = emp 5) := HZ'.out hi
    go_wp2
    go_ret
    exact ⟨ret_intE HG.out.symm, b1⟩
  · have hn0 : 0 < ins.length := by rw [hi]; simp
    obtain ⟨n, hn⟩ : ∃ n, n = ins.length := ⟨_, rfl⟩
    rw [← hn] at hl hn0 hu ⊢
    have hnz : ((n : Int) == 0) = false := by simp; omega
    unfold maxLen at hc
    have HRU : Hid (RdL w1 (.slice (some ⟨b, off, none⟩) n c) ins) := hu
    clear hn hi hu HZ' hx
    go_wp2_with fail
    refine (HL _ _ HRU.out ht1).mono ?_
    rintro e w2 ⟨rfl, hb2⟩
    have b2 := b1.trans (hb2.mono b1.size)
    have ht2 := ht.on b2
    have qa2 := qa1.below hb2
    clear c0 c1 c2 c3 c4 c5 c6 c7 c8
    obtain ⟨c0, c1, c2, c3, c4, c5, c6, c7, c8⟩ := qa2.all
    go_wp2_with fail
    refine (HR _ _ (HRU.out.below hb2) ht2).mono ?_
    rintro e w3 ⟨rfl, hb3⟩
    have b3 := b2.trans (hb3.mono b2.size)
    have ht3 := ht.on b3
    go_wp2_with fail
    refine (implPr L R _ hL hR ht3).mono ?_
    rintro e w4 ⟨rfl, hb4⟩
    have b4 := b3.trans (hb4.mono b3.size)
    go_wp2
    go_ret
    exact ⟨ret_intE HM'.out, b4⟩
theorem group5_any (IH : ∀ (q : Nat), (q + 1) * 16 ≤ 256 → ∀ (v : Value) (es : List Lef) (w : World), RdL w v es → LefOk es → Tab w → Calls Tryd.prog 56 #[EArr, v, .int .i64 ((q * 16 : Nat) : Int), .int .i64 4] w fun e w' => e = .returned (.int .i64 (grp (fL es) 4 q)) ∧ Below w.heap.size w w')
    (q : Nat) (hq : (q + 1) * 32 ≤ 256) (v : Value) (es : List Lef) (w : World) (hr : RdL w v es) (hok : LefOk es) (ht : Tab w) :
    Calls Tryd.prog 56 #[EArr, v, .int .i64 ((q * 32 : Nat) : Int), .int .i64 5] w fun e w' => e = .returned (.int .i64 (grp (fL es) 5 q)) ∧ Below w.heap.size w w' := by
  have e3 : ((2 * q * 16 : Nat) : Int) = ((q * 32 : Nat) : Int) := by omega
  have e4 : (((2 * q + 1) * 16 : Nat) : Int) = ((q * 32 : Nat) : Int) + 16 := by omega
  have o1 : (2 * q + 1) * 16 ≤ 256 := by omega
  have o2 : (2 * q + 1 + 1) * 16 ≤ 256 := by
    have e : 2 * q + 1 + 1 = (q + 1) * 2 := by omega
    rw [e, Nat.mul_assoc]
    exact hq
  have o3 : q * 32 ≤ 256 := by omega
  obtain ⟨ins, ok, hz, hg, hb⟩ := bet_ex hok 5 q v ((q * 32 : Nat) : Int) (((q * 32 : Nat) : Int) + 32) (by omega) (by omega)
  have i1 := fun a b => i64_small (grp_lo (fL_lo ins) a b) (grp_hi (fL_hi ins) a b)
  have HL := fun W u h t => IH (2 * q) o1 u ins W h ok t
  have HR := fun W u h t => IH (2 * q + 1) o2 u ins W h ok t
  rw [e3] at HL
  rw [e4] at HR
  exact walkG5 (q * 32) o3 ins (grp (fL ins) 4 (2 * q)) (grp (fL ins) 4 (2 * q + 1)) (grp (fL es) 5 q) v es w hr ht hz ((grp_succ (fL ins) 4 q).symm.trans hg) (i1 4 (2 * q)) (i1 4 (2 * q + 1)) hb HL HR
set_option maxHeartbeats 4000000 in
set_option maxRecDepth 100000 in
theorem walkG6 (F : Nat) (hF2 : F ≤ 256) (ins : List Lef) (L R G : Int) (v : Value) (es : List Lef) (w : World) (hr : RdL w v es) (ht : Tab w) (HZ : ins = [] → G = emp 6) (HM : pr L R = G) (hL : I64 L) (hR : I64 R)
    (HB : ∀ W, RdL W v es → Calls Tryd.prog 74 #[v, .int .i64 (F : Int), .int .i64 ((F : Int) + 64)] W fun e w' => ∃ u, e = .returned u ∧ RdL w' u ins ∧ Below W.heap.size W w')
    (HL : ∀ W u, RdL W u ins → Tab W → Calls Tryd.prog 56 #[EArr, u, .int .i64 (F : Int), .int .i64 5] W fun e w' => e = .returned (.int .i64 L) ∧ Below W.heap.size W w')
    (HR : ∀ W u, RdL W u ins → Tab W → Calls Tryd.prog 56 #[EArr, u, .int .i64 ((F : Int) + 32), .int .i64 5] W fun e w' => e = .returned (.int .i64 R) ∧ Below W.heap.size W w') :
    Calls Tryd.prog 56 #[EArr, v, .int .i64 (F : Int), .int .i64 6] w fun e w' => e = .returned (.int .i64 G) ∧ Below w.heap.size w w' := by
  have qa := empA_new w
  have b0 := below1 w (.cells #[.int .i64 (emp 0), .int .i64 (emp 1), .int .i64 (emp 2), .int .i64 (emp 3), .int .i64 (emp 4), .int .i64 (emp 5), .int .i64 (emp 6), .int .i64 (emp 7), .int .i64 (emp 8)] 77)
  have hr0 := hr.below b0
  have HZ' : Hid (ins = [] → G = emp 6) := HZ
  have HM' : Hid (pr L R = G) := HM
  clear hr HZ HM
  unfold EArr at HL HR ⊢
  go_enter Tryd.func56, Tryd.ntmps56
  go_wp2_with fail
  refine (HB _ hr0).mono ?_
  rintro e w1 ⟨u, rfl, hu, hb1⟩
  have b1 := b0.trans (hb1.mono (by simp))
  have qa1 := qa.below hb1
  have ht1 := ht.on b1
  clear hb1 hr0 HB qa b0
  obtain ⟨c0, c1, c2, c3, c4, c5, c6, c7, c8⟩ := qa1.all
  rcases betL_head hu with ⟨hi, a, c, rfl⟩ | ⟨x, r, b, off, c, hi, rfl, hl, hc, hx⟩
  · have HG : Hid (G = emp 6) := HZ'.out hi
    go_wp2
    go_ret
    exact ⟨ret_intE HG.out.symm, b1⟩
  · have hn0 : 0 < ins.length := by rw [hi]; simp
    obtain ⟨n, hn⟩ : ∃ n, n = ins.length := ⟨_, rfl⟩
    rw [← hn] at hl hn0 hu ⊢
    have hnz : ((n : Int) == 0) = false := by simp; omega
    unfold maxLen at hc
    have HRU : Hid (RdL w1 (.slice (some ⟨b, off, none⟩) n c) ins) := hu
    clear hn hi hu HZ' hx
    go_wp2_with fail
    refine (HL _ _ HRU.out ht1).mono ?_
    rintro e w2 ⟨rfl, hb2⟩
    have b2 := b1.trans (hb2.mono b1.size)
    have ht2 := ht.on b2
    have qa2 := qa1.below hb2
    clear c0 c1 c2 c3 c4 c5 c6 c7 c8
    obtain ⟨c0, c1, c2, c3, c4, c5, c6, c7, c8⟩ := qa2.all
    go_wp2_with fail
    refine (HR _ _ (HRU.out.below hb2) ht2).mono ?_
    rintro e w3 ⟨rfl, hb3⟩
    have b3 := b2.trans (hb3.mono b2.size)
    have ht3 := ht.on b3
    go_wp2_with fail
    refine (implPr L R _ hL hR ht3).mono ?_
    rintro e w4 ⟨rfl, hb4⟩
    have b4 := b3.trans (hb4.mono b3.size)
    go_wp2
    go_ret
    exact ⟨ret_intE HM'.out, b4⟩
theorem group6_any (IH : ∀ (q : Nat), (q + 1) * 32 ≤ 256 → ∀ (v : Value) (es : List Lef) (w : World), RdL w v es → LefOk es → Tab w → Calls Tryd.prog 56 #[EArr, v, .int .i64 ((q * 32 : Nat) : Int), .int .i64 5] w fun e w' => e = .returned (.int .i64 (grp (fL es) 5 q)) ∧ Below w.heap.size w w')
    (q : Nat) (hq : (q + 1) * 64 ≤ 256) (v : Value) (es : List Lef) (w : World) (hr : RdL w v es) (hok : LefOk es) (ht : Tab w) :
    Calls Tryd.prog 56 #[EArr, v, .int .i64 ((q * 64 : Nat) : Int), .int .i64 6] w fun e w' => e = .returned (.int .i64 (grp (fL es) 6 q)) ∧ Below w.heap.size w w' := by
  have e3 : ((2 * q * 32 : Nat) : Int) = ((q * 64 : Nat) : Int) := by omega
  have e4 : (((2 * q + 1) * 32 : Nat) : Int) = ((q * 64 : Nat) : Int) + 32 := by omega
  have o1 : (2 * q + 1) * 32 ≤ 256 := by omega
  have o2 : (2 * q + 1 + 1) * 32 ≤ 256 := by
    have e : 2 * q + 1 + 1 = (q + 1) * 2 := by omega
    rw [e, Nat.mul_assoc]
    exact hq
  have o3 : q * 64 ≤ 256 := by omega
  obtain ⟨ins, ok, hz, hg, hb⟩ := bet_ex hok 6 q v ((q * 64 : Nat) : Int) (((q * 64 : Nat) : Int) + 64) (by omega) (by omega)
  have i1 := fun a b => i64_small (grp_lo (fL_lo ins) a b) (grp_hi (fL_hi ins) a b)
  have HL := fun W u h t => IH (2 * q) o1 u ins W h ok t
  have HR := fun W u h t => IH (2 * q + 1) o2 u ins W h ok t
  rw [e3] at HL
  rw [e4] at HR
  exact walkG6 (q * 64) o3 ins (grp (fL ins) 5 (2 * q)) (grp (fL ins) 5 (2 * q + 1)) (grp (fL es) 6 q) v es w hr ht hz ((grp_succ (fL ins) 5 q).symm.trans hg) (i1 5 (2 * q)) (i1 5 (2 * q + 1)) hb HL HR
set_option maxHeartbeats 4000000 in
set_option maxRecDepth 100000 in
theorem walkG7 (F : Nat) (hF2 : F ≤ 256) (ins : List Lef) (L R G : Int) (v : Value) (es : List Lef) (w : World) (hr : RdL w v es) (ht : Tab w) (HZ : ins = [] → G = emp 7) (HM : pr L R = G) (hL : I64 L) (hR : I64 R)
    (HB : ∀ W, RdL W v es → Calls Tryd.prog 74 #[v, .int .i64 (F : Int), .int .i64 ((F : Int) + 128)] W fun e w' => ∃ u, e = .returned u ∧ RdL w' u ins ∧ Below W.heap.size W w')
    (HL : ∀ W u, RdL W u ins → Tab W → Calls Tryd.prog 56 #[EArr, u, .int .i64 (F : Int), .int .i64 6] W fun e w' => e = .returned (.int .i64 L) ∧ Below W.heap.size W w')
    (HR : ∀ W u, RdL W u ins → Tab W → Calls Tryd.prog 56 #[EArr, u, .int .i64 ((F : Int) + 64), .int .i64 6] W fun e w' => e = .returned (.int .i64 R) ∧ Below W.heap.size W w') :
    Calls Tryd.prog 56 #[EArr, v, .int .i64 (F : Int), .int .i64 7] w fun e w' => e = .returned (.int .i64 G) ∧ Below w.heap.size w w' := by
  have qa := empA_new w
  have b0 := below1 w (.cells #[.int .i64 (emp 0), .int .i64 (emp 1), .int .i64 (emp 2), .int .i64 (emp 3), .int .i64 (emp 4), .int .i64 (emp 5), .int .i64 (emp 6), .int .i64 (emp 7), .int .i64 (emp 8)] 77)
  have hr0 := hr.below b0
  have HZ' : Hid (ins = [] → G = emp 7) := HZ
  have HM' : Hid (pr L R = G) := HM
  clear hr HZ HM
  unfold EArr at HL HR ⊢
  go_enter Tryd.func56, Tryd.ntmps56
  go_wp2_with fail
  refine (HB _ hr0).mono ?_
  rintro e w1 ⟨u, rfl, hu, hb1⟩
  have b1 := b0.trans (hb1.mono (by simp))
  have qa1 := qa.below hb1
  have ht1 := ht.on b1
  clear hb1 hr0 HB qa b0
  obtain ⟨c0, c1, c2, c3, c4, c5, c6, c7, c8⟩ := qa1.all
  rcases betL_head hu with ⟨hi, a, c, rfl⟩ | ⟨x, r, b, off, c, hi, rfl, hl, hc, hx⟩
  · have HG : Hid (G = emp 7) := HZ'.out hi
    go_wp2
    go_ret
    exact ⟨ret_intE HG.out.symm, b1⟩
  · have hn0 : 0 < ins.length := by rw [hi]; simp
    obtain ⟨n, hn⟩ : ∃ n, n = ins.length := ⟨_, rfl⟩
    rw [← hn] at hl hn0 hu ⊢
    have hnz : ((n : Int) == 0) = false := by simp; omega
    unfold maxLen at hc
    have HRU : Hid (RdL w1 (.slice (some ⟨b, off, none⟩) n c) ins) := hu
    clear hn hi hu HZ' hx
    go_wp2_with fail
    refine (HL _ _ HRU.out ht1).mono ?_
    rintro e w2 ⟨rfl, hb2⟩
    have b2 := b1.trans (hb2.mono b1.size)
    have ht2 := ht.on b2
    have qa2 := qa1.below hb2
    clear c0 c1 c2 c3 c4 c5 c6 c7 c8
    obtain ⟨c0, c1, c2, c3, c4, c5, c6, c7, c8⟩ := qa2.all
    go_wp2_with fail
    refine (HR _ _ (HRU.out.below hb2) ht2).mono ?_
    rintro e w3 ⟨rfl, hb3⟩
    have b3 := b2.trans (hb3.mono b2.size)
    have ht3 := ht.on b3
    go_wp2_with fail
    refine (implPr L R _ hL hR ht3).mono ?_
    rintro e w4 ⟨rfl, hb4⟩
    have b4 := b3.trans (hb4.mono b3.size)
    go_wp2
    go_ret
    exact ⟨ret_intE HM'.out, b4⟩
theorem group7_any (IH : ∀ (q : Nat), (q + 1) * 64 ≤ 256 → ∀ (v : Value) (es : List Lef) (w : World), RdL w v es → LefOk es → Tab w → Calls Tryd.prog 56 #[EArr, v, .int .i64 ((q * 64 : Nat) : Int), .int .i64 6] w fun e w' => e = .returned (.int .i64 (grp (fL es) 6 q)) ∧ Below w.heap.size w w')
    (q : Nat) (hq : (q + 1) * 128 ≤ 256) (v : Value) (es : List Lef) (w : World) (hr : RdL w v es) (hok : LefOk es) (ht : Tab w) :
    Calls Tryd.prog 56 #[EArr, v, .int .i64 ((q * 128 : Nat) : Int), .int .i64 7] w fun e w' => e = .returned (.int .i64 (grp (fL es) 7 q)) ∧ Below w.heap.size w w' := by
  have e3 : ((2 * q * 64 : Nat) : Int) = ((q * 128 : Nat) : Int) := by omega
  have e4 : (((2 * q + 1) * 64 : Nat) : Int) = ((q * 128 : Nat) : Int) + 64 := by omega
  have o1 : (2 * q + 1) * 64 ≤ 256 := by omega
  have o2 : (2 * q + 1 + 1) * 64 ≤ 256 := by
    have e : 2 * q + 1 + 1 = (q + 1) * 2 := by omega
    rw [e, Nat.mul_assoc]
    exact hq
  have o3 : q * 128 ≤ 256 := by omega
  obtain ⟨ins, ok, hz, hg, hb⟩ := bet_ex hok 7 q v ((q * 128 : Nat) : Int) (((q * 128 : Nat) : Int) + 128) (by omega) (by omega)
  have i1 := fun a b => i64_small (grp_lo (fL_lo ins) a b) (grp_hi (fL_hi ins) a b)
  have HL := fun W u h t => IH (2 * q) o1 u ins W h ok t
  have HR := fun W u h t => IH (2 * q + 1) o2 u ins W h ok t
  rw [e3] at HL
  rw [e4] at HR
  exact walkG7 (q * 128) o3 ins (grp (fL ins) 6 (2 * q)) (grp (fL ins) 6 (2 * q + 1)) (grp (fL es) 7 q) v es w hr ht hz ((grp_succ (fL ins) 6 q).symm.trans hg) (i1 6 (2 * q)) (i1 6 (2 * q + 1)) hb HL HR
set_option maxHeartbeats 4000000 in
set_option maxRecDepth 100000 in
theorem walkG8 (ins : List Lef) (L R G : Int) (v : Value) (es : List Lef) (w : World) (hr : RdL w v es) (ht : Tab w) (HZ : ins = [] → G = emp 8) (HM : pr L R = G) (hL : I64 L) (hR : I64 R)
    (HB : ∀ W, RdL W v es → Calls Tryd.prog 74 #[v, .int .i64 0, .int .i64 256] W fun e w' => ∃ u, e = .returned u ∧ RdL w' u ins ∧ Below W.heap.size W w')
    (HL : ∀ W u, RdL W u ins → Tab W → Calls Tryd.prog 56 #[EArr, u, .int .i64 0, .int .i64 7] W fun e w' => e = .returned (.int .i64 L) ∧ Below W.heap.size W w')
    (HR : ∀ W u, RdL W u ins → Tab W → Calls Tryd.prog 56 #[EArr, u, .int .i64 128, .int .i64 7] W fun e w' => e = .returned (.int .i64 R) ∧ Below W.heap.size W w') :
    Calls Tryd.prog 56 #[EArr, v, .int .i64 0, .int .i64 8] w fun e w' => e = .returned (.int .i64 G) ∧ Below w.heap.size w w' := by
  have qa := empA_new w
  have b0 := below1 w (.cells #[.int .i64 (emp 0), .int .i64 (emp 1), .int .i64 (emp 2), .int .i64 (emp 3), .int .i64 (emp 4), .int .i64 (emp 5), .int .i64 (emp 6), .int .i64 (emp 7), .int .i64 (emp 8)] 77)
  have hr0 := hr.below b0
  have HZ' : Hid (ins = [] → G = emp 8) := HZ
  have HM' : Hid (pr L R = G) := HM
  clear hr HZ HM
  unfold EArr at HL HR ⊢
  go_enter Tryd.func56, Tryd.ntmps56
  go_wp2_with fail
  refine (HB _ hr0).mono ?_
  rintro e w1 ⟨u, rfl, hu, hb1⟩
  have b1 := b0.trans (hb1.mono (by simp))
  have qa1 := qa.below hb1
  have ht1 := ht.on b1
  clear hb1 hr0 HB qa b0
  obtain ⟨c0, c1, c2, c3, c4, c5, c6, c7, c8⟩ := qa1.all
  rcases betL_head hu with ⟨hi, a, c, rfl⟩ | ⟨x, r, b, off, c, hi, rfl, hl, hc, hx⟩
  · have HG : Hid (G = emp 8) := HZ'.out hi
    go_wp2
    go_ret
    exact ⟨ret_intE HG.out.symm, b1⟩
  · have hn0 : 0 < ins.length := by rw [hi]; simp
    obtain ⟨n, hn⟩ : ∃ n, n = ins.length := ⟨_, rfl⟩
    rw [← hn] at hl hn0 hu ⊢
    have hnz : ((n : Int) == 0) = false := by simp; omega
    unfold maxLen at hc
    have HRU : Hid (RdL w1 (.slice (some ⟨b, off, none⟩) n c) ins) := hu
    clear hn hi hu HZ' hx
    go_wp2_with fail
    refine (HL _ _ HRU.out ht1).mono ?_
    rintro e w2 ⟨rfl, hb2⟩
    have b2 := b1.trans (hb2.mono b1.size)
    have ht2 := ht.on b2
    have qa2 := qa1.below hb2
    clear c0 c1 c2 c3 c4 c5 c6 c7 c8
    obtain ⟨c0, c1, c2, c3, c4, c5, c6, c7, c8⟩ := qa2.all
    go_wp2_with fail
    refine (HR _ _ (HRU.out.below hb2) ht2).mono ?_
    rintro e w3 ⟨rfl, hb3⟩
    have b3 := b2.trans (hb3.mono b2.size)
    have ht3 := ht.on b3
    go_wp2_with fail
    refine (implPr L R _ hL hR ht3).mono ?_
    rintro e w4 ⟨rfl, hb4⟩
    have b4 := b3.trans (hb4.mono b3.size)
    go_wp2
    go_ret
    exact ⟨ret_intE HM'.out, b4⟩
theorem group8_any (IH : ∀ (q : Nat), (q + 1) * 128 ≤ 256 → ∀ (v : Value) (es : List Lef) (w : World), RdL w v es → LefOk es → Tab w → Calls Tryd.prog 56 #[EArr, v, .int .i64 ((q * 128 : Nat) : Int), .int .i64 7] w fun e w' => e = .returned (.int .i64 (grp (fL es) 7 q)) ∧ Below w.heap.size w w')
    (v : Value) (es : List Lef) (w : World) (hr : RdL w v es) (hok : LefOk es) (ht : Tab w) :
    Calls Tryd.prog 56 #[EArr, v, .int .i64 0, .int .i64 8] w fun e w' => e = .returned (.int .i64 (grp (fL es) 8 0)) ∧ Below w.heap.size w w' := by
  have e3 : ((0 * 128 : Nat) : Int) = 0 := by omega
  have e4 : ((1 * 128 : Nat) : Int) = 128 := by omega
  obtain ⟨ins, ok, hz, hg, hb⟩ := bet_ex hok 8 0 v 0 256 (by omega) (by omega)
  have i1 := fun a b => i64_small (grp_lo (fL_lo ins) a b) (grp_hi (fL_hi ins) a b)
  have HL := fun W u h t => IH 0 (by decide) u ins W h ok t
  have HR := fun W u h t => IH 1 (by decide) u ins W h ok t
  rw [e3] at HL
  rw [e4] at HR
  exact walkG8 ins (grp (fL ins) 7 0) (grp (fL ins) 7 1) (grp (fL es) 8 0) v es w hr ht hz ((grp_succ (fL ins) 7 0).symm.trans hg) (i1 7 0) (i1 7 1) hb HL HR
/-- The number of a group of any step, by the program. -/
def GrpC (k d : Nat) (z : Int) : Prop := ∀ (q : Nat), (q + 1) * d ≤ 256 → ∀ (v : Value) (es : List Lef) (w : World), RdL w v es → LefOk es → Tab w → Calls Tryd.prog 56 #[EArr, v, .int .i64 ((q * d : Nat) : Int), .int .i64 z] w fun e w' => e = .returned (.int .i64 (grp (fL es) k q)) ∧ Below w.heap.size w w'
theorem grpC0 : GrpC 0 1 0 := fun q hq v es w hr hok ht => by
  have := group0_any q (by omega) v es w hr hok ht
  rwa [show ((q * 1 : Nat) : Int) = (q : Int) by omega]
theorem grpC1 : GrpC 1 2 1 := group1_any grpC0
theorem grpC2 : GrpC 2 4 2 := group2_any grpC1
theorem grpC3 : GrpC 3 8 3 := group3_any grpC2
theorem grpC4 : GrpC 4 16 4 := group4_any grpC3
theorem grpC5 : GrpC 5 32 5 := group5_any grpC4
theorem grpC6 : GrpC 6 64 6 := group6_any grpC5
theorem grpC7 : GrpC 7 128 7 := group7_any grpC6
set_option maxHeartbeats 1000000 in
set_option maxRecDepth 100000 in
theorem implPeak_any (v : Value) (es : List Lef) (w : World) (hr : RdL w v es) (ht : Tab w) :
    Calls Tryd.prog 17 #[v] w fun e w' => e = .returned (.int .i64 (if lefOk es = true then peakL es else -1)) ∧ Below w.heap.size w w' := by
  cases hk : lefOk es with
  | false =>
    have HL : ∀ u w', RdL w' u es → Calls Tryd.prog 22 #[u] w' fun e w'' => e = .returned (.bool false) ∧ Below w'.heap.size w' w'' := fun u w' h => by rw [← hk]; exact implLeavesOk_any u es w' h
    clear hk
    go_enter Tryd.func17, Tryd.ntmps17
    go_wp2_with (go_at_call 22; refine (HL _ _ hr).mono ?_; rintro e w1 ⟨rfl, hd1⟩)
    go_ret
    exact ⟨rfl, hd1⟩
  | true =>
    have HO : Hid (LefOk es) := lefOk_iff.1 hk
    have HL : ∀ u w', RdL w' u es → Calls Tryd.prog 22 #[u] w' fun e w'' => e = .returned (.bool true) ∧ Below w'.heap.size w' w'' := fun u w' h => by rw [← hk]; exact implLeavesOk_any u es w' h
    clear hk
    rw [if_pos rfl]
    go_enter Tryd.func17, Tryd.ntmps17
    go_wp2_with fail
    refine (HL _ _ hr).mono ?_
    rintro e w1 ⟨rfl, b1⟩
    go_wp2_with fail
    refine (numbersOfEmpty_any _ (ht.on b1)).mono ?_
    rintro e w2 ⟨rfl, hb2⟩
    have b2 := b1.trans (hb2.mono b1.size)
    go_wp2_with fail
    refine (group8_any grpC7 v es _ (hr.below b2) HO.out (ht.on b2)).mono ?_
    rintro e w3 ⟨rfl, hb3⟩
    have b3 := b2.trans (hb3.mono b2.size)
    go_wp2
    go_ret
    exact ⟨rfl, b3⟩
end Go.Proofs.YtmfopbkhlekhkaaDoor
