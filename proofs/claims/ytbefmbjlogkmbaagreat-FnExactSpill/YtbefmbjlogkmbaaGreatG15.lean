/- The contracts of the laws' own helpers over tables: copied, alike, marked, held, measured. Plain facts on merged lists, on what some snapshots see, and on what goes at the bottom: no function of the program is walked here. -/
import Derived.Test.YtbefmbjlogkmbaaGreatG14
namespace Go.Proofs.YtbefmbjlogkmbaaGreat
set_option maxHeartbeats 16000000
set_option maxRecDepth 100000
open Go.RowKit
theorem boxT_set2 {w : World} {b : Nat} {f l : ByteArray} {vb vk vb' : Value} (h : BoxT w b f l vb vk) : BoxT (w.setCell ⟨b, 2, none⟩ vb') b f l vb' vk := by
  unfold BoxT at h ⊢
  exact heap_setCell_same w b 2 _ _ vb' h
theorem boxT_other {w : World} {b c j : Nat} {f l : ByteArray} {vb vk u : Value} (h : BoxT w b f l vb vk) (hn : b ≠ c) : BoxT (w.setCell ⟨c, j, none⟩ u) b f l vb vk := h.block (heap_setCell_other w ⟨c, j, none⟩ b u hn)
theorem tblAt_other {w : World} {b c j : Nat} {T : Tbl} {vb vk u : Value} (h : TblAt w b T vb vk) (hn : b ≠ c) : TblAt (w.setCell ⟨c, j, none⟩ u) b T vb vk := h.of_block (heap_setCell_other w ⟨c, j, none⟩ b u hn)
theorem toTable_any (T : Tbl) (vb vk : Value) (w : World) (hi : RdI w vb T.bits) (hk : RdS w vk T.blocks) (h1 : T.bits.length ≤ 1073741824) (h2 : T.blocks.length ≤ 1073741824) :
    Calls Tryz.prog 63 #[.agg #[.string T.first, .string T.last, vb, vk]] w fun e w' => TabPost w T e w' := by
  have t0 := tblAt_new w T vb vk 86
  have b0 := below1 w (.cells #[.string T.first, .string T.last, vb, vk] 86)
  obtain ⟨W0, hW0⟩ : ∃ W0, W0 = w.alloc (.cells #[.string T.first, .string T.last, vb, vk] 86) := ⟨_, rfl⟩
  have z1 := boxT_new W0 ⟨#[]⟩ ⟨#[]⟩ (.slice none 0 0) (.slice none 0 0)
  have b1 := below1 W0 (.cells #[.string ⟨#[]⟩, .string ⟨#[]⟩, .slice none 0 0, .slice none 0 0] 72)
  obtain ⟨W1, hW1⟩ : ∃ W1, W1 = W0.alloc (.cells #[.string ⟨#[]⟩, .string ⟨#[]⟩, .slice none 0 0, .slice none 0 0] 72) := ⟨_, rfl⟩
  have z2 := boxT_new W1 T.first T.last (.slice none 0 0) (.slice none 0 0)
  have b2 := below1 W1 (.cells #[.string T.first, .string T.last, .slice none 0 0, .slice none 0 0] 72)
  rw [← hW0] at t0 b0
  rw [← hW1] at z1 b1
  have s0 : W0.heap.size = w.heap.size + 1 := by rw [hW0]; simp
  have s1 : W1.heap.size = w.heap.size + 2 := by rw [hW1]; simp; omega
  rw [s0] at z1 b1
  rw [s1] at z2 b2
  obtain ⟨W2, hW2⟩ : ∃ W2, W2 = W1.alloc (.cells #[.string T.first, .string T.last, .slice none 0 0, .slice none 0 0] 72) := ⟨_, rfl⟩
  rw [← hW2] at z2 b2
  have t2 : TblAt W2 w.heap.size T vb vk := (t0.below (by rw [s0]; exact b1)).below (by rw [s1]; exact b2)
  have z1' : BoxT W2 (w.heap.size + 1) ⟨#[]⟩ ⟨#[]⟩ (.slice none 0 0) (.slice none 0 0) := z1.below (by rw [s1]; exact b2)
  have bw2 : Below w.heap.size w W2 := (b0.trans (b1.mono (by omega))).trans (b2.mono (by omega))
  have HW2 : Hid (W1.alloc (.cells #[.string T.first, .string T.last, .slice none 0 0, .slice none 0 0] 72) = W2) := hW2.symm
  clear z1 b1 b0 t0 b2 hW2
  subst hW1
  subst hW0
  obtain ⟨d0, d1, d2, d3⟩ := id t2
  obtain ⟨y0, y1, y2, y3, g0, g1, g2, g3⟩ := z2.facts
  go_enter Tryz.func63, Tryz.ntmps63
  go_wp2_with fail
  rw [HW2.out]
  clear HW2 s0 s1 d0 d1 d2 d3 y0 y1 y2 y3 g0 g1 g2 g3
  refine (toInts_any vb T.bits _ (hi.below bw2) h1).mono ?_
  rintro e w4 ⟨u4, rfl, ho4, hb4⟩
  have t4 := t2.below hb4
  have z24 := z2.below hb4
  have z14 := z1'.below hb4
  have bw4 := bw2.trans (hb4.mono bw2.size)
  replace ho4 := ho4.mono bw2.size
  obtain ⟨a4, c4, hv4, _⟩ := id ho4.rd
  obtain ⟨n4, hn4⟩ : ∃ n4, n4 = T.bits.length := ⟨_, rfl⟩
  rw [← hn4] at hv4
  subst hv4
  have t5 : TblAt (w4.setCell ⟨w.heap.size + 2, 2, none⟩ (.slice a4 n4 c4)) w.heap.size T vb vk := tblAt_other t4 (by omega)
  have z25 : BoxT (w4.setCell ⟨w.heap.size + 2, 2, none⟩ (.slice a4 n4 c4)) (w.heap.size + 2) T.first T.last (.slice a4 n4 c4) (.slice none 0 0) := boxT_set2 z24
  have z15 : BoxT (w4.setCell ⟨w.heap.size + 2, 2, none⟩ (.slice a4 n4 c4)) (w.heap.size + 1) ⟨#[]⟩ ⟨#[]⟩ (.slice none 0 0) (.slice none 0 0) := boxT_other z14 (by omega)
  have bw5 : Below w.heap.size w (w4.setCell ⟨w.heap.size + 2, 2, none⟩ (.slice a4 n4 c4)) := bw4.setCell (by show w.heap.size ≤ w.heap.size + 2; omega) _
  have ho5 : OwnI (w4.setCell ⟨w.heap.size + 2, 2, none⟩ (.slice a4 n4 c4)) w.heap.size (.slice a4 n4 c4) T.bits := row_set ho4 (boxT_row z24 ho4 (by decide))
  obtain ⟨y0, y1, y2, y3, g0, g1, g2, g3⟩ := z24.facts
  obtain ⟨d0, d1, d2, d3⟩ := id t5
  clear t2 z2 z1' bw2 t4 z14 bw4 hb4 ho4 hn4
  go_wp2_with fail
  generalize w4.setCell ⟨w.heap.size + 2, 2, none⟩ (.slice a4 n4 c4) = W5 at t5 z25 z15 bw5 ho5 ⊢
  clear y0 y1 y2 y3 g0 g1 g2 g3 d0 d1 d2 d3 z24
  refine (toTexts_any vk T.blocks _ (hk.below bw5) h2).mono ?_
  rintro e w6 ⟨u6, rfl, ho6, hb6⟩
  have z26 := z25.below hb6
  have z16 := z15.below hb6
  have bw6 := bw5.trans (hb6.mono bw5.size)
  have hob6 := ho5.below hb6
  replace ho6 := ho6.mono bw5.size
  obtain ⟨a6, c6, hv6, _⟩ := id ho6.rd
  obtain ⟨n6, hn6⟩ : ∃ n6, n6 = T.blocks.length := ⟨_, rfl⟩
  rw [← hn6] at hv6
  subst hv6
  have z27 : BoxT (w6.setCell ⟨w.heap.size + 2, 3, none⟩ (.slice a6 n6 c6)) (w.heap.size + 2) T.first T.last (.slice a4 n4 c4) (.slice a6 n6 c6) := boxT_set3 z26
  have z17 : BoxT (w6.setCell ⟨w.heap.size + 2, 3, none⟩ (.slice a6 n6 c6)) (w.heap.size + 1) ⟨#[]⟩ ⟨#[]⟩ (.slice none 0 0) (.slice none 0 0) := boxT_other z16 (by omega)
  have bw7 : Below w.heap.size w (w6.setCell ⟨w.heap.size + 2, 3, none⟩ (.slice a6 n6 c6)) := bw6.setCell (by show w.heap.size ≤ w.heap.size + 2; omega) _
  have hob7 : OwnI (w6.setCell ⟨w.heap.size + 2, 3, none⟩ (.slice a6 n6 c6)) w.heap.size (.slice a4 n4 c4) T.bits := row_set hob6 (boxT_row z26 hob6 (by decide))
  have hok7 : OwnS (w6.setCell ⟨w.heap.size + 2, 3, none⟩ (.slice a6 n6 c6)) w.heap.size (.slice a6 n6 c6) T.blocks := row_set ho6 (boxT_row z26 ho6 (by decide))
  obtain ⟨y0, y1, y2, y3, g0, g1, g2, g3⟩ := z26.facts
  obtain ⟨x0, x1, x2, x3, f0, f1, f2, f3⟩ := z17.facts
  obtain ⟨v0, v1, v2, v3, _⟩ := z27.facts
  have nb := boxT_row z17 hob7 (by decide)
  have nk := boxT_row z17 hok7 (by decide)
  clear t5 z25 z15 bw5 ho5 hb6 bw6 hob6 ho6 hn6 z16 z26 z17 z27
  go_wp2
  exact bodyPost_ret (v := .agg #[.string T.first, .string T.last, .slice a4 n4 c4, .slice a6 n6 c6]) (by simp [results, Tryz.results63, go_sem, x0, x1, x2, x3]) rfl ⟨_, _, rfl, row_set (row_set (row_set (row_set hob7 nb) nb) nb) nb, row_set (row_set (row_set (row_set hok7 nk) nk) nk) nk, below4 bw7 (Nat.le_succ _) _ _ _ _ _ _ _ _⟩
theorem eqTable_same (T : Tbl) (vb1 vk1 vb2 vk2 : Value) (w : World) (hi1 : RdI w vb1 T.bits) (hk1 : RdS w vk1 T.blocks) (hi2 : RdI w vb2 T.bits) (hk2 : RdS w vk2 T.blocks) :
    Calls Tryz.prog 69 #[.agg #[.string T.first, .string T.last, vb1, vk1], .agg #[.string T.first, .string T.last, vb2, vk2]] w fun e w' => e = .returned (.bool true) ∧ Below w.heap.size w w' := by
  have t0 := tblAt_new w T vb1 vk1 72
  have b0 := below1 w (.cells #[.string T.first, .string T.last, vb1, vk1] 72)
  have t1 := t0.below (below1 _ (.cells #[.string T.first, .string T.last, vb2, vk2] 72))
  have u1 := tblAt_new (w.alloc (.cells #[.string T.first, .string T.last, vb1, vk1] 72)) T vb2 vk2 72
  have b1 := b0.alloc b0.size (.cells #[.string T.first, .string T.last, vb2, vk2] 72)
  rw [show (w.alloc (.cells #[.string T.first, .string T.last, vb1, vk1] 72)).heap.size = w.heap.size + 1 by simp] at u1
  obtain ⟨d0, d1, d2, d3⟩ := id t1
  obtain ⟨e0, e1, e2, e3⟩ := id u1
  clear t0 b0
  go_enter Tryz.func69, Tryz.ntmps69
  go_wp2_with fail
  generalize (w.alloc (.cells #[.string T.first, .string T.last, vb1, vk1] 72)).alloc (.cells #[.string T.first, .string T.last, vb2, vk2] 72) = W1 at t1 u1 b1 ⊢
  clear d0 d1 d2 d3 e0 e1 e2 e3
  refine (eqInts_same vb1 vb2 T.bits _ (hi1.below b1) (hi2.below b1)).mono ?_
  rintro e w2 ⟨rfl, n2, rfl⟩
  have t2 : TblAt (W1.drewN n2) w.heap.size T vb1 vk1 := t1
  have u2 : TblAt (W1.drewN n2) (w.heap.size + 1) T vb2 vk2 := u1
  have b2 := below_drewN b1 n2
  generalize W1.drewN n2 = W2 at t2 u2 b2 ⊢
  obtain ⟨d0, d1, d2, d3⟩ := id t2
  obtain ⟨e0, e1, e2, e3⟩ := id u2
  clear t1 u1 b1
  go_wp2_with fail
  refine (eqTexts_same vk1 vk2 T.blocks _ (hk1.below b2) (hk2.below b2)).mono ?_
  rintro e w3 ⟨rfl, n3, rfl⟩
  have b3 := below_drewN b2 n3
  go_wp2
  go_ret
  exact ⟨rfl, b3⟩
def Sr (es : List Ent) : Prop := es.Pairwise (fun a b => ahd a b = true)
theorem okL_sr {es : List Ent} (h : okL es = true) : Sr es := ((okL_iff es).1 h).2.2
theorem ahd_asymm {a b : Ent} (h : ahd a b = true) : ahd b a = false := by
  cases e : ahd b a with
  | false => rfl
  | true => have := ahd_trans h e; rw [ahd_irrefl] at this; cases this
def mrg : List Ent → List Ent → List Ent
  | [], b => b
  | x :: r, [] => x :: r
  | x :: r, y :: s => if ahd x y = true then x :: mrg r (y :: s) else if ahd y x = true then y :: mrg (x :: r) s else mrg (x :: r) s
termination_by a b => a.length + b.length
theorem mrg_nil (a : List Ent) : mrg a [] = a := by cases a <;> rw [mrg]
theorem mrg_sub : ∀ (n : Nat) (a b : List Ent), a.length + b.length ≤ n → ∀ z, z ∈ mrg a b → z ∈ a ∨ z ∈ b := by
  intro n
  induction n with
  | zero =>
    intro a b h z hz
    have : a = [] := List.length_eq_zero_iff.1 (by omega)
    subst this
    rw [mrg] at hz
    exact .inr hz
  | succ n ih =>
    intro a b h z hz
    cases a with
    | nil => rw [mrg] at hz; exact .inr hz
    | cons x r =>
      cases b with
      | nil => rw [mrg] at hz; exact .inl hz
      | cons y s =>
        simp only [List.length_cons] at h
        rw [mrg] at hz
        split at hz
        · rcases List.mem_cons.1 hz with rfl | hz
          · exact .inl List.mem_cons_self
          · rcases ih r (y :: s) (by simp only [List.length_cons]; omega) z hz with h | h
            · exact .inl (List.mem_cons_of_mem _ h)
            · exact .inr h
        · split at hz
          · rcases List.mem_cons.1 hz with rfl | hz
            · exact .inr List.mem_cons_self
            · rcases ih (x :: r) s (by simp only [List.length_cons]; omega) z hz with h | h
              · exact .inl h
              · exact .inr (List.mem_cons_of_mem _ h)
          · rcases ih (x :: r) s (by simp only [List.length_cons]; omega) z hz with h | h
            · exact .inl h
            · exact .inr (List.mem_cons_of_mem _ h)
theorem mrg_mem {a b : List Ent} {z : Ent} (h : z ∈ mrg a b) : z ∈ a ∨ z ∈ b := mrg_sub _ a b (Nat.le_refl _) z h
theorem mrg_len : ∀ (n : Nat) (a b : List Ent), a.length + b.length ≤ n → (mrg a b).length ≤ a.length + b.length := by
  intro n
  induction n with
  | zero =>
    intro a b h
    have : a = [] := List.length_eq_zero_iff.1 (by omega)
    subst this
    rw [mrg]; omega
  | succ n ih =>
    intro a b h
    cases a with
    | nil => rw [mrg]; simp
    | cons x r =>
      cases b with
      | nil => rw [mrg]; simp
      | cons y s =>
        simp only [List.length_cons] at h
        rw [mrg]
        split
        · have := ih r (y :: s) (by simp only [List.length_cons]; omega)
          simp only [List.length_cons] at this ⊢; omega
        · split
          · have := ih (x :: r) s (by simp only [List.length_cons]; omega)
            simp only [List.length_cons] at this ⊢; omega
          · have := ih (x :: r) s (by simp only [List.length_cons]; omega)
            simp only [List.length_cons] at this ⊢; omega
theorem ahd_cases (x y : Ent) (h1 : ¬ ahd x y = true) (h2 : ¬ ahd y x = true) : sameKS x y = true := by
  cases h : sameKS x y with
  | true => rfl
  | false => exact absurd (ahd_tri (by simpa using h1) h) h2
theorem sameKS_iff (x y : Ent) : sameKS x y = true ↔ x.key = y.key ∧ x.seq = y.seq := by simp [sameKS, kEq]
theorem ahd_congr {x y z : Ent} (h : sameKS x y = true) (hz : ahd y z = true) : ahd x z = true := by
  rw [sameKS_iff] at h
  rw [ahd_iff] at hz ⊢
  rw [h.1, h.2]
  exact hz
theorem mrg_sr : ∀ (n : Nat) (a b : List Ent), a.length + b.length ≤ n → Sr a → Sr b → Sr (mrg a b) := by
  intro n
  induction n with
  | zero =>
    intro a b h _ hb
    have : a = [] := List.length_eq_zero_iff.1 (by omega)
    subst this
    rw [mrg]; exact hb
  | succ n ih =>
    intro a b h ha hb
    cases a with
    | nil => rw [mrg]; exact hb
    | cons x r =>
      cases b with
      | nil => rw [mrg]; exact ha
      | cons y s =>
        simp only [List.length_cons] at h
        have ha' := List.pairwise_cons.1 ha
        have hb' := List.pairwise_cons.1 hb
        rw [mrg]
        split
        · rename_i hxy
          refine List.pairwise_cons.2 ⟨fun z hz => ?_, ih r (y :: s) (by simp only [List.length_cons]; omega) ha'.2 hb⟩
          rcases mrg_mem hz with h | h
          · exact ha'.1 z h
          · rcases List.mem_cons.1 h with rfl | h
            · exact hxy
            · exact ahd_trans hxy (hb'.1 z h)
        · rename_i hxy
          split
          · rename_i hyx
            refine List.pairwise_cons.2 ⟨fun z hz => ?_, ih (x :: r) s (by simp only [List.length_cons]; omega) ha hb'.2⟩
            rcases mrg_mem hz with h | h
            · rcases List.mem_cons.1 h with rfl | h
              · exact hyx
              · exact ahd_trans hyx (ha'.1 z h)
            · exact hb'.1 z h
          · exact ih (x :: r) s (by simp only [List.length_cons]; omega) ha hb'.2
theorem mrg_has : ∀ (n : Nat) (a b : List Ent), a.length + b.length ≤ n → ∀ z, (z ∈ a → z ∈ mrg a b) ∧ (z ∈ b → ∃ u ∈ mrg a b, sameKS u z = true) := by
  have same : ∀ z : Ent, sameKS z z = true := fun z => by rw [sameKS_iff]; exact ⟨rfl, rfl⟩
  intro n
  induction n with
  | zero =>
    intro a b h z
    have : a = [] := List.length_eq_zero_iff.1 (by omega)
    subst this
    rw [mrg]
    exact ⟨(fun h => by cases h), fun h => ⟨z, h, same z⟩⟩
  | succ n ih =>
    intro a b h z
    cases a with
    | nil => rw [mrg]; exact ⟨(fun h => by cases h), fun h => ⟨z, h, same z⟩⟩
    | cons x r =>
      cases b with
      | nil => rw [mrg]; exact ⟨(fun h => h), (fun h => by cases h)⟩
      | cons y s =>
        simp only [List.length_cons] at h
        rw [mrg]
        split
        · obtain ⟨i1, i2⟩ := ih r (y :: s) (by simp only [List.length_cons]; omega) z
          refine ⟨fun hz => ?_, fun hz => ?_⟩
          · rcases List.mem_cons.1 hz with rfl | hz
            · exact List.mem_cons_self
            · exact List.mem_cons_of_mem _ (i1 hz)
          · obtain ⟨u, hu, hs⟩ := i2 hz
            exact ⟨u, List.mem_cons_of_mem _ hu, hs⟩
        · rename_i hxy
          split
          · obtain ⟨i1, i2⟩ := ih (x :: r) s (by simp only [List.length_cons]; omega) z
            refine ⟨fun hz => List.mem_cons_of_mem _ (i1 hz), fun hz => ?_⟩
            rcases List.mem_cons.1 hz with rfl | hz
            · exact ⟨_, List.mem_cons_self, same _⟩
            · obtain ⟨u, hu, hs⟩ := i2 hz
              exact ⟨u, List.mem_cons_of_mem _ hu, hs⟩
          · rename_i hyx
            obtain ⟨i1, i2⟩ := ih (x :: r) s (by simp only [List.length_cons]; omega) z
            refine ⟨i1, fun hz => ?_⟩
            rcases List.mem_cons.1 hz with rfl | hz
            · exact ⟨x, ((ih (x :: r) s (by simp only [List.length_cons]; omega) x).1 List.mem_cons_self), ahd_cases x z hxy hyx⟩
            · exact i2 hz
def mergedL (ls : List (List Ent)) : List Ent := ls.foldl mrg []
theorem mF_len (ls : List (List Ent)) : ∀ a : List Ent, (ls.foldl mrg a).length ≤ a.length + (ls.map List.length).sum := by
  induction ls with
  | nil => intro a; simp
  | cons l r ih =>
    intro a
    rw [List.foldl_cons, List.map_cons, List.sum_cons]
    have h1 := ih (mrg a l)
    have h2 := mrg_len _ a l (Nat.le_refl _)
    omega
theorem mF_sr (ls : List (List Ent)) (h : ∀ l ∈ ls, Sr l) : ∀ a : List Ent, Sr a → Sr (ls.foldl mrg a) := by
  induction ls with
  | nil => intro a ha; exact ha
  | cons l r ih =>
    intro a ha
    rw [List.foldl_cons]
    exact ih (fun x hx => h x (List.mem_cons_of_mem _ hx)) _ (mrg_sr _ a l (Nat.le_refl _) ha (h l List.mem_cons_self))
end Go.Proofs.YtbefmbjlogkmbaaGreat
