/- The draws of the law of tables. -/
import Derived.Test.YthaobdknpgnapaaTabDraw
import Derived.Test.YthaobdknpgnapaaG35
namespace Go.Proofs.Ythaobdknpgnapaa
open Go.RowKit
/-- A drawn table, as it can be read. -/
def TabRd (w : World) (T : Tbl) (vb vk : Value) : Prop := RdI w vb T.bits ∧ RdS w vk T.blocks ∧ ∀ s ∈ T.blocks, s.size ≤ 1000000000
theorem TabRd.below {w w' : World} {T : Tbl} {vb vk : Value} (h : TabRd w T vb vk) (hb : Below w.heap.size w w') : TabRd w' T vb vk := ⟨h.1.below hb, h.2.1.below hb, h.2.2⟩
/-- The same, and young. -/
def TabY (w : World) (B : Nat) (T : Tbl) (vb vk : Value) : Prop := OwnI w B vb T.bits ∧ YS w B vk T.blocks ∧ ∀ s ∈ T.blocks, s.size ≤ 1000000
theorem TabY.rd {w : World} {B : Nat} {T : Tbl} {vb vk : Value} (h : TabY w B T vb vk) : TabRd w T vb vk := ⟨h.1.rd, h.2.1.rd, fun s hs => Nat.le_trans (h.2.2 s hs) (by omega)⟩
theorem TabY.mono {w : World} {B B' : Nat} {T : Tbl} {vb vk : Value} (h : TabY w B T vb vk) (hB : B' ≤ B) : TabY w B' T vb vk := ⟨h.1.mono hB, h.2.1.mono hB, h.2.2⟩
theorem TabY.below {w w' : World} {B : Nat} {T : Tbl} {vb vk : Value} (h : TabY w B T vb vk) (hb : Below w.heap.size w w') : TabY w' B T vb vk := ⟨h.1.below hb, h.2.1.below hb, h.2.2⟩
theorem TabY.g {w w' : World} {B g : Nat} {T : Tbl} {vb vk : Value} (h : TabY w B T vb vk) (hg : w.grownBy w' (some g)) (hB : g < B) : TabY w' B T vb vk := ⟨ownI_g h.1 hg hB, h.2.1.g hg hB, h.2.2⟩
theorem TabY.set4 {w : World} {B c : Nat} {T : Tbl} {vb vk : Value} (h : TabY w B T vb vk) (hc : c < B) (u0 u1 u2 u3 : Value) (i j k l : Nat) :
    TabY ((((w.setCell ⟨c, i, none⟩ u0).setCell ⟨c, j, none⟩ u1).setCell ⟨c, k, none⟩ u2).setCell ⟨c, l, none⟩ u3) B T vb vk := by
  have nb : ∀ k, vb.ownBlock = some k → c ≠ k := fun k hk e => by have := (World.ownsRow.lt h.1 k hk).1; omega
  exact ⟨row_set (row_set (row_set (row_set h.1 nb) nb) nb) nb, (((h.2.1.set hc).set hc).set hc).set hc, h.2.2⟩
theorem TabY.slices {w : World} {B : Nat} {T : Tbl} {vb vk : Value} (h : TabY w B T vb vk) : ∃ ab cb ak ck, vb = .slice ab T.bits.length cb ∧ vk = .slice ak T.blocks.length ck := by
  obtain ⟨ab, cb, hb, _⟩ := h.1.rd
  obtain ⟨ak, ck, hk, _⟩ := h.2.1
  exact ⟨ab, cb, ak, ck, hb, hk⟩
def TabDrawn (w : World) (e : Ending) (w' : World) : Prop :=
  ∃ (T : Tbl) (vb vk : Value), e = .returned (.agg #[.string T.first, .string T.last, vb, vk]) ∧ TabY w' w.heap.size T vb vk ∧ Below w.heap.size w w'
/-- What DrawMay leaves. -/
def MayD (w : World) (e : Ending) (w' : World) : Prop :=
  ∃ (T : Tbl) (vb vk : Value) (key : ByteArray), e = .returned (.tuple #[.agg #[.string T.first, .string T.last, vb, vk], .string key]) ∧ key.size ≤ 1000 ∧ TabY w' w.heap.size T vb vk ∧ Below w.heap.size w w'
/-- What DrawFound leaves. -/
def FoundD (w : World) (e : Ending) (w' : World) : Prop :=
  ∃ (T : Tbl) (vb vk : Value) (key : ByteArray) (q : Int), e = .returned (.tuple #[.agg #[.string T.first, .string T.last, vb, vk], .string key, .int .i64 q]) ∧ key.size ≤ 1000 ∧ -1 ≤ q ∧ q ≤ 40 ∧ TabY w' w.heap.size T vb vk ∧ Below w.heap.size w w'
set_option maxHeartbeats 1000000 in
set_option maxRecDepth 100000 in
theorem drawTableOk_any (v : Value) (bs : List UInt8) (w : World) (hr : Rd w v bs) (hb : bs.length ≤ 4096) :
    Calls Try.prog 62 #[v] w fun e w' => TabDrawn w e w' := by
  have hz := boxT_new w ⟨#[]⟩ ⟨#[]⟩ (.slice none 0 0) (.slice none 0 0)
  have b0 := below1 w (.cells #[.string ⟨#[]⟩, .string ⟨#[]⟩, .slice none 0 0, .slice none 0 0] 41)
  have hr0 := hr.below b0
  have hs0 : (w.alloc (.cells #[.string ⟨#[]⟩, .string ⟨#[]⟩, .slice none 0 0, .slice none 0 0] 41)).heap.size = w.heap.size + 1 := by simp
  go_enter Try.func62, Try.ntmps62
  go_wp2_with fail
  generalize w.alloc (.cells #[.string ⟨#[]⟩, .string ⟨#[]⟩, .slice none 0 0, .slice none 0 0] 41) = W1 at hz b0 hr0 hs0 ⊢
  refine (l1New_any v bs _ hr0 hb).mono ?_
  rintro e w1 ⟨g, rfl, hc1⟩
  have hz1 := hz.below hc1.bel
  have hge := hc1.ge
  have hs1 := hc1.bel.size
  go_wp2_with fail
  refine (l5DrawAny_any _ _ g hc1).mono ?_
  rintro e w2 ⟨T, vb, vk, rfl, hi2, hk2, hsz, hc2, hg2⟩
  have hz2 := hz1.block (hg2.block _ hz1.lt (by simp; omega))
  have b2 := b0.trans (hc2.bel.mono (by omega))
  have hy2 : TabY w2 w1.heap.size T vb vk := ⟨hi2, hk2, hsz⟩
  obtain ⟨ab, cb, ak, ck, rfl, rfl⟩ := hy2.slices
  have z3 := boxT_set4 (f' := T.first) (l' := T.last) (vb' := .slice ab T.bits.length cb) (vk' := .slice ak T.blocks.length ck) hz2
  obtain ⟨x0, x1, x2, x3, _⟩ := z3.facts
  obtain ⟨z0, z1, z2, z3', f0, f1, f2, f3⟩ := hz2.facts
  clear hi2 hk2 hsz hz hz1 hc1 hc2 hg2 hr hr0 b0 z3
  go_wp2
  exact bodyPost_ret (v := .agg #[.string T.first, .string T.last, .slice ab T.bits.length cb, .slice ak T.blocks.length ck]) (by simp [results, Try.results62, go_sem, x0, x1, x2, x3]) rfl ⟨T, _, _, rfl, (hy2.set4 (by omega) _ _ _ _ _ _ _ _).mono (by omega), below4 b2 (Nat.le_refl _) _ _ _ _ _ _ _ _⟩
set_option maxHeartbeats 1000000 in
set_option maxRecDepth 100000 in
theorem drawEntries_any (v : Value) (bs : List UInt8) (w : World) (hr : Rd w v bs) (hb : bs.length ≤ 4096) :
    Calls Try.prog 22 #[v] w fun e w' => TabDrawn w e w' := by
  have hz := boxT_new w ⟨#[]⟩ ⟨#[]⟩ (.slice none 0 0) (.slice none 0 0)
  have b0 := below1 w (.cells #[.string ⟨#[]⟩, .string ⟨#[]⟩, .slice none 0 0, .slice none 0 0] 41)
  have hr0 := hr.below b0
  have hs0 : (w.alloc (.cells #[.string ⟨#[]⟩, .string ⟨#[]⟩, .slice none 0 0, .slice none 0 0] 41)).heap.size = w.heap.size + 1 := by simp
  go_enter Try.func22, Try.ntmps22
  go_wp2_with fail
  generalize w.alloc (.cells #[.string ⟨#[]⟩, .string ⟨#[]⟩, .slice none 0 0, .slice none 0 0] 41) = W1 at hz b0 hr0 hs0 ⊢
  refine (drawTableOk_any v bs _ hr0 hb).mono ?_
  rintro e w2 ⟨T, vb, vk, rfl, hy2, hb2⟩
  have hz2 := hz.below hb2
  have b2 := b0.trans (hb2.mono (by omega))
  obtain ⟨ab, cb, ak, ck, rfl, rfl⟩ := hy2.slices
  have z3 := boxT_set4 (f' := T.first) (l' := T.last) (vb' := .slice ab T.bits.length cb) (vk' := .slice ak T.blocks.length ck) hz2
  obtain ⟨x0, x1, x2, x3, _⟩ := z3.facts
  obtain ⟨z0, z1, z2, z3', f0, f1, f2, f3⟩ := hz2.facts
  clear hz hb2 hr hr0 b0 z3
  go_wp2
  exact bodyPost_ret (v := .agg #[.string T.first, .string T.last, .slice ab T.bits.length cb, .slice ak T.blocks.length ck]) (by simp [results, Try.results22, go_sem, x0, x1, x2, x3]) rfl ⟨T, _, _, rfl, (hy2.set4 (by omega) _ _ _ _ _ _ _ _).mono (by omega), below4 b2 (Nat.le_refl _) _ _ _ _ _ _ _ _⟩
set_option maxHeartbeats 1000000 in
set_option maxRecDepth 100000 in
theorem drawMay_any (v : Value) (bs : List UInt8) (w : World) (hr : Rd w v bs) (hb : bs.length ≤ 4096) :
    Calls Try.prog 19 #[v] w fun e w' => MayD w e w' := by
  have hz := boxT_new w ⟨#[]⟩ ⟨#[]⟩ (.slice none 0 0) (.slice none 0 0)
  have b0 := below1 w (.cells #[.string ⟨#[]⟩, .string ⟨#[]⟩, .slice none 0 0, .slice none 0 0] 41)
  have hr0 := hr.below b0
  have hs0 : (w.alloc (.cells #[.string ⟨#[]⟩, .string ⟨#[]⟩, .slice none 0 0, .slice none 0 0] 41)).heap.size = w.heap.size + 1 := by simp
  go_enter Try.func19, Try.ntmps19
  go_wp2_with fail
  generalize w.alloc (.cells #[.string ⟨#[]⟩, .string ⟨#[]⟩, .slice none 0 0, .slice none 0 0] 41) = W1 at hz b0 hr0 hs0 ⊢
  refine (l1New_any v bs _ hr0 hb).mono ?_
  rintro e w1 ⟨g, rfl, hc1⟩
  have hz1 := hz.below hc1.bel
  have hge := hc1.ge
  have hgl := hc1.lt
  have hs1 := hc1.bel.size
  go_wp2_with fail
  refine (l5DrawAny_any _ _ g hc1).mono ?_
  rintro e w2 ⟨T, vb, vk, rfl, hi2, hk2, hsz, hc2, hg2⟩
  have hz2 := hz1.block (hg2.block _ hz1.lt (by simp; omega))
  have hy2 : TabY w2 w1.heap.size T vb vk := ⟨hi2, hk2, hsz⟩
  obtain ⟨ab, cb, ak, ck, rfl, rfl⟩ := hy2.slices
  have bl := below1 w2 (.cells #[.string T.first, .string T.last, .slice ab T.bits.length cb, .slice ak T.blocks.length ck] 41)
  have hT3 := boxT_new w2 T.first T.last (.slice ab T.bits.length cb) (.slice ak T.blocks.length ck)
  have hz3 := hz2.below bl
  have hy3 := hy2.below bl
  have hc3 := hc2.below bl
  have hwl2 := hz2.lt
  have hs2 : g < w2.heap.size := hc2.lt
  clear hi2 hk2 hsz hz hz1 hc1 hc2 hg2 hr hr0 hz2 hy2 bl
  go_wp2_with fail
  generalize w2.alloc (.cells #[.string T.first, .string T.last, .slice ab T.bits.length cb, .slice ak T.blocks.length ck] 41) = W3 at hT3 hz3 hy3 hc3 ⊢
  refine (l1Once_any _ _ g 4 hc3 (by omega) (by omega)).mono ?_
  rintro e w4 ⟨b, rfl, hc4, hg4⟩
  have hz4 := hz3.block (hg4.block _ hz3.lt (by simp; omega))
  have hT4 := hT3.block (hg4.block _ hT3.lt (by simp; omega))
  have hy4 := hy3.g hg4 hgl
  clear hz3 hT3 hc3 hy3 hg4
  cases b with
  | true =>
    have hT4f := hT4.facts
    go_wp2_with fail
    refine wp_region_noPanic ?_
    refine wp_region_held_drew (S := fun W => W.cell? ⟨w2.heap.size, 0, none⟩ = some (.string T.first) ∧ W.cell? ⟨w2.heap.size, 1, none⟩ = some (.string T.last) ∧ W.cell? ⟨w2.heap.size, 2, none⟩ = some (.slice ab T.bits.length cb) ∧ W.cell? ⟨w2.heap.size, 3, none⟩ = some (.slice ak T.blocks.length ck)) (by kernel_rfl) ⟨hT4f.1, hT4f.2.1, hT4f.2.2.1, hT4f.2.2.2.1⟩ (fun hH => ?_)
    have qT : BoxT w4.drew _ _ _ _ _ := hT4
    have qz : BoxT w4.drew _ _ _ _ _ := hz4
    have qy : TabY w4.drew _ _ _ _ := hy4
    have qc : DCur W1 w4.drew g := hc4.drewN 1
    clear hT4 hz4 hy4 hc4 hT4f
    revert hH qT qz qy qc
    generalize w4.drew = W0
    intro hH qT qz qy qc
    refine tkA 0 12 hH ?_
    try simp only [Act.put, List.setIfInBounds_toArray, List.set_cons_zero, List.set_cons_succ]
    refine tkA 1 13 hH ?_
    try simp only [Act.put, List.setIfInBounds_toArray, List.set_cons_zero, List.set_cons_succ]
    refine wpAnyH_ready (rs := [2]) (by kernel_rfl) (by simp) ?_
    refine AllReadyH.cons rfl (fun K hK => ?_) AllReadyH.nil
    go_simp
    refine (l1DrawText_any _ _ g qc).mono ?_
    rintro e w5 ⟨key, rfl, hks, hc5, hg5⟩
    have hz5 := qz.block (hg5.block _ qz.lt (by simp; omega))
    have hT5 := qT.block (hg5.block _ qT.lt (by simp; omega))
    have hy5 := qy.g hg5 hgl
    have hf5 := hT5.facts
    have b5 := b0.trans (hc5.bel.mono (by omega))
    clear qT qz qy qc hg5
    refine hK.out _ _ ⟨hf5.1, hf5.2.1, hf5.2.2.1, hf5.2.2.2.1⟩ (fun hA => ?_)
    clear hK K
    try simp only [Act.put, List.setIfInBounds_toArray, List.set_cons_zero, List.set_cons_succ]
    obtain ⟨z0, z1, z2, z3', f0, f1, f2, f3⟩ := hz5.facts
    have hy6 := hy5.set4 (c := w.heap.size) (by omega) (.string T.first) (.string T.last) (.slice ab T.bits.length cb) (.slice ak T.blocks.length ck) 0 1 2 3
    have hT6 := boxT_other (j := 3) (u := .slice ak T.blocks.length ck) (boxT_other (j := 2) (u := .slice ab T.bits.length cb) (boxT_other (j := 1) (u := .string T.last) (boxT_other (j := 0) (u := .string T.first) hT5 (c := w.heap.size) (by omega)) (c := w.heap.size) (by omega)) (c := w.heap.size) (by omega)) (c := w.heap.size) (by omega)
    have hf6 := hT6.facts
    have z6 := boxT_set4 (f' := T.first) (l' := T.last) (vb' := .slice ab T.bits.length cb) (vk' := .slice ak T.blocks.length ck) hz5
    obtain ⟨x0, x1, x2, x3, _⟩ := z6.facts
    refine wpAnyH_ready (rs := [3]) (by kernel_rfl) (by simp) ?_
    refine AllReadyH.cons rfl (fun K hK => ?_) AllReadyH.nil
    go_simp
    refine hK.out _ _ ⟨hf6.1, hf6.2.1, hf6.2.2.1, hf6.2.2.2.1⟩ (fun hB => ?_)
    clear hK K
    try simp only [Act.put, List.setIfInBounds_toArray, List.set_cons_zero, List.set_cons_succ]
    refine tkA 4 3 hB ?_
    try simp only [Act.put, List.setIfInBounds_toArray, List.set_cons_zero, List.set_cons_succ]
    refine wpAnyH_done (by kernel_rfl) ?_ _
    refine NoPanic.normal ?_
    go_wp2
    exact bodyPost_ret (v := .tuple #[.agg #[.string T.first, .string T.last, .slice ab T.bits.length cb, .slice ak T.blocks.length ck], .string key]) (by simp [results, Try.results19, go_sem, x0, x1, x2, x3]) rfl ⟨T, _, _, key, rfl, by omega, hy6.mono (by omega), below4 b5 (Nat.le_refl _) _ _ _ _ _ _ _ _⟩
  | false =>
    have hT4f := hT4.facts
    go_wp2_with fail
    refine wp_region_noPanic ?_
    refine wp_region_held_drew (S := fun W => W.cell? ⟨w2.heap.size, 0, none⟩ = some (.string T.first) ∧ W.cell? ⟨w2.heap.size, 1, none⟩ = some (.string T.last) ∧ W.cell? ⟨w2.heap.size, 2, none⟩ = some (.slice ab T.bits.length cb) ∧ W.cell? ⟨w2.heap.size, 3, none⟩ = some (.slice ak T.blocks.length ck)) (by kernel_rfl) ⟨hT4f.1, hT4f.2.1, hT4f.2.2.1, hT4f.2.2.2.1⟩ (fun hH => ?_)
    have qT : BoxT w4.drew _ _ _ _ _ := hT4
    have qz : BoxT w4.drew _ _ _ _ _ := hz4
    have qy : TabY w4.drew _ _ _ _ := hy4
    have qc : DCur W1 w4.drew g := hc4.drewN 1
    clear hT4 hz4 hy4 hc4 hT4f
    revert hH qT qz qy qc
    generalize w4.drew = W0
    intro hH qT qz qy qc
    refine tkA 0 15 hH ?_
    try simp only [Act.put, List.setIfInBounds_toArray, List.set_cons_zero, List.set_cons_succ]
    refine tkA 1 16 hH ?_
    try simp only [Act.put, List.setIfInBounds_toArray, List.set_cons_zero, List.set_cons_succ]
    refine wpAnyH_ready (rs := [2]) (by kernel_rfl) (by simp) ?_
    refine AllReadyH.cons rfl (fun K hK => ?_) AllReadyH.nil
    go_simp
    refine (l3DrawKey_any _ _ g qc).mono ?_
    rintro e w5 ⟨key, rfl, hks, hc5, hg5⟩
    have hz5 := qz.block (hg5.block _ qz.lt (by simp; omega))
    have hT5 := qT.block (hg5.block _ qT.lt (by simp; omega))
    have hy5 := qy.g hg5 hgl
    have hf5 := hT5.facts
    have b5 := b0.trans (hc5.bel.mono (by omega))
    clear qT qz qy qc hg5
    refine hK.out _ _ ⟨hf5.1, hf5.2.1, hf5.2.2.1, hf5.2.2.2.1⟩ (fun hA => ?_)
    clear hK K
    try simp only [Act.put, List.setIfInBounds_toArray, List.set_cons_zero, List.set_cons_succ]
    obtain ⟨z0, z1, z2, z3', f0, f1, f2, f3⟩ := hz5.facts
    have hy6 := hy5.set4 (c := w.heap.size) (by omega) (.string T.first) (.string T.last) (.slice ab T.bits.length cb) (.slice ak T.blocks.length ck) 0 1 2 3
    have hT6 := boxT_other (j := 3) (u := .slice ak T.blocks.length ck) (boxT_other (j := 2) (u := .slice ab T.bits.length cb) (boxT_other (j := 1) (u := .string T.last) (boxT_other (j := 0) (u := .string T.first) hT5 (c := w.heap.size) (by omega)) (c := w.heap.size) (by omega)) (c := w.heap.size) (by omega)) (c := w.heap.size) (by omega)
    have hf6 := hT6.facts
    have z6 := boxT_set4 (f' := T.first) (l' := T.last) (vb' := .slice ab T.bits.length cb) (vk' := .slice ak T.blocks.length ck) hz5
    obtain ⟨x0, x1, x2, x3, _⟩ := z6.facts
    refine wpAnyH_ready (rs := [3]) (by kernel_rfl) (by simp) ?_
    refine AllReadyH.cons rfl (fun K hK => ?_) AllReadyH.nil
    go_simp
    refine hK.out _ _ ⟨hf6.1, hf6.2.1, hf6.2.2.1, hf6.2.2.2.1⟩ (fun hB => ?_)
    clear hK K
    try simp only [Act.put, List.setIfInBounds_toArray, List.set_cons_zero, List.set_cons_succ]
    refine tkA 4 3 hB ?_
    try simp only [Act.put, List.setIfInBounds_toArray, List.set_cons_zero, List.set_cons_succ]
    refine wpAnyH_done (by kernel_rfl) ?_ _
    refine NoPanic.normal ?_
    go_wp2
    exact bodyPost_ret (v := .tuple #[.agg #[.string T.first, .string T.last, .slice ab T.bits.length cb, .slice ak T.blocks.length ck], .string key]) (by simp [results, Try.results19, go_sem, x0, x1, x2, x3]) rfl ⟨T, _, _, key, rfl, by omega, hy6.mono (by omega), below4 b5 (Nat.le_refl _) _ _ _ _ _ _ _ _⟩
set_option maxHeartbeats 1000000 in
set_option maxRecDepth 100000 in
theorem drawFound_any (v : Value) (bs : List UInt8) (w : World) (hr : Rd w v bs) (hb : bs.length ≤ 4096) :
    Calls Try.prog 20 #[v] w fun e w' => FoundD w e w' := by
  have hz := boxT_new w ⟨#[]⟩ ⟨#[]⟩ (.slice none 0 0) (.slice none 0 0)
  have b0 := below1 w (.cells #[.string ⟨#[]⟩, .string ⟨#[]⟩, .slice none 0 0, .slice none 0 0] 41)
  have hr0 := hr.below b0
  have hs0 : (w.alloc (.cells #[.string ⟨#[]⟩, .string ⟨#[]⟩, .slice none 0 0, .slice none 0 0] 41)).heap.size = w.heap.size + 1 := by simp
  go_enter Try.func20, Try.ntmps20
  go_wp2_with fail
  generalize w.alloc (.cells #[.string ⟨#[]⟩, .string ⟨#[]⟩, .slice none 0 0, .slice none 0 0] 41) = W1 at hz b0 hr0 hs0 ⊢
  refine (l1New_any v bs _ hr0 hb).mono ?_
  rintro e w1 ⟨g, rfl, hc1⟩
  have hz1 := hz.below hc1.bel
  have hge := hc1.ge
  have hgl := hc1.lt
  have hs1 := hc1.bel.size
  go_wp2_with fail
  refine (l5DrawAny_any _ _ g hc1).mono ?_
  rintro e w2 ⟨T, vb, vk, rfl, hi2, hk2, hsz, hc2, hg2⟩
  have hz2 := hz1.block (hg2.block _ hz1.lt (by simp; omega))
  have hy2 : TabY w2 w1.heap.size T vb vk := ⟨hi2, hk2, hsz⟩
  obtain ⟨ab, cb, ak, ck, rfl, rfl⟩ := hy2.slices
  have bl := below1 w2 (.cells #[.string T.first, .string T.last, .slice ab T.bits.length cb, .slice ak T.blocks.length ck] 41)
  have hT3 := boxT_new w2 T.first T.last (.slice ab T.bits.length cb) (.slice ak T.blocks.length ck)
  have hz3 := hz2.below bl
  have hy3 := hy2.below bl
  have hc3 := hc2.below bl
  have hwl2 := hz2.lt
  have hs2 : g < w2.heap.size := hc2.lt
  clear hi2 hk2 hsz hz hz1 hc1 hc2 hg2 hr hr0 hz2 hy2 bl
  go_wp2_with fail
  generalize w2.alloc (.cells #[.string T.first, .string T.last, .slice ab T.bits.length cb, .slice ak T.blocks.length ck] 41) = W3 at hT3 hz3 hy3 hc3 ⊢
  have hT3f := hT3.facts
  go_wp2_with fail
  refine wp_region_noPanic ?_
  refine wp_region_held_drew (S := fun W => W.cell? ⟨w2.heap.size, 0, none⟩ = some (.string T.first) ∧ W.cell? ⟨w2.heap.size, 1, none⟩ = some (.string T.last) ∧ W.cell? ⟨w2.heap.size, 2, none⟩ = some (.slice ab T.bits.length cb) ∧ W.cell? ⟨w2.heap.size, 3, none⟩ = some (.slice ak T.blocks.length ck)) (by kernel_rfl) ⟨hT3f.1, hT3f.2.1, hT3f.2.2.1, hT3f.2.2.2.1⟩ (fun hH => ?_)
  have qT : BoxT W3.drew _ _ _ _ _ := hT3
  have qz : BoxT W3.drew _ _ _ _ _ := hz3
  have qy : TabY W3.drew _ _ _ _ := hy3
  have qc : DCur W1 W3.drew g := hc3.drewN 1
  clear hT3 hz3 hy3 hc3 hT3f
  revert hH qT qz qy qc
  generalize W3.drew = W0
  intro hH qT qz qy qc
  refine tkA 0 11 hH ?_
  try simp only [Act.put, List.setIfInBounds_toArray, List.set_cons_zero, List.set_cons_succ]
  refine tkA 1 12 hH ?_
  try simp only [Act.put, List.setIfInBounds_toArray, List.set_cons_zero, List.set_cons_succ]
  refine tkA 3 14 hH ?_
  try simp only [Act.put, List.setIfInBounds_toArray, List.set_cons_zero, List.set_cons_succ]
  refine wpAnyH_ready (rs := [2]) (by kernel_rfl) (by simp) ?_
  refine AllReadyH.cons rfl (fun K hK => ?_) AllReadyH.nil
  go_simp
  refine (l3DrawKey_any _ _ g qc).mono ?_
  rintro e w5 ⟨key, rfl, hks, hc5, hg5⟩
  have hz5 := qz.block (hg5.block _ qz.lt (by simp; omega))
  have hT5 := qT.block (hg5.block _ qT.lt (by simp; omega))
  have hy5 := qy.g hg5 hgl
  have hf5 := hT5.facts
  have b5 := b0.trans (hc5.bel.mono (by omega))
  clear qT qz qy qc hg5
  refine hK.out _ _ ⟨hf5.1, hf5.2.1, hf5.2.2.1, hf5.2.2.2.1⟩ (fun hA => ?_)
  clear hK K
  try simp only [Act.put, List.setIfInBounds_toArray, List.set_cons_zero, List.set_cons_succ]
  refine wpAnyH_ready (rs := [4]) (by kernel_rfl) (by simp) ?_
  refine AllReadyH.cons rfl (fun K hK => ?_) AllReadyH.nil
  go_simp
  refine (l1From_any _ _ g (-1) 40 hc5 (by omega) (by omega) (by omega)).mono ?_
  rintro e w6 ⟨q, rfl, hq0, hq1, hc6, hg6⟩
  have hz6 := hz5.block (hg6.block _ hz5.lt (by simp; omega))
  have hT6 := hT5.block (hg6.block _ hT5.lt (by simp; omega))
  have hy6 := hy5.g hg6 hgl
  have hf6 := hT6.facts
  have b6 := b0.trans (hc6.bel.mono (by omega))
  clear hT5 hz5 hy5 hc5 hf5 b5 hg6
  refine hK.out _ _ ⟨hf6.1, hf6.2.1, hf6.2.2.1, hf6.2.2.2.1⟩ (fun hA => ?_)
  clear hK K
  try simp only [Act.put, List.setIfInBounds_toArray, List.set_cons_zero, List.set_cons_succ]
  obtain ⟨z0, z1, z2, z3', f0, f1, f2, f3⟩ := hz6.facts
  have hy7 := hy6.set4 (c := w.heap.size) (by omega) (.string T.first) (.string T.last) (.slice ab T.bits.length cb) (.slice ak T.blocks.length ck) 0 1 2 3
  have hT7 := boxT_other (j := 3) (u := .slice ak T.blocks.length ck) (boxT_other (j := 2) (u := .slice ab T.bits.length cb) (boxT_other (j := 1) (u := .string T.last) (boxT_other (j := 0) (u := .string T.first) hT6 (c := w.heap.size) (by omega)) (c := w.heap.size) (by omega)) (c := w.heap.size) (by omega)) (c := w.heap.size) (by omega)
  have hf7 := hT7.facts
  have z7 := boxT_set4 (f' := T.first) (l' := T.last) (vb' := .slice ab T.bits.length cb) (vk' := .slice ak T.blocks.length ck) hz6
  obtain ⟨x0, x1, x2, x3, _⟩ := z7.facts
  refine wpAnyH_ready (rs := [5]) (by kernel_rfl) (by simp) ?_
  refine AllReadyH.cons rfl (fun K hK => ?_) AllReadyH.nil
  go_simp
  refine hK.out _ _ ⟨hf7.1, hf7.2.1, hf7.2.2.1, hf7.2.2.2.1⟩ (fun hB => ?_)
  clear hK K
  try simp only [Act.put, List.setIfInBounds_toArray, List.set_cons_zero, List.set_cons_succ]
  refine tkA 6 3 hB ?_
  try simp only [Act.put, List.setIfInBounds_toArray, List.set_cons_zero, List.set_cons_succ]
  refine tkA 7 4 hB ?_
  try simp only [Act.put, List.setIfInBounds_toArray, List.set_cons_zero, List.set_cons_succ]
  refine wpAnyH_done (by kernel_rfl) ?_ _
  refine NoPanic.normal ?_
  go_wp2
  exact bodyPost_ret (v := .tuple #[.agg #[.string T.first, .string T.last, .slice ab T.bits.length cb, .slice ak T.blocks.length ck], .string key, .int .i64 q]) (by simp [results, Try.results20, go_sem, x0, x1, x2, x3]) rfl ⟨T, _, _, key, q, rfl, by omega, hq0, hq1, hy7.mono (by omega), below4 b6 (Nat.le_refl _) _ _ _ _ _ _ _ _⟩
set_option maxHeartbeats 1000000 in
set_option maxRecDepth 100000 in
theorem drawBuilt_any (v : Value) (bs : List UInt8) (w : World) (hr : Rd w v bs) (hb : bs.length ≤ 4096) :
    Calls Try.prog 17 #[v] w fun e w' => DrawnE w e w' := by
  go_enter Try.func17, Try.ntmps17
  go_wp2_with fail
  refine (drawEntriesOk_any v bs w hr hb).mono ?_
  rintro e w1 ⟨vL, es, rfl, ho, hl, hsm, hb1⟩
  have HS : Hid (∀ x ∈ es, Small x) := hsm
  clear hsm
  go_wp2
  go_ret
  exact ⟨_, es, rfl, ho, hl, HS.out, hb1⟩
end Go.Proofs.Ythaobdknpgnapaa
