/- The contract of the model's l14Next. -/
-- UNF Gen
import Derived.Test.YteohiicaiilicaaOffTak
import Derived.Test.YteohiicaiilicaaOffCp
import Derived.Test.YteohiicaiilicaaOffSpc
namespace Go.Proofs.Yteohiicaiilicaa
open Go.RowKit
theorem rdO_takeO {w : World} {b off n m cap : Nat} {es : List Off} (hl : es.length = n) (hm : m ≤ n) (h1 : n ≤ cap) (h2 : cap ≤ maxLen) (hc : ∀ i, i < es.length → OffAt w b (off + i * 2) (nthO es i)) : RdO w (.slice (some ⟨b, off, none⟩) m cap) (es.take m) := by
  have hlt : (es.take m).length = m := by rw [List.length_take]; omega
  refine ⟨_, cap, by rw [hlt], by omega, h2, (fun h => by cases h), .inr ⟨b, off, rfl, fun i hi => ?_⟩⟩
  rw [nthO_take (by omega) (by omega)]
  exact hc i (by omega)
/-- What the model's l14Next tells. -/
def NxSRes (es : List Off) (w : World) (e : Ending) (w' : World) : Prop :=
  ∃ a n cap, e = .returned (.tuple #[.agg #[.int .i64 (nthO es 0).fee, .string (nthO es 0).text], .slice a n cap]) ∧ OwnO w' w.heap.size (.slice a n cap) (nxtL es) ∧ Below w.heap.size w w'
/-- The first one is stored in the answer's box, and nothing else changes. -/
theorem nxS_end {es ys : List Off} {w W : World} {f : Off} {N M n cap : Nat} {a : Option Addr} (hf : f = nthO es 0) (hN : N = w.heap.size) (hM : N < M) (hy : ys = nxtL es) (ho : OwnO W M (.slice a n cap) ys) (hz : W.heap[N]? = some (.cells #[.int .i64 0, .string ⟨#[]⟩] 26 (0, 0))) (hb : Below w.heap.size w W) :
    ((W.setCell ⟨N, 0, none⟩ (.int .i64 f.fee)).setCell ⟨N, 1, none⟩ (.string f.text)).cell? ⟨N, 0, none⟩ = some (.int .i64 f.fee) ∧ ((W.setCell ⟨N, 0, none⟩ (.int .i64 f.fee)).setCell ⟨N, 1, none⟩ (.string f.text)).cell? ⟨N, 1, none⟩ = some (.string f.text) ∧
    NxSRes es w (.returned (.tuple #[.agg #[.int .i64 f.fee, .string f.text], .slice a n cap])) ((W.setCell ⟨N, 0, none⟩ (.int .i64 f.fee)).setCell ⟨N, 1, none⟩ (.string f.text)) := by
  have h4 := box2O (put2O (u0 := .int .i64 f.fee) (u1 := .string f.text) hz)
  have hk : OwnO ((W.setCell ⟨N, 0, none⟩ (.int .i64 f.fee)).setCell ⟨N, 1, none⟩ (.string f.text)) M (.slice a n cap) ys := ownO_kept ho (fun k hk' => by
    have := (World.ownsRow.lt ho k hk').1
    exact (heap_setCell_other _ _ _ _ (by simp; omega)).trans (heap_setCell_other _ _ _ _ (by simp; omega)))
  refine ⟨h4.1, h4.2.1, a, n, cap, by rw [hf], ?_, (hb.setCell (by show _ ≤ N; omega) _).setCell (by show _ ≤ N; omega) _⟩
  rw [← hy]
  exact hk.mono (by omega)
set_option maxHeartbeats 8000000 in
set_option maxRecDepth 100000 in
theorem l14Next_any (v : Value) (es : List Off) (m : Nat) (w : World) (hr : RdO w v es) (hl : es.length = m + 1) (hm : m < 50) :
    Calls Try.prog 49 #[v] w fun e w' => NxSRes es w e w' := by
  obtain ⟨a, cap, hv, hcl, hcm, -, h3⟩ := id hr
  subst hv
  rcases h3 with rfl | ⟨b, off, rfl, hc⟩
  · simp at hl
  have hb := (hc 0 (by omega)).lt
  have hr2 : RdO w (.slice (some ⟨b, off, none⟩) m cap) (es.take m) := rdO_takeO hl (by omega) (by omega) hcm hc
  obtain ⟨c0, c1⟩ := hc 0 (by omega)
  obtain ⟨d0, d1⟩ := hc m (by omega)
  obtain ⟨f, hf⟩ : ∃ f, f = nthO es 0 := ⟨_, rfl⟩
  obtain ⟨x, hx⟩ : ∃ x, x = nthO es m := ⟨_, rfl⟩
  rw [← hf] at c0 c1
  rw [← hx] at d0 d1
  rw [Nat.zero_mul, Nat.add_zero] at c0 c1
  rw [hl] at hcl ⊢
  unfold maxLen at hcm
  have hwm : IntKind.i64.wrap (m : Int) = (m : Int) := by rw [IntKind.wrap_i64]; omega
  have HF : Hid (f = nthO es 0) := hf
  have HNX : Hid (nxtL es = dnL ((es.take m).set 0 x) m 0) := by unfold Hid nxtL; rw [hl, Nat.add_sub_cancel, ← hx]
  have htl : (es.take m).length = m := by rw [List.length_take]; omega
  have b1 := below1 w (.cells #[.int .i64 0, .string ⟨#[]⟩] 26)
  have b2 := b1.alloc b1.size (.cells #[.int .i64 f.fee, .string f.text] 26)
  have b3 := b2.alloc b2.size (.cells #[.int .i64 x.fee, .string x.text] 26)
  have hoi := ownO_none (((w.alloc (.cells #[.int .i64 0, .string ⟨#[]⟩] 26)).alloc (.cells #[.int .i64 f.fee, .string f.text] 26)).alloc (.cells #[.int .i64 x.fee, .string x.text] 26))
  have s3 : (((w.alloc (.cells #[.int .i64 0, .string ⟨#[]⟩] 26)).alloc (.cells #[.int .i64 f.fee, .string f.text] 26)).alloc (.cells #[.int .i64 x.fee, .string x.text] 26)).heap.size = w.heap.size + 1 + 1 + 1 := by simp
  rw [s3] at hoi
  have b4 := b3.alloc b3.size (.cells #[] 26)
  have hr4 := hr2.below b4
  have hz4 : ((((w.alloc (.cells #[.int .i64 0, .string ⟨#[]⟩] 26)).alloc (.cells #[.int .i64 f.fee, .string f.text] 26)).alloc (.cells #[.int .i64 x.fee, .string x.text] 26)).alloc (.cells #[] 26)).heap[w.heap.size]? = some (.cells #[.int .i64 0, .string ⟨#[]⟩] 26 (0, 0)) :=
    (((below1 _ _).block _ (by simp; omega)).trans (((below1 _ _).block _ (by simp; omega)).trans ((below1 _ _).block _ (by simp)))).trans (alloc_at w _)
  have hf4 : OffAt ((((w.alloc (.cells #[.int .i64 0, .string ⟨#[]⟩] 26)).alloc (.cells #[.int .i64 f.fee, .string f.text] 26)).alloc (.cells #[.int .i64 x.fee, .string x.text] 26)).alloc (.cells #[] 26)) (w.heap.size + 1) 0 f := by
    have h := ((offAt_new (w.alloc (.cells #[.int .i64 0, .string ⟨#[]⟩] 26)) f 26).below (below1 _ (.cells #[.int .i64 x.fee, .string x.text] 26))).below (below1 _ (.cells #[] 26))
    simpa using h
  have hx4 : OffAt ((((w.alloc (.cells #[.int .i64 0, .string ⟨#[]⟩] 26)).alloc (.cells #[.int .i64 f.fee, .string f.text] 26)).alloc (.cells #[.int .i64 x.fee, .string x.text] 26)).alloc (.cells #[] 26)) (w.heap.size + 1 + 1) 0 x := by
    have h := (offAt_new ((w.alloc (.cells #[.int .i64 0, .string ⟨#[]⟩] 26)).alloc (.cells #[.int .i64 f.fee, .string f.text] 26)) x 26).below (below1 _ (.cells #[] 26))
    simpa using h
  clear hf hx hc b1 b2 b3 hr hr2 hl s3
  go_enter Try.func49, Try.ntmps49
  go_wp2_with (at_builtin; (refine wpList_append_offs rfl _ _ rfl (w.heap.size + 1 + 1 + 1) _ _ [] (es.take m) rfl rfl hoi hr4 (by simp; omega) (by simp) ?_))
  intro u w5 ho5 hg
  have hgb : ∀ k, k < w.heap.size + 1 + 1 + 1 → w5.heap[k]? = ((((w.alloc (.cells #[.int .i64 0, .string ⟨#[]⟩] 26)).alloc (.cells #[.int .i64 f.fee, .string f.text] 26)).alloc (.cells #[.int .i64 x.fee, .string x.text] 26)).alloc (.cells #[] 26)).heap[k]? := fun k hk => hg.block k (by simp; omega) (fun e => by have : w.heap.size + 1 + 1 + 1 = k := (Option.some.inj e).symm; omega)
  have hz5 := (hgb _ (by omega)).trans hz4
  have hf5 := hf4.of_block (hgb _ (by omega))
  have hx5 := hx4.of_block (hgb _ (by omega))
  have b5 : Below w.heap.size w w5 := b4.grown hg b4.size (fun k hk => by have : w.heap.size + 1 + 1 + 1 = k := Option.some.inj hk; omega)
  obtain ⟨za, zn, zc, rfl⟩ := rdO_slice ho5.rd
  obtain ⟨hzn, hzl, hzm, hzg⟩ := ownO_shape ho5
  rw [htl] at hzn
  replace hzn := hzn.symm
  subst hzn
  clear hgb hg hz4 hf4 hx4 hoi hr4 b4 c0 c1 d0 d1
  obtain ⟨N, hN⟩ : ∃ N, N = w.heap.size := ⟨_, rfl⟩
  obtain ⟨Nf, hNf⟩ : ∃ N, N = w.heap.size + 1 := ⟨_, rfl⟩
  obtain ⟨Nx, hNx⟩ : ∃ N, N = w.heap.size + 1 + 1 := ⟨_, rfl⟩
  obtain ⟨M, hM⟩ : ∃ N, N = w.heap.size + 1 + 1 + 1 := ⟨_, rfl⟩
  rw [← hM] at ho5
  rw [← hNx] at hx5 ⊢
  rw [← hNf] at hf5 ⊢
  rw [← hN] at hz5 ⊢
  have HNN : Hid (N = w.heap.size) := hN
  have hq1 : N < Nf := by omega
  have hq2 : Nf < Nx := by omega
  have hq3 : Nx < M := by omega
  clear hM hNx hNf hN
  have HEND : Hid (∀ ys W, OwnO W M (.slice za m zc) ys → W.heap[N]? = some (.cells #[.int .i64 0, .string ⟨#[]⟩] 26 (0, 0)) → Below w.heap.size w W → ys = nxtL es → (((W.setCell ⟨N, 0, none⟩ (.int .i64 f.fee)).setCell ⟨N, 1, none⟩ (.string f.text)).cell? ⟨N, 0, none⟩ = some (.int .i64 f.fee) ∧ ((W.setCell ⟨N, 0, none⟩ (.int .i64 f.fee)).setCell ⟨N, 1, none⟩ (.string f.text)).cell? ⟨N, 1, none⟩ = some (.string f.text) ∧ NxSRes es w (.returned (.tuple #[.agg #[.int .i64 f.fee, .string f.text], .slice za m zc])) ((W.setCell ⟨N, 0, none⟩ (.int .i64 f.fee)).setCell ⟨N, 1, none⟩ (.string f.text)))) := fun ys W h1 h2 h3 h4 => nxS_end HF.out HNN.out (by omega) h4 h1 h2 h3
  clear HF
  by_cases hm0 : m = 0
  · subst hm0
    have HE := HEND.out _ w5 ho5 hz5 b5 (by rw [HNX.out, dnL_end (by omega)]; simp)
    obtain ⟨x0, x1, he⟩ := HE
    have HE : Hid (NxSRes _ _ _ _) := he
    obtain ⟨e0, e1⟩ := hf5
    have e1' : w5.cell? ⟨Nf, 1, none⟩ = some (.string f.text) := e1
    obtain ⟨z0, z1, g0, g1⟩ := box2O hz5
    clear he ho5 hz5 b5 hx5 e1
    go_wp2
    exact bodyPost_ret (v := .tuple #[.agg #[.int .i64 f.fee, .string f.text], .slice za 0 zc]) (by simp [results, Try.results49, go_sem, x0, x1]) rfl HE.out
  obtain ⟨g, rfl⟩ := hzg (by omega)
  have hgM : M ≤ g := (World.ownsRow.lt ho5 g rfl).1
  have hos := ho5
  unfold OwnO at hos
  rw [htl] at hos
  obtain ⟨d0, d1⟩ := ownO_cell hos htl.symm 0 (by omega)
  rw [Nat.zero_mul] at d0 d1
  have d1' : w5.cell? ⟨g, 1, none⟩ = some (.string (nthO (es.take m) 0).text) := d1
  generalize nthO (es.take m) 0 = cz at d0 d1 d1'
  have f1 := World.ownsRow.frozenAt hos 0
  have f2 := World.ownsRow.frozenAt hos 1
  obtain ⟨e0, e1⟩ := id hx5
  have e1' : w5.cell? ⟨Nx, 1, none⟩ = some (.string x.text) := e1
  have HR : Hid (OwnO ((w5.setCell ⟨g, 0, none⟩ (.int .i64 x.fee)).setCell ⟨g, 1, none⟩ (.string x.text)) M (.slice (some ⟨g, 0, none⟩) m zc) ((es.take m).set 0 x) ∧ OffAt ((w5.setCell ⟨g, 0, none⟩ (.int .i64 x.fee)).setCell ⟨g, 1, none⟩ (.string x.text)) Nx 0 x ∧ OffAt ((w5.setCell ⟨g, 0, none⟩ (.int .i64 x.fee)).setCell ⟨g, 1, none⟩ (.string x.text)) Nf 0 f ∧ ((w5.setCell ⟨g, 0, none⟩ (.int .i64 x.fee)).setCell ⟨g, 1, none⟩ (.string x.text)).heap[N]? = some (.cells #[.int .i64 0, .string ⟨#[]⟩] 26 (0, 0)) ∧ Below w.heap.size w ((w5.setCell ⟨g, 0, none⟩ (.int .i64 x.fee)).setCell ⟨g, 1, none⟩ (.string x.text))) := by
    have hwg : w.heap.size ≤ g := by have := HNN.out; omega
    have r1 := ownO_store2 hos (k := 0) (by omega) x
    rw [Nat.zero_mul, Nat.zero_add] at r1
    have hoth : ∀ q, q < g → ((w5.setCell ⟨g, 0, none⟩ (.int .i64 x.fee)).setCell ⟨g, 1, none⟩ (.string x.text)).heap[q]? = w5.heap[q]? := fun q hq => by
      rw [heap_setCell_other _ _ _ _ (by simp; omega), heap_setCell_other _ _ _ _ (by simp; omega)]
    refine ⟨?_, hx5.of_block (hoth _ (by omega)), hf5.of_block (hoth _ (by omega)), (hoth _ (by omega)).trans hz5, (b5.setCell hwg _).setCell hwg _⟩
    unfold OwnO
    rw [List.length_set, htl]
    exact r1
  have hgx : ¬ Nx = g := by omega
  have hl0 : ((es.take m).set 0 x).length = m := by rw [List.length_set]; exact htl
  have HN0 : Hid (nthO ((es.take m).set 0 x) 0 = x) := nthO_set_same (by omega) x
  generalize (es.take m).set 0 x = es0 at HR hl0 HN0 HNX
  have hm0b : ((m : Int) == 0) = false := by simp; omega
  have hzi : (0 : Int) < (m : Int) := by omega
  unfold maxLen at hzm
  clear hos ho5 hx5 hf5 hz5 b5 e1 htl d1
  go_wp2
  go_loopw [8] (fun jv wr => ∃ (i : Nat) (es1 : List Off), jv = .int .i64 i ∧ i < m ∧ es1.length = m ∧ OwnO wr M (.slice (some ⟨g, 0, none⟩) m zc) es1 ∧ Hid (nthO es1 i = x) ∧ Hid (dnL es1 m i = nxtL es) ∧ OffAt wr Nx 0 x ∧ OffAt wr Nf 0 f ∧ wr.heap[N]? = some (.cells #[.int .i64 0, .string ⟨#[]⟩] 26 (0, 0)) ∧ Below w.heap.size w wr) (fun jv _ => m - (intOf jv).toNat)
  case atStart => exact ⟨0, es0, rfl, by omega, hl0, HR.out.1, HN0, HNX.out.symm, HR.out.2.1, HR.out.2.2.1, HR.out.2.2.2.1, HR.out.2.2.2.2⟩
  case round =>
    obtain ⟨i, es1, rfl, him, hel, ho1, HNI, HU, hx1, hf1, hz1, hb1⟩ := hrel
    clear HR hl0 HN0 HNX d0 d1' f1 f2 e0 e1' hgx
    have hzl1 : N < wr.heap.size := by have := hf1.lt; omega
    have hos := ho1
    unfold OwnO at hos
    rw [hel] at hos
    obtain ⟨p, hp⟩ : ∃ p, p = 2 * i := ⟨_, rfl⟩
    obtain ⟨k0, hk0⟩ : ∃ k, k = 2 * i + 1 := ⟨_, rfl⟩
    obtain ⟨k1, hk1⟩ : ∃ k, k = 2 * i + 2 := ⟨_, rfl⟩
    have HK0 : Hid (k0 = 2 * i + 1) := hk0
    have HK1 : Hid (k1 = 2 * i + 2) := hk1
    have e1 : 2 * (i : Int) = (p : Int) := by omega
    have e2 : (p : Int) + 1 = (k0 : Int) := by omega
    have e3 : (k0 : Int) + 1 = (k1 : Int) := by omega
    have v1 : IntKind.i64.wrap (p : Int) = (p : Int) := by rw [IntKind.wrap_i64]; omega
    have v2 : IntKind.i64.wrap (k0 : Int) = (k0 : Int) := by rw [IntKind.wrap_i64]; omega
    have v3 : IntKind.i64.wrap (k1 : Int) = (k1 : Int) := by rw [IntKind.wrap_i64]; omega
    have n0 : (0 : Int) ≤ (k0 : Int) := by omega
    have n1 : (0 : Int) ≤ (k1 : Int) := by omega
    by_cases hlt : k1 < m
    · have hkp : decide (k1 < m) = true := by simp; omega
      have hk0m : k0 < m := by omega
      have hki1 : (k1 : Int) < (m : Int) := by omega
      have hki0 : (k0 : Int) < (m : Int) := by omega
      obtain ⟨y1, hy1⟩ : ∃ y, y = nthO es1 k1 := ⟨_, rfl⟩
      obtain ⟨y0, hy0⟩ : ∃ y, y = nthO es1 k0 := ⟨_, rfl⟩
      obtain ⟨d0, d1⟩ := ownO_cell hos hel.symm k1 hlt
      obtain ⟨c0, c1⟩ := ownO_cell hos hel.symm k0 hk0m
      rw [← hy1] at d0 d1
      rw [← hy0] at c0 c1
      obtain ⟨B, hB⟩ : ∃ B, B = ahO y1 y0 := ⟨_, rfl⟩
      have HCB : Hid (∀ W, Calls Try.prog 45 #[.agg #[.int .i64 y1.fee, .string y1.text], .agg #[.int .i64 y0.fee, .string y0.text]] W fun e w' => e = .returned (.bool B) ∧ Below W.heap.size W w') := fun W => by rw [hB]; exact l14Ahead_any y1 y0 W
      have HB : Hid (ahO (nthO es1 (2 * i + 2)) (nthO es1 (2 * i + 1)) = B) := by unfold Hid; rw [← HK1.out, ← HK0.out, ← hy1, ← hy0]; exact hB.symm
      clear hp hk0 hk1 hy1 hy0 hB
      go_wp2_with fail
      refine wp_region_noPanic ?_
      refine wp_region_held_drew (S := fun w' => (w'.cell? ⟨g, k1 * 2, none⟩ = some (.int .i64 y1.fee) ∧ w'.cell? ⟨g, k1 * 2 + 1, none⟩ = some (.string y1.text)) ∧ (w'.cell? ⟨g, k0 * 2, none⟩ = some (.int .i64 y0.fee) ∧ w'.cell? ⟨g, k0 * 2 + 1, none⟩ = some (.string y0.text))) (by kernel_rfl) ⟨⟨d0, d1⟩, ⟨c0, c1⟩⟩ (fun hH => ?_)
      refine tkG 0 35 hH ?_
      try simp only [Act.put, List.setIfInBounds_toArray, List.set_cons_zero, List.set_cons_succ]
      refine tkG 1 36 hH ?_
      try simp only [Act.put, List.setIfInBounds_toArray, List.set_cons_zero, List.set_cons_succ]
      refine tkG 2 37 hH ?_
      try simp only [Act.put, List.setIfInBounds_toArray, List.set_cons_zero, List.set_cons_succ]
      refine tkG 3 38 hH ?_
      try simp only [Act.put, List.setIfInBounds_toArray, List.set_cons_zero, List.set_cons_succ]
      refine tkG 4 39 hH ?_
      try simp only [Act.put, List.setIfInBounds_toArray, List.set_cons_zero, List.set_cons_succ]
      refine tkG 5 40 hH ?_
      try simp only [Act.put, List.setIfInBounds_toArray, List.set_cons_zero, List.set_cons_succ]
      refine tkG 6 41 hH ?_
      try simp only [Act.put, List.setIfInBounds_toArray, List.set_cons_zero, List.set_cons_succ]
      refine tkG 7 42 hH ?_
      try simp only [Act.put, List.setIfInBounds_toArray, List.set_cons_zero, List.set_cons_succ]
      refine tkG 8 43 hH ?_
      try simp only [Act.put, List.setIfInBounds_toArray, List.set_cons_zero, List.set_cons_succ]
      refine tkG 9 44 hH ?_
      try simp only [Act.put, List.setIfInBounds_toArray, List.set_cons_zero, List.set_cons_succ]
      refine tkG 10 45 hH ?_
      try simp only [Act.put, List.setIfInBounds_toArray, List.set_cons_zero, List.set_cons_succ]
      refine tkG 11 46 hH ?_
      try simp only [Act.put, List.setIfInBounds_toArray, List.set_cons_zero, List.set_cons_succ]
      refine tkG 12 47 hH ?_
      try simp only [Act.put, List.setIfInBounds_toArray, List.set_cons_zero, List.set_cons_succ]
      refine tkG 13 48 hH ?_
      try simp only [Act.put, List.setIfInBounds_toArray, List.set_cons_zero, List.set_cons_succ]
      refine wpAnyH_ready (rs := [14]) (by kernel_rfl) (by simp) ?_
      refine AllReadyH.cons rfl (fun K hK => ?_) AllReadyH.nil
      go_simp
      refine (HCB.out _).mono ?_
      rintro e wq ⟨rfl, hbq⟩
      refine hK.out _ _ ⟨OffAt.below (w := wr.drew) (e := y1) hH.1 hbq, OffAt.below (w := wr.drew) (e := y0) hH.2 hbq⟩ (fun hB => ?_)
      clear hK K
      try simp only [Act.put, List.setIfInBounds_toArray, List.set_cons_zero, List.set_cons_succ]
      refine tkG 15 50 hB ?_
      try simp only [Act.put, List.setIfInBounds_toArray, List.set_cons_zero, List.set_cons_succ]
      refine wpAnyH_done (by kernel_rfl) ?_ _
      refine NoPanic.normal ?_
      replace hb1 := hb1.drew.trans (hbq.mono hb1.size)
      replace hx1 : OffAt wq Nx 0 x := OffAt.below (w := wr.drew) hx1 hbq
      replace hf1 : OffAt wq Nf 0 f := OffAt.below (w := wr.drew) hf1 hbq
      replace hz1 := (hbq.block N hzl1).trans hz1
      replace ho1 : OwnO wq M (.slice (some ⟨g, 0, none⟩) m zc) es1 := OwnO.below (w := wr.drew) ho1 hbq
      replace hzl1 : N < wq.heap.size := Nat.lt_of_lt_of_le hzl1 hbq.size
      have hos := ho1
      unfold OwnO at hos
      rw [hel] at hos
      clear hH hB hbq d0 d1 c0 c1
      cases B with
      | true =>
        have HK : Hid (k1 = kid es1 m i) := by unfold Hid kid; rw [if_pos ⟨by have := HK1.out; omega, HB.out⟩]; exact HK1.out
        have hkm := hlt
        clear HB HCB hki1 hki0 hkp
        obtain ⟨y, hy⟩ : ∃ y, y = nthO es1 k1 := ⟨_, rfl⟩
        have HY : Hid (y = nthO es1 k1) := hy
        obtain ⟨d0, d1⟩ := ownO_cell hos hel.symm k1 hkm
        rw [← hy] at d0 d1
        clear hy
        obtain ⟨b0, b1⟩ := id hx1
        have HCA : Hid (∀ W, Calls Try.prog 45 #[.agg #[.int .i64 y.fee, .string y.text], .agg #[.int .i64 x.fee, .string x.text]] W fun e w' => e = .returned (.bool (ahO y x)) ∧ Below W.heap.size W w') := fun W => l14Ahead_any y x W
        obtain ⟨A, hA⟩ : ∃ A, A = ahO y x := ⟨_, rfl⟩
        have HA : Hid (ahO (nthO es1 k1) (nthO es1 i) = A) := by unfold Hid; rw [HNI.out, ← HY.out]; exact hA.symm
        rw [← hA] at HCA
        clear hA
        have hgn : decide (m ≤ k1) = false := by simp; omega
        have hki : (k1 : Int) < (m : Int) := by omega
        go_wp2_with fail
        refine wp_region_noPanic ?_
        refine wp_region_held_drew (S := fun w' => (w'.cell? ⟨g, k1 * 2, none⟩ = some (.int .i64 y.fee) ∧ w'.cell? ⟨g, k1 * 2 + 1, none⟩ = some (.string y.text)) ∧ (w'.cell? ⟨Nx, 0, none⟩ = some (.int .i64 x.fee) ∧ w'.cell? ⟨Nx, 0 + 1, none⟩ = some (.string x.text))) (by kernel_rfl) ⟨⟨d0, d1⟩, ⟨b0, b1⟩⟩ (fun hH => ?_)
        refine tkG 0 53 hH ?_
        try simp only [Act.put, List.setIfInBounds_toArray, List.set_cons_zero, List.set_cons_succ]
        refine tkG 1 54 hH ?_
        try simp only [Act.put, List.setIfInBounds_toArray, List.set_cons_zero, List.set_cons_succ]
        refine tkG 2 55 hH ?_
        try simp only [Act.put, List.setIfInBounds_toArray, List.set_cons_zero, List.set_cons_succ]
        refine tkG 3 56 hH ?_
        try simp only [Act.put, List.setIfInBounds_toArray, List.set_cons_zero, List.set_cons_succ]
        refine tkG 4 57 hH ?_
        try simp only [Act.put, List.setIfInBounds_toArray, List.set_cons_zero, List.set_cons_succ]
        refine tkG 5 58 hH ?_
        try simp only [Act.put, List.setIfInBounds_toArray, List.set_cons_zero, List.set_cons_succ]
        refine tkG 6 59 hH ?_
        try simp only [Act.put, List.setIfInBounds_toArray, List.set_cons_zero, List.set_cons_succ]
        refine tkG 7 60 hH ?_
        try simp only [Act.put, List.setIfInBounds_toArray, List.set_cons_zero, List.set_cons_succ]
        refine tkG 8 61 hH ?_
        try simp only [Act.put, List.setIfInBounds_toArray, List.set_cons_zero, List.set_cons_succ]
        refine wpAnyH_ready (rs := [9]) (by kernel_rfl) (by simp) ?_
        refine AllReadyH.cons rfl (fun K hK => ?_) AllReadyH.nil
        go_simp
        refine (HCA.out _).mono ?_
        rintro e w2 ⟨rfl, hb2⟩
        refine hK.out _ _ ⟨OffAt.below (w := wq.drew) (e := y) hH.1 hb2, OffAt.below (w := wq.drew) (e := x) hH.2 hb2⟩ (fun hB => ?_)
        clear hK K
        try simp only [Act.put, List.setIfInBounds_toArray, List.set_cons_zero, List.set_cons_succ]
        refine tkG 10 63 hB ?_
        try simp only [Act.put, List.setIfInBounds_toArray, List.set_cons_zero, List.set_cons_succ]
        refine tkG 11 64 hB ?_
        try simp only [Act.put, List.setIfInBounds_toArray, List.set_cons_zero, List.set_cons_succ]
        refine wpAnyH_done (by kernel_rfl) ?_ _
        refine NoPanic.normal ?_
        have bz := hb1.drew.trans (hb2.mono hb1.size)
        have hx2 : OffAt w2 Nx 0 x := OffAt.below (w := wq.drew) hx1 hb2
        have hf2 : OffAt w2 Nf 0 f := OffAt.below (w := wq.drew) hf1 hb2
        have hz2 := (hb2.block N hzl1).trans hz1
        have ho2 : OwnO w2 M (.slice (some ⟨g, 0, none⟩) m zc) es1 := OwnO.below (w := wq.drew) ho1 hb2
        clear hH hB b0 b1 d0 d1 hb1 hb2 hx1 hf1 hz1 ho1 hos hzl1
        cases A with
        | false =>
          obtain ⟨b0, b1⟩ := id hf2
          obtain ⟨z0, z1, g0, g1⟩ := box2O hz2
          have b1' : w2.cell? ⟨Nf, 1, none⟩ = some (.string f.text) := b1
          have HE := HEND.out _ w2 ho2 hz2 bz ((dnL_stop HK.out HA.out).symm.trans HU.out)
          clear ho2 hz2 bz hx2 hf2 b1
          obtain ⟨x0, x1, he⟩ := HE
          have HE : Hid (NxSRes _ _ _ _) := he
          clear he
          go_wp2
          exact bodyPost_ret (v := .tuple #[.agg #[.int .i64 f.fee, .string f.text], .slice (some ⟨g, 0, none⟩) m zc]) (by simp [results, Try.results49, go_sem, x0, x1]) rfl HE.out
        | true =>
          have HU2 : Hid (dnL (swO es1 i k1) m k1 = nxtL es) := by
            have h := HU.out
            rw [dnL_go HK.out hkm HA.out] at h
            exact h
          have hik : ¬ i = k1 := by have := kid_gt es1 m i; have := HK.out; omega
          have hki2 : ¬ k1 = i := fun e => hik e.symm
          have hlt2 : i < k1 := by have := kid_gt es1 m i; have := HK.out; omega
          have HNI2 : Hid (nthO (swO es1 i k1) k1 = x) := by unfold Hid; rw [nthO_sw (by omega), if_pos rfl]; exact HNI.out
          have hos := ho2
          unfold OwnO at hos
          rw [hel] at hos
          obtain ⟨d0, d1⟩ := ownO_cell hos hel.symm k1 hkm
          obtain ⟨c0, c1⟩ := ownO_cell hos hel.symm i him
          rw [← HY.out] at d0 d1
          generalize hcx : nthO es1 i = cx at c0 c1
          have f1 := World.ownsRow.frozenAt hos (i * 2)
          have f2 := World.ownsRow.frozenAt hos (i * 2 + 1)
          have f3 := World.ownsRow.frozenAt hos (k1 * 2)
          have f4 := World.ownsRow.frozenAt hos (k1 * 2 + 1)
          obtain ⟨e0, e1⟩ := id hx2
          have e1' : w2.cell? ⟨Nx, 1, none⟩ = some (.string x.text) := e1
          have hgx : ¬ Nx = g := by omega
          have hxg : ¬ g = Nx := by omega
          have HR : Hid (OwnO ((((w2.setCell ⟨g, i * 2, none⟩ (.int .i64 y.fee)).setCell ⟨g, i * 2 + 1, none⟩ (.string y.text)).setCell ⟨g, k1 * 2, none⟩ (.int .i64 x.fee)).setCell ⟨g, k1 * 2 + 1, none⟩ (.string x.text)) M (.slice (some ⟨g, 0, none⟩) m zc) (swO es1 i k1) ∧ OffAt ((((w2.setCell ⟨g, i * 2, none⟩ (.int .i64 y.fee)).setCell ⟨g, i * 2 + 1, none⟩ (.string y.text)).setCell ⟨g, k1 * 2, none⟩ (.int .i64 x.fee)).setCell ⟨g, k1 * 2 + 1, none⟩ (.string x.text)) Nx 0 x ∧ OffAt ((((w2.setCell ⟨g, i * 2, none⟩ (.int .i64 y.fee)).setCell ⟨g, i * 2 + 1, none⟩ (.string y.text)).setCell ⟨g, k1 * 2, none⟩ (.int .i64 x.fee)).setCell ⟨g, k1 * 2 + 1, none⟩ (.string x.text)) Nf 0 f ∧ ((((w2.setCell ⟨g, i * 2, none⟩ (.int .i64 y.fee)).setCell ⟨g, i * 2 + 1, none⟩ (.string y.text)).setCell ⟨g, k1 * 2, none⟩ (.int .i64 x.fee)).setCell ⟨g, k1 * 2 + 1, none⟩ (.string x.text)).heap[N]? = some (.cells #[.int .i64 0, .string ⟨#[]⟩] 26 (0, 0)) ∧ Below w.heap.size w ((((w2.setCell ⟨g, i * 2, none⟩ (.int .i64 y.fee)).setCell ⟨g, i * 2 + 1, none⟩ (.string y.text)).setCell ⟨g, k1 * 2, none⟩ (.int .i64 x.fee)).setCell ⟨g, k1 * 2 + 1, none⟩ (.string x.text))) := by
            have hwg : w.heap.size ≤ g := by have := HNN.out; omega
            have r1 := ownO_store2 hos (k := i) (by omega) y
            have r2 := ownO_store2 r1 (k := k1) (by rw [List.length_set]; omega) x
            have hoth : ∀ q, q < g → ((((w2.setCell ⟨g, i * 2, none⟩ (.int .i64 y.fee)).setCell ⟨g, i * 2 + 1, none⟩ (.string y.text)).setCell ⟨g, k1 * 2, none⟩ (.int .i64 x.fee)).setCell ⟨g, k1 * 2 + 1, none⟩ (.string x.text)).heap[q]? = w2.heap[q]? := fun q hq => by
              rw [heap_setCell_other _ _ _ _ (by simp; omega), heap_setCell_other _ _ _ _ (by simp; omega), heap_setCell_other _ _ _ _ (by simp; omega), heap_setCell_other _ _ _ _ (by simp; omega)]
            refine ⟨?_, hx2.of_block (hoth _ (by omega)), hf2.of_block (hoth _ (by omega)), (hoth _ (by omega)).trans hz2, (((bz.setCell hwg _).setCell hwg _).setCell hwg _).setCell hwg _⟩
            have e : (es1.set i y).set k1 x = swO es1 i k1 := by unfold swO; rw [← HY.out, HNI.out]
            rw [e] at r2
            unfold OwnO
            rw [swO_len, hel]
            exact r2
          clear hos ho2 hx2 hf2 hz2 bz hcx e1
          go_wp2
          go_roundw
          case rel => exact ⟨k1, _, by first | rfl | go_num | (congr 1; omega), hkm, by rw [swO_len]; exact hel, HR.out.1, HNI2, HU2, HR.out.2.1, HR.out.2.2.1, HR.out.2.2.2.1, HR.out.2.2.2.2⟩
          case measure => simp [intOf]; omega
      | false =>
        have HK : Hid (k0 = kid es1 m i) := by unfold Hid kid; rw [if_neg (fun h => by have := h.2; rw [HB.out] at this; cases this)]; exact HK0.out
        have hkm := hk0m
        clear HB HCB hki1 hki0 hkp
        obtain ⟨y, hy⟩ : ∃ y, y = nthO es1 k0 := ⟨_, rfl⟩
        have HY : Hid (y = nthO es1 k0) := hy
        obtain ⟨d0, d1⟩ := ownO_cell hos hel.symm k0 hkm
        rw [← hy] at d0 d1
        clear hy
        obtain ⟨b0, b1⟩ := id hx1
        have HCA : Hid (∀ W, Calls Try.prog 45 #[.agg #[.int .i64 y.fee, .string y.text], .agg #[.int .i64 x.fee, .string x.text]] W fun e w' => e = .returned (.bool (ahO y x)) ∧ Below W.heap.size W w') := fun W => l14Ahead_any y x W
        obtain ⟨A, hA⟩ : ∃ A, A = ahO y x := ⟨_, rfl⟩
        have HA : Hid (ahO (nthO es1 k0) (nthO es1 i) = A) := by unfold Hid; rw [HNI.out, ← HY.out]; exact hA.symm
        rw [← hA] at HCA
        clear hA
        have hgn : decide (m ≤ k0) = false := by simp; omega
        have hki : (k0 : Int) < (m : Int) := by omega
        go_wp2_with fail
        refine wp_region_noPanic ?_
        refine wp_region_held_drew (S := fun w' => (w'.cell? ⟨g, k0 * 2, none⟩ = some (.int .i64 y.fee) ∧ w'.cell? ⟨g, k0 * 2 + 1, none⟩ = some (.string y.text)) ∧ (w'.cell? ⟨Nx, 0, none⟩ = some (.int .i64 x.fee) ∧ w'.cell? ⟨Nx, 0 + 1, none⟩ = some (.string x.text))) (by kernel_rfl) ⟨⟨d0, d1⟩, ⟨b0, b1⟩⟩ (fun hH => ?_)
        refine tkG 0 53 hH ?_
        try simp only [Act.put, List.setIfInBounds_toArray, List.set_cons_zero, List.set_cons_succ]
        refine tkG 1 54 hH ?_
        try simp only [Act.put, List.setIfInBounds_toArray, List.set_cons_zero, List.set_cons_succ]
        refine tkG 2 55 hH ?_
        try simp only [Act.put, List.setIfInBounds_toArray, List.set_cons_zero, List.set_cons_succ]
        refine tkG 3 56 hH ?_
        try simp only [Act.put, List.setIfInBounds_toArray, List.set_cons_zero, List.set_cons_succ]
        refine tkG 4 57 hH ?_
        try simp only [Act.put, List.setIfInBounds_toArray, List.set_cons_zero, List.set_cons_succ]
        refine tkG 5 58 hH ?_
        try simp only [Act.put, List.setIfInBounds_toArray, List.set_cons_zero, List.set_cons_succ]
        refine tkG 6 59 hH ?_
        try simp only [Act.put, List.setIfInBounds_toArray, List.set_cons_zero, List.set_cons_succ]
        refine tkG 7 60 hH ?_
        try simp only [Act.put, List.setIfInBounds_toArray, List.set_cons_zero, List.set_cons_succ]
        refine tkG 8 61 hH ?_
        try simp only [Act.put, List.setIfInBounds_toArray, List.set_cons_zero, List.set_cons_succ]
        refine wpAnyH_ready (rs := [9]) (by kernel_rfl) (by simp) ?_
        refine AllReadyH.cons rfl (fun K hK => ?_) AllReadyH.nil
        go_simp
        refine (HCA.out _).mono ?_
        rintro e w2 ⟨rfl, hb2⟩
        refine hK.out _ _ ⟨OffAt.below (w := wq.drew) (e := y) hH.1 hb2, OffAt.below (w := wq.drew) (e := x) hH.2 hb2⟩ (fun hB => ?_)
        clear hK K
        try simp only [Act.put, List.setIfInBounds_toArray, List.set_cons_zero, List.set_cons_succ]
        refine tkG 10 63 hB ?_
        try simp only [Act.put, List.setIfInBounds_toArray, List.set_cons_zero, List.set_cons_succ]
        refine tkG 11 64 hB ?_
        try simp only [Act.put, List.setIfInBounds_toArray, List.set_cons_zero, List.set_cons_succ]
        refine wpAnyH_done (by kernel_rfl) ?_ _
        refine NoPanic.normal ?_
        have bz := hb1.drew.trans (hb2.mono hb1.size)
        have hx2 : OffAt w2 Nx 0 x := OffAt.below (w := wq.drew) hx1 hb2
        have hf2 : OffAt w2 Nf 0 f := OffAt.below (w := wq.drew) hf1 hb2
        have hz2 := (hb2.block N hzl1).trans hz1
        have ho2 : OwnO w2 M (.slice (some ⟨g, 0, none⟩) m zc) es1 := OwnO.below (w := wq.drew) ho1 hb2
        clear hH hB b0 b1 d0 d1 hb1 hb2 hx1 hf1 hz1 ho1 hos hzl1
        cases A with
        | false =>
          obtain ⟨b0, b1⟩ := id hf2
          obtain ⟨z0, z1, g0, g1⟩ := box2O hz2
          have b1' : w2.cell? ⟨Nf, 1, none⟩ = some (.string f.text) := b1
          have HE := HEND.out _ w2 ho2 hz2 bz ((dnL_stop HK.out HA.out).symm.trans HU.out)
          clear ho2 hz2 bz hx2 hf2 b1
          obtain ⟨x0, x1, he⟩ := HE
          have HE : Hid (NxSRes _ _ _ _) := he
          clear he
          go_wp2
          exact bodyPost_ret (v := .tuple #[.agg #[.int .i64 f.fee, .string f.text], .slice (some ⟨g, 0, none⟩) m zc]) (by simp [results, Try.results49, go_sem, x0, x1]) rfl HE.out
        | true =>
          have HU2 : Hid (dnL (swO es1 i k0) m k0 = nxtL es) := by
            have h := HU.out
            rw [dnL_go HK.out hkm HA.out] at h
            exact h
          have hik : ¬ i = k0 := by have := kid_gt es1 m i; have := HK.out; omega
          have hki2 : ¬ k0 = i := fun e => hik e.symm
          have hlt2 : i < k0 := by have := kid_gt es1 m i; have := HK.out; omega
          have HNI2 : Hid (nthO (swO es1 i k0) k0 = x) := by unfold Hid; rw [nthO_sw (by omega), if_pos rfl]; exact HNI.out
          have hos := ho2
          unfold OwnO at hos
          rw [hel] at hos
          obtain ⟨d0, d1⟩ := ownO_cell hos hel.symm k0 hkm
          obtain ⟨c0, c1⟩ := ownO_cell hos hel.symm i him
          rw [← HY.out] at d0 d1
          generalize hcx : nthO es1 i = cx at c0 c1
          have f1 := World.ownsRow.frozenAt hos (i * 2)
          have f2 := World.ownsRow.frozenAt hos (i * 2 + 1)
          have f3 := World.ownsRow.frozenAt hos (k0 * 2)
          have f4 := World.ownsRow.frozenAt hos (k0 * 2 + 1)
          obtain ⟨e0, e1⟩ := id hx2
          have e1' : w2.cell? ⟨Nx, 1, none⟩ = some (.string x.text) := e1
          have hgx : ¬ Nx = g := by omega
          have hxg : ¬ g = Nx := by omega
          have HR : Hid (OwnO ((((w2.setCell ⟨g, i * 2, none⟩ (.int .i64 y.fee)).setCell ⟨g, i * 2 + 1, none⟩ (.string y.text)).setCell ⟨g, k0 * 2, none⟩ (.int .i64 x.fee)).setCell ⟨g, k0 * 2 + 1, none⟩ (.string x.text)) M (.slice (some ⟨g, 0, none⟩) m zc) (swO es1 i k0) ∧ OffAt ((((w2.setCell ⟨g, i * 2, none⟩ (.int .i64 y.fee)).setCell ⟨g, i * 2 + 1, none⟩ (.string y.text)).setCell ⟨g, k0 * 2, none⟩ (.int .i64 x.fee)).setCell ⟨g, k0 * 2 + 1, none⟩ (.string x.text)) Nx 0 x ∧ OffAt ((((w2.setCell ⟨g, i * 2, none⟩ (.int .i64 y.fee)).setCell ⟨g, i * 2 + 1, none⟩ (.string y.text)).setCell ⟨g, k0 * 2, none⟩ (.int .i64 x.fee)).setCell ⟨g, k0 * 2 + 1, none⟩ (.string x.text)) Nf 0 f ∧ ((((w2.setCell ⟨g, i * 2, none⟩ (.int .i64 y.fee)).setCell ⟨g, i * 2 + 1, none⟩ (.string y.text)).setCell ⟨g, k0 * 2, none⟩ (.int .i64 x.fee)).setCell ⟨g, k0 * 2 + 1, none⟩ (.string x.text)).heap[N]? = some (.cells #[.int .i64 0, .string ⟨#[]⟩] 26 (0, 0)) ∧ Below w.heap.size w ((((w2.setCell ⟨g, i * 2, none⟩ (.int .i64 y.fee)).setCell ⟨g, i * 2 + 1, none⟩ (.string y.text)).setCell ⟨g, k0 * 2, none⟩ (.int .i64 x.fee)).setCell ⟨g, k0 * 2 + 1, none⟩ (.string x.text))) := by
            have hwg : w.heap.size ≤ g := by have := HNN.out; omega
            have r1 := ownO_store2 hos (k := i) (by omega) y
            have r2 := ownO_store2 r1 (k := k0) (by rw [List.length_set]; omega) x
            have hoth : ∀ q, q < g → ((((w2.setCell ⟨g, i * 2, none⟩ (.int .i64 y.fee)).setCell ⟨g, i * 2 + 1, none⟩ (.string y.text)).setCell ⟨g, k0 * 2, none⟩ (.int .i64 x.fee)).setCell ⟨g, k0 * 2 + 1, none⟩ (.string x.text)).heap[q]? = w2.heap[q]? := fun q hq => by
              rw [heap_setCell_other _ _ _ _ (by simp; omega), heap_setCell_other _ _ _ _ (by simp; omega), heap_setCell_other _ _ _ _ (by simp; omega), heap_setCell_other _ _ _ _ (by simp; omega)]
            refine ⟨?_, hx2.of_block (hoth _ (by omega)), hf2.of_block (hoth _ (by omega)), (hoth _ (by omega)).trans hz2, (((bz.setCell hwg _).setCell hwg _).setCell hwg _).setCell hwg _⟩
            have e : (es1.set i y).set k0 x = swO es1 i k0 := by unfold swO; rw [← HY.out, HNI.out]
            rw [e] at r2
            unfold OwnO
            rw [swO_len, hel]
            exact r2
          clear hos ho2 hx2 hf2 hz2 bz hcx e1
          go_wp2
          go_roundw
          case rel => exact ⟨k0, _, by first | rfl | go_num | (congr 1; omega), hkm, by rw [swO_len]; exact hel, HR.out.1, HNI2, HU2, HR.out.2.1, HR.out.2.2.1, HR.out.2.2.2.1, HR.out.2.2.2.2⟩
          case measure => simp [intOf]; omega
    · have hkn : decide (k1 < m) = false := by simp; omega
      have HK : Hid (k0 = kid es1 m i) := by unfold Hid kid; rw [if_neg (fun h => by have := h.1; omega)]; exact HK0.out
      clear hp hk0 hk1
      go_wp2_with fail
      refine wp_region_noPanic ?_
      refine wp_region_held_drew (S := fun _ => True) (by kernel_rfl) trivial (fun hH => ?_)
      refine tkG 0 35 hH ?_
      try simp only [Act.put, List.setIfInBounds_toArray, List.set_cons_zero, List.set_cons_succ]
      refine tkG 1 36 hH ?_
      try simp only [Act.put, List.setIfInBounds_toArray, List.set_cons_zero, List.set_cons_succ]
      refine tkG 2 37 hH ?_
      try simp only [Act.put, List.setIfInBounds_toArray, List.set_cons_zero, List.set_cons_succ]
      refine tkG 3 38 hH ?_
      try simp only [Act.put, List.setIfInBounds_toArray, List.set_cons_zero, List.set_cons_succ]
      refine tkG 4 39 hH ?_
      try simp only [Act.put, List.setIfInBounds_toArray, List.set_cons_zero, List.set_cons_succ]
      refine tkS 5 40 hH ?_
      try simp only [Act.put, List.setIfInBounds_toArray, List.set_cons_zero, List.set_cons_succ]
      refine tkS 6 41 hH ?_
      try simp only [Act.put, List.setIfInBounds_toArray, List.set_cons_zero, List.set_cons_succ]
      refine tkS 7 42 hH ?_
      try simp only [Act.put, List.setIfInBounds_toArray, List.set_cons_zero, List.set_cons_succ]
      refine tkS 8 43 hH ?_
      try simp only [Act.put, List.setIfInBounds_toArray, List.set_cons_zero, List.set_cons_succ]
      refine tkS 9 44 hH ?_
      try simp only [Act.put, List.setIfInBounds_toArray, List.set_cons_zero, List.set_cons_succ]
      refine tkS 10 45 hH ?_
      try simp only [Act.put, List.setIfInBounds_toArray, List.set_cons_zero, List.set_cons_succ]
      refine tkS 11 46 hH ?_
      try simp only [Act.put, List.setIfInBounds_toArray, List.set_cons_zero, List.set_cons_succ]
      refine tkS 12 47 hH ?_
      try simp only [Act.put, List.setIfInBounds_toArray, List.set_cons_zero, List.set_cons_succ]
      refine tkS 13 48 hH ?_
      try simp only [Act.put, List.setIfInBounds_toArray, List.set_cons_zero, List.set_cons_succ]
      refine tkS 14 49 hH ?_
      try simp only [Act.put, List.setIfInBounds_toArray, List.set_cons_zero, List.set_cons_succ]
      refine tkG 15 50 hH ?_
      try simp only [Act.put, List.setIfInBounds_toArray, List.set_cons_zero, List.set_cons_succ]
      refine wpAnyH_done (by kernel_rfl) ?_ _
      refine NoPanic.normal ?_
      replace hb1 : Below w.heap.size w wr.drew := hb1.drew
      replace hx1 : OffAt wr.drew Nx 0 x := hx1
      replace hf1 : OffAt wr.drew Nf 0 f := hf1
      replace hz1 : wr.drew.heap[N]? = some (.cells #[.int .i64 0, .string ⟨#[]⟩] 26 (0, 0)) := hz1
      replace ho1 : OwnO wr.drew M (.slice (some ⟨g, 0, none⟩) m zc) es1 := ho1
      replace hzl1 : N < wr.drew.heap.size := hzl1
      clear hH hos hkn
      generalize wr.drew = wq at hb1 hx1 hf1 hz1 ho1 hzl1 ⊢
      have hos := ho1
      unfold OwnO at hos
      rw [hel] at hos
      by_cases hkm : k0 < m
      · clear hlt
        obtain ⟨y, hy⟩ : ∃ y, y = nthO es1 k0 := ⟨_, rfl⟩
        have HY : Hid (y = nthO es1 k0) := hy
        obtain ⟨d0, d1⟩ := ownO_cell hos hel.symm k0 hkm
        rw [← hy] at d0 d1
        clear hy
        obtain ⟨b0, b1⟩ := id hx1
        have HCA : Hid (∀ W, Calls Try.prog 45 #[.agg #[.int .i64 y.fee, .string y.text], .agg #[.int .i64 x.fee, .string x.text]] W fun e w' => e = .returned (.bool (ahO y x)) ∧ Below W.heap.size W w') := fun W => l14Ahead_any y x W
        obtain ⟨A, hA⟩ : ∃ A, A = ahO y x := ⟨_, rfl⟩
        have HA : Hid (ahO (nthO es1 k0) (nthO es1 i) = A) := by unfold Hid; rw [HNI.out, ← HY.out]; exact hA.symm
        rw [← hA] at HCA
        clear hA
        have hgn : decide (m ≤ k0) = false := by simp; omega
        have hki : (k0 : Int) < (m : Int) := by omega
        go_wp2_with fail
        refine wp_region_noPanic ?_
        refine wp_region_held_drew (S := fun w' => (w'.cell? ⟨g, k0 * 2, none⟩ = some (.int .i64 y.fee) ∧ w'.cell? ⟨g, k0 * 2 + 1, none⟩ = some (.string y.text)) ∧ (w'.cell? ⟨Nx, 0, none⟩ = some (.int .i64 x.fee) ∧ w'.cell? ⟨Nx, 0 + 1, none⟩ = some (.string x.text))) (by kernel_rfl) ⟨⟨d0, d1⟩, ⟨b0, b1⟩⟩ (fun hH => ?_)
        refine tkG 0 53 hH ?_
        try simp only [Act.put, List.setIfInBounds_toArray, List.set_cons_zero, List.set_cons_succ]
        refine tkG 1 54 hH ?_
        try simp only [Act.put, List.setIfInBounds_toArray, List.set_cons_zero, List.set_cons_succ]
        refine tkG 2 55 hH ?_
        try simp only [Act.put, List.setIfInBounds_toArray, List.set_cons_zero, List.set_cons_succ]
        refine tkG 3 56 hH ?_
        try simp only [Act.put, List.setIfInBounds_toArray, List.set_cons_zero, List.set_cons_succ]
        refine tkG 4 57 hH ?_
        try simp only [Act.put, List.setIfInBounds_toArray, List.set_cons_zero, List.set_cons_succ]
        refine tkG 5 58 hH ?_
        try simp only [Act.put, List.setIfInBounds_toArray, List.set_cons_zero, List.set_cons_succ]
        refine tkG 6 59 hH ?_
        try simp only [Act.put, List.setIfInBounds_toArray, List.set_cons_zero, List.set_cons_succ]
        refine tkG 7 60 hH ?_
        try simp only [Act.put, List.setIfInBounds_toArray, List.set_cons_zero, List.set_cons_succ]
        refine tkG 8 61 hH ?_
        try simp only [Act.put, List.setIfInBounds_toArray, List.set_cons_zero, List.set_cons_succ]
        refine wpAnyH_ready (rs := [9]) (by kernel_rfl) (by simp) ?_
        refine AllReadyH.cons rfl (fun K hK => ?_) AllReadyH.nil
        go_simp
        refine (HCA.out _).mono ?_
        rintro e w2 ⟨rfl, hb2⟩
        refine hK.out _ _ ⟨OffAt.below (w := wq.drew) (e := y) hH.1 hb2, OffAt.below (w := wq.drew) (e := x) hH.2 hb2⟩ (fun hB => ?_)
        clear hK K
        try simp only [Act.put, List.setIfInBounds_toArray, List.set_cons_zero, List.set_cons_succ]
        refine tkG 10 63 hB ?_
        try simp only [Act.put, List.setIfInBounds_toArray, List.set_cons_zero, List.set_cons_succ]
        refine tkG 11 64 hB ?_
        try simp only [Act.put, List.setIfInBounds_toArray, List.set_cons_zero, List.set_cons_succ]
        refine wpAnyH_done (by kernel_rfl) ?_ _
        refine NoPanic.normal ?_
        have bz := hb1.drew.trans (hb2.mono hb1.size)
        have hx2 : OffAt w2 Nx 0 x := OffAt.below (w := wq.drew) hx1 hb2
        have hf2 : OffAt w2 Nf 0 f := OffAt.below (w := wq.drew) hf1 hb2
        have hz2 := (hb2.block N hzl1).trans hz1
        have ho2 : OwnO w2 M (.slice (some ⟨g, 0, none⟩) m zc) es1 := OwnO.below (w := wq.drew) ho1 hb2
        clear hH hB b0 b1 d0 d1 hb1 hb2 hx1 hf1 hz1 ho1 hos hzl1
        cases A with
        | false =>
          obtain ⟨b0, b1⟩ := id hf2
          obtain ⟨z0, z1, g0, g1⟩ := box2O hz2
          have b1' : w2.cell? ⟨Nf, 1, none⟩ = some (.string f.text) := b1
          have HE := HEND.out _ w2 ho2 hz2 bz ((dnL_stop HK.out HA.out).symm.trans HU.out)
          clear ho2 hz2 bz hx2 hf2 b1
          obtain ⟨x0, x1, he⟩ := HE
          have HE : Hid (NxSRes _ _ _ _) := he
          clear he
          go_wp2
          exact bodyPost_ret (v := .tuple #[.agg #[.int .i64 f.fee, .string f.text], .slice (some ⟨g, 0, none⟩) m zc]) (by simp [results, Try.results49, go_sem, x0, x1]) rfl HE.out
        | true =>
          have HU2 : Hid (dnL (swO es1 i k0) m k0 = nxtL es) := by
            have h := HU.out
            rw [dnL_go HK.out hkm HA.out] at h
            exact h
          have hik : ¬ i = k0 := by have := kid_gt es1 m i; have := HK.out; omega
          have hki2 : ¬ k0 = i := fun e => hik e.symm
          have hlt2 : i < k0 := by have := kid_gt es1 m i; have := HK.out; omega
          have HNI2 : Hid (nthO (swO es1 i k0) k0 = x) := by unfold Hid; rw [nthO_sw (by omega), if_pos rfl]; exact HNI.out
          have hos := ho2
          unfold OwnO at hos
          rw [hel] at hos
          obtain ⟨d0, d1⟩ := ownO_cell hos hel.symm k0 hkm
          obtain ⟨c0, c1⟩ := ownO_cell hos hel.symm i him
          rw [← HY.out] at d0 d1
          generalize hcx : nthO es1 i = cx at c0 c1
          have f1 := World.ownsRow.frozenAt hos (i * 2)
          have f2 := World.ownsRow.frozenAt hos (i * 2 + 1)
          have f3 := World.ownsRow.frozenAt hos (k0 * 2)
          have f4 := World.ownsRow.frozenAt hos (k0 * 2 + 1)
          obtain ⟨e0, e1⟩ := id hx2
          have e1' : w2.cell? ⟨Nx, 1, none⟩ = some (.string x.text) := e1
          have hgx : ¬ Nx = g := by omega
          have hxg : ¬ g = Nx := by omega
          have HR : Hid (OwnO ((((w2.setCell ⟨g, i * 2, none⟩ (.int .i64 y.fee)).setCell ⟨g, i * 2 + 1, none⟩ (.string y.text)).setCell ⟨g, k0 * 2, none⟩ (.int .i64 x.fee)).setCell ⟨g, k0 * 2 + 1, none⟩ (.string x.text)) M (.slice (some ⟨g, 0, none⟩) m zc) (swO es1 i k0) ∧ OffAt ((((w2.setCell ⟨g, i * 2, none⟩ (.int .i64 y.fee)).setCell ⟨g, i * 2 + 1, none⟩ (.string y.text)).setCell ⟨g, k0 * 2, none⟩ (.int .i64 x.fee)).setCell ⟨g, k0 * 2 + 1, none⟩ (.string x.text)) Nx 0 x ∧ OffAt ((((w2.setCell ⟨g, i * 2, none⟩ (.int .i64 y.fee)).setCell ⟨g, i * 2 + 1, none⟩ (.string y.text)).setCell ⟨g, k0 * 2, none⟩ (.int .i64 x.fee)).setCell ⟨g, k0 * 2 + 1, none⟩ (.string x.text)) Nf 0 f ∧ ((((w2.setCell ⟨g, i * 2, none⟩ (.int .i64 y.fee)).setCell ⟨g, i * 2 + 1, none⟩ (.string y.text)).setCell ⟨g, k0 * 2, none⟩ (.int .i64 x.fee)).setCell ⟨g, k0 * 2 + 1, none⟩ (.string x.text)).heap[N]? = some (.cells #[.int .i64 0, .string ⟨#[]⟩] 26 (0, 0)) ∧ Below w.heap.size w ((((w2.setCell ⟨g, i * 2, none⟩ (.int .i64 y.fee)).setCell ⟨g, i * 2 + 1, none⟩ (.string y.text)).setCell ⟨g, k0 * 2, none⟩ (.int .i64 x.fee)).setCell ⟨g, k0 * 2 + 1, none⟩ (.string x.text))) := by
            have hwg : w.heap.size ≤ g := by have := HNN.out; omega
            have r1 := ownO_store2 hos (k := i) (by omega) y
            have r2 := ownO_store2 r1 (k := k0) (by rw [List.length_set]; omega) x
            have hoth : ∀ q, q < g → ((((w2.setCell ⟨g, i * 2, none⟩ (.int .i64 y.fee)).setCell ⟨g, i * 2 + 1, none⟩ (.string y.text)).setCell ⟨g, k0 * 2, none⟩ (.int .i64 x.fee)).setCell ⟨g, k0 * 2 + 1, none⟩ (.string x.text)).heap[q]? = w2.heap[q]? := fun q hq => by
              rw [heap_setCell_other _ _ _ _ (by simp; omega), heap_setCell_other _ _ _ _ (by simp; omega), heap_setCell_other _ _ _ _ (by simp; omega), heap_setCell_other _ _ _ _ (by simp; omega)]
            refine ⟨?_, hx2.of_block (hoth _ (by omega)), hf2.of_block (hoth _ (by omega)), (hoth _ (by omega)).trans hz2, (((bz.setCell hwg _).setCell hwg _).setCell hwg _).setCell hwg _⟩
            have e : (es1.set i y).set k0 x = swO es1 i k0 := by unfold swO; rw [← HY.out, HNI.out]
            rw [e] at r2
            unfold OwnO
            rw [swO_len, hel]
            exact r2
          clear hos ho2 hx2 hf2 hz2 bz hcx e1
          go_wp2
          go_roundw
          case rel => exact ⟨k0, _, by first | rfl | go_num | (congr 1; omega), hkm, by rw [swO_len]; exact hel, HR.out.1, HNI2, HU2, HR.out.2.1, HR.out.2.2.1, HR.out.2.2.2.1, HR.out.2.2.2.2⟩
          case measure => simp [intOf]; omega
      · clear hlt
        have hgp : decide (m ≤ k0) = true := by simp; omega
        go_wp2_with fail
        refine wp_region_noPanic ?_
        refine wp_region_held_drew (S := fun _ => True) (by kernel_rfl) trivial (fun hH => ?_)
        refine tkG 0 53 hH ?_
        try simp only [Act.put, List.setIfInBounds_toArray, List.set_cons_zero, List.set_cons_succ]
        refine tkG 1 54 hH ?_
        try simp only [Act.put, List.setIfInBounds_toArray, List.set_cons_zero, List.set_cons_succ]
        refine tkG 2 55 hH ?_
        try simp only [Act.put, List.setIfInBounds_toArray, List.set_cons_zero, List.set_cons_succ]
        refine tkG 3 56 hH ?_
        try simp only [Act.put, List.setIfInBounds_toArray, List.set_cons_zero, List.set_cons_succ]
        refine tkS 4 57 hH ?_
        try simp only [Act.put, List.setIfInBounds_toArray, List.set_cons_zero, List.set_cons_succ]
        refine tkS 5 58 hH ?_
        try simp only [Act.put, List.setIfInBounds_toArray, List.set_cons_zero, List.set_cons_succ]
        refine tkS 6 59 hH ?_
        try simp only [Act.put, List.setIfInBounds_toArray, List.set_cons_zero, List.set_cons_succ]
        refine tkS 7 60 hH ?_
        try simp only [Act.put, List.setIfInBounds_toArray, List.set_cons_zero, List.set_cons_succ]
        refine tkS 8 61 hH ?_
        try simp only [Act.put, List.setIfInBounds_toArray, List.set_cons_zero, List.set_cons_succ]
        refine tkS 9 62 hH ?_
        try simp only [Act.put, List.setIfInBounds_toArray, List.set_cons_zero, List.set_cons_succ]
        refine tkS 10 63 hH ?_
        try simp only [Act.put, List.setIfInBounds_toArray, List.set_cons_zero, List.set_cons_succ]
        refine tkG 11 64 hH ?_
        try simp only [Act.put, List.setIfInBounds_toArray, List.set_cons_zero, List.set_cons_succ]
        refine wpAnyH_done (by kernel_rfl) ?_ _
        refine NoPanic.normal ?_
        have HE := HEND.out _ wq.drew ho1 hz1 hb1.drew ((dnL_end (by have := HK0.out; omega)).symm.trans HU.out)
        have hf2 : OffAt wq.drew Nf 0 f := hf1
        have hz2 : wq.drew.heap[N]? = some (.cells #[.int .i64 0, .string ⟨#[]⟩] 26 (0, 0)) := hz1
        clear hH ho1 hz1 hb1 hf1 hx1 hos hzl1
        generalize wq.drew = w2 at HE hf2 hz2 ⊢
        obtain ⟨b0, b1⟩ := id hf2
        obtain ⟨z0, z1, g0, g1⟩ := box2O hz2
        have b1' : w2.cell? ⟨Nf, 1, none⟩ = some (.string f.text) := b1
        obtain ⟨x0, x1, he⟩ := HE
        have HE : Hid (NxSRes _ _ _ _) := he
        clear he b1 hz2 hf2
        go_wp2
        exact bodyPost_ret (v := .tuple #[.agg #[.int .i64 f.fee, .string f.text], .slice (some ⟨g, 0, none⟩) m zc]) (by simp [results, Try.results49, go_sem, x0, x1]) rfl HE.out
end Go.Proofs.Yteohiicaiilicaa
