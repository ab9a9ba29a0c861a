/- Whatever code it is called with, laws.FnTables returns true and its argument reads as before: the entries of a built table are those that it was built of, each is found, and a key that may not be there is not, by the program as by the model. No condition. -/
import Derived.Test.YthaobdknpgnapaaRows
import Derived.Test.YthaobdknpgnapaaTabDraws
import Derived.Test.YthaobdknpgnapaaTabLike
import Derived.Test.YthaobdknpgnapaaTabImpl
import Derived.Test.YthaobdknpgnapaaG35
import Derived.Deep.DeepCutAuto
import Derived.BigQuiet
import Derived.ProofKit
import Derived.OpenShut
import Derived.ShutString
import Derived.ChangeOld
namespace Go.Proofs.Ythaobdknpgnapaa
open Go.ChangeShapes Go.WideShapes Go.ChangeAt Go.RowKit
theorem builtL_sizes (es : List Ent) : ∀ s ∈ (builtL es).blocks, s.size ≤ 1000000000 := by
  unfold builtL
  split
  · rename_i h
    simp only [builtOk, Bool.and_eq_true] at h
    exact fun s hs => Nat.le_trans (blksL_size (fun e he => okE_pk (okL_all h.1 e he)) s hs) (by omega)
  · intro s hs; simp [zeroT] at hs
theorem TabRd.slices {w : World} {T : Tbl} {vb vk : Value} (h : TabRd w T vb vk) : ∃ ab cb ak ck, vb = .slice ab T.bits.length cb ∧ vk = .slice ak T.blocks.length ck := by
  obtain ⟨ab, cb, hb, _⟩ := h.1
  obtain ⟨ak, ck, hk, _⟩ := h.2.1
  exact ⟨ab, cb, ak, ck, hb, hk⟩
/-- A table in a box of its own that can be read. -/
def TabBox (w : World) (b : Nat) (T : Tbl) (vb vk : Value) : Prop := BoxT w b T.first T.last vb vk ∧ TabRd w T vb vk
theorem TabBox.below {w w' : World} {b : Nat} {T : Tbl} {vb vk : Value} (h : TabBox w b T vb vk) (hb : Below w.heap.size w w') : TabBox w' b T vb vk := ⟨h.1.below hb, h.2.below hb⟩
theorem tabBox_new {w : World} {T : Tbl} {vb vk : Value} (h : TabRd w T vb vk) : TabBox (w.alloc (.cells #[.string T.first, .string T.last, vb, vk] 41)) w.heap.size T vb vk := ⟨boxT_new _ _ _ _ _, h.below (below1 _ _)⟩
theorem c4_below {w w' : World} {b : Nat} {v0 v1 v2 v3 : Value} (h : w.cell? ⟨b, 0, none⟩ = some v0 ∧ w.cell? ⟨b, 1, none⟩ = some v1 ∧ w.cell? ⟨b, 2, none⟩ = some v2 ∧ w.cell? ⟨b, 3, none⟩ = some v3) (hb : Below w.heap.size w w') : w'.cell? ⟨b, 0, none⟩ = some v0 ∧ w'.cell? ⟨b, 1, none⟩ = some v1 ∧ w'.cell? ⟨b, 2, none⟩ = some v2 ∧ w'.cell? ⟨b, 3, none⟩ = some v3 :=
  ⟨(hb.cell (World.block_lt_of_cell? w _ h.1)).trans h.1, (hb.cell (World.block_lt_of_cell? w _ h.2.1)).trans h.2.1, (hb.cell (World.block_lt_of_cell? w _ h.2.2.1)).trans h.2.2.1, (hb.cell (World.block_lt_of_cell? w _ h.2.2.2)).trans h.2.2.2⟩
theorem c4x4 {w w' : World} {a b c d : Nat} {p0 p1 p2 p3 q0 q1 q2 q3 r0 r1 r2 r3 s0 s1 s2 s3 : Value}
    (h : (w.cell? ⟨a, 0, none⟩ = some p0 ∧ w.cell? ⟨a, 1, none⟩ = some p1 ∧ w.cell? ⟨a, 2, none⟩ = some p2 ∧ w.cell? ⟨a, 3, none⟩ = some p3) ∧ (w.cell? ⟨b, 0, none⟩ = some q0 ∧ w.cell? ⟨b, 1, none⟩ = some q1 ∧ w.cell? ⟨b, 2, none⟩ = some q2 ∧ w.cell? ⟨b, 3, none⟩ = some q3) ∧ (w.cell? ⟨c, 0, none⟩ = some r0 ∧ w.cell? ⟨c, 1, none⟩ = some r1 ∧ w.cell? ⟨c, 2, none⟩ = some r2 ∧ w.cell? ⟨c, 3, none⟩ = some r3) ∧ (w.cell? ⟨d, 0, none⟩ = some s0 ∧ w.cell? ⟨d, 1, none⟩ = some s1 ∧ w.cell? ⟨d, 2, none⟩ = some s2 ∧ w.cell? ⟨d, 3, none⟩ = some s3)) (hb : Below w.heap.size w w') :
    (w'.cell? ⟨a, 0, none⟩ = some p0 ∧ w'.cell? ⟨a, 1, none⟩ = some p1 ∧ w'.cell? ⟨a, 2, none⟩ = some p2 ∧ w'.cell? ⟨a, 3, none⟩ = some p3) ∧ (w'.cell? ⟨b, 0, none⟩ = some q0 ∧ w'.cell? ⟨b, 1, none⟩ = some q1 ∧ w'.cell? ⟨b, 2, none⟩ = some q2 ∧ w'.cell? ⟨b, 3, none⟩ = some q3) ∧ (w'.cell? ⟨c, 0, none⟩ = some r0 ∧ w'.cell? ⟨c, 1, none⟩ = some r1 ∧ w'.cell? ⟨c, 2, none⟩ = some r2 ∧ w'.cell? ⟨c, 3, none⟩ = some r3) ∧ (w'.cell? ⟨d, 0, none⟩ = some s0 ∧ w'.cell? ⟨d, 1, none⟩ = some s1 ∧ w'.cell? ⟨d, 2, none⟩ = some s2 ∧ w'.cell? ⟨d, 3, none⟩ = some s3) :=
  ⟨c4_below h.1 hb, c4_below h.2.1 hb, c4_below h.2.2.1 hb, c4_below h.2.2.2 hb⟩
theorem tbx {W : World} {b : Nat} {T : Tbl} {vb vk : Value} (h : TabBox W b T vb vk) : W.cell? ⟨b, 0, none⟩ = some (.string T.first) ∧ W.cell? ⟨b, 1, none⟩ = some (.string T.last) ∧ W.cell? ⟨b, 2, none⟩ = some vb ∧ W.cell? ⟨b, 3, none⟩ = some vk := by
  obtain ⟨c0, c1, c2, c3, _⟩ := h.1.facts
  exact ⟨c0, c1, c2, c3⟩
theorem entAt_put4 {w : World} {b : Nat} {y : Ent} (h : EntAt w b 0 y) (x : Ent) : EntAt ((((w.setCell ⟨b, 0, none⟩ (.string x.key)).setCell ⟨b, 1, none⟩ (.string x.val)).setCell ⟨b, 2, none⟩ (.int .i64 x.seq)).setCell ⟨b, 3, none⟩ (.bool x.gone)) b 0 x := by
  obtain ⟨z0, z1, z2, z3⟩ := h
  rw [Nat.zero_add] at z1 z2 z3
  refine ⟨?_, ?_, ?_, ?_⟩
  · rw [World.cell?_setCell_other _ _ _ _ (by simp), World.cell?_setCell_other _ _ _ _ (by simp), World.cell?_setCell_other _ _ _ _ (by simp), World.cell?_setCell_same _ _ _ z0]
  · rw [Nat.zero_add, World.cell?_setCell_other _ _ _ _ (by simp), World.cell?_setCell_other _ _ _ _ (by simp)]
    exact World.cell?_setCell_same _ _ _ (by rw [World.cell?_setCell_other _ _ _ _ (by simp)]; exact z1)
  · rw [Nat.zero_add, World.cell?_setCell_other _ _ _ _ (by simp)]
    exact World.cell?_setCell_same _ _ _ (by rw [World.cell?_setCell_other _ _ _ _ (by simp), World.cell?_setCell_other _ _ _ _ (by simp)]; exact z2)
  · rw [Nat.zero_add]
    exact World.cell?_setCell_same _ _ _ (by rw [World.cell?_setCell_other _ _ _ _ (by simp), World.cell?_setCell_other _ _ _ _ (by simp), World.cell?_setCell_other _ _ _ _ (by simp)]; exact z3)
set_option maxHeartbeats 8000000 in
set_option maxRecDepth 100000 in
theorem lawTablesF (v : Value) (bs : List UInt8) (w : World) (hr : Rd w v bs) :
    Calls Try.prog 4 #[v] w fun e w' => e = .returned (.bool true) ∧ Below w.heap.size w w' := by
  by_cases hbig : 4096 < bs.length
  · have hb2 : decide (4096 < (bs.length : Int)) = true := by simp; omega
    go_enter Try.func4, Try.ntmps4
    go_wp2_with fail
    refine (big_any v bs w hr).mono ?_
    rw [hb2]
    rintro e wb ⟨rfl, hwb⟩
    obtain rfl := hwb.symm
    go_wp2
    go_ret
    exact ⟨rfl, Below.refl _ _⟩
  have hb2 : decide (4096 < (bs.length : Int)) = false := by simp; omega
  go_enter Try.func4, Try.ntmps4
  go_wp2_with fail
  refine (big_any v bs w hr).mono ?_
  rw [hb2]
  rintro e wb ⟨rfl, hwb⟩
  obtain rfl := hwb.symm
  clear hb2
  go_wp2_with fail
  refine (drawBuilt_any v bs _ hr (by omega)).mono ?_
  rintro e w1 ⟨vL, es, rfl, ho1, hl1, hsm, b1⟩
  have HF : Hid (∀ x ∈ es, Fits x) := fun x hx => (hsm x hx).fits
  have hr1 := ho1.rd
  clear hsm ho1
  go_wp2_with fail
  refine (implBuilt_any vL es _ hr1 HF.out).mono ?_
  rintro e w2 ⟨vb, vk, rfl, hi2, hk2, hb2⟩
  have ht2 : TabRd w2 (builtL es) vb vk := ⟨hi2.rd, hk2.rd, builtL_sizes es⟩
  have b2 := b1.trans (hb2.mono b1.size)
  have hr2 := hr1.below hb2
  obtain ⟨T, hT⟩ : ∃ T, T = builtL es := ⟨_, rfl⟩
  obtain ⟨ok, hok⟩ : ∃ ok, ok = builtOk es := ⟨_, rfl⟩
  rw [← hT] at ht2 ⊢
  rw [← hok]
  have HT : Hid (T = builtL es) := hT
  have HOK : Hid (ok = builtOk es) := hok
  obtain ⟨ab, cb, ak, ck, rfl, rfl⟩ := ht2.slices
  have ht3 := tabBox_new ht2
  have bl := below1 w2 (.cells #[.string T.first, .string T.last, .slice ab T.bits.length cb, .slice ak T.blocks.length ck] 41)
  have b3 := b2.trans (bl.mono b2.size)
  have hr3 := hr2.below bl
  clear hT hok hi2 hk2 hb2 b1 hr1 hr2 ht2 b2 bl
  go_wp2_with fail
  generalize w2.alloc (.cells #[.string T.first, .string T.last, .slice ab T.bits.length cb, .slice ak T.blocks.length ck] 41) = W3 at ht3 b3 hr3 ⊢
  refine (drawMay_any v bs _ (hr.below b3) (by omega)).mono ?_
  rintro e w4 ⟨X, xb, xk, key, rfl, hkey, hy4, hb4⟩
  have hx4 := hy4.rd
  obtain ⟨xa, xc, xd, xe, rfl, rfl⟩ := hx4.slices
  have b4 := b3.trans (hb4.mono b3.size)
  have bl := below1 w4 (.cells #[.string X.first, .string X.last, .slice xa X.bits.length xc, .slice xd X.blocks.length xe] 41)
  have hx5 := tabBox_new hx4
  have ht5 := (ht3.below hb4).below bl
  have hr5 := (hr3.below hb4).below bl
  have b5 := b4.trans (bl.mono b4.size)
  clear hy4 hx4 b3 b4 hb4 bl ht3 hr3
  go_wp2_with fail
  generalize w4.alloc (.cells #[.string X.first, .string X.last, .slice xa X.bits.length xc, .slice xd X.blocks.length xe] 41) = W5 at hx5 ht5 hr5 b5 ⊢
  refine (drawFound_any v bs _ (hr.below b5) (by omega)).mono ?_
  rintro e w6 ⟨Y, yb, yk, kk, q, rfl, hkk, hq0, hq1, hy6, hb6⟩
  have hx6 := hy6.rd
  obtain ⟨ya, yc, yd, ye, rfl, rfl⟩ := hx6.slices
  have b6 := b5.trans (hb6.mono b5.size)
  have bl := below1 w6 (.cells #[.string Y.first, .string Y.last, .slice ya Y.bits.length yc, .slice yd Y.blocks.length ye] 41)
  have hY7 := tabBox_new hx6
  have hX7 := (hx5.below hb6).below bl
  have hT7 := (ht5.below hb6).below bl
  have hr7 := (hr5.below hb6).below bl
  have b7 := b6.trans (bl.mono b6.size)
  obtain ⟨c0, c1, c2, c3, _⟩ := hY7.1.facts
  clear hy6 hx6 b5 b6 hb6 bl ht5 hr5 hx5
  go_wp2_with fail
  generalize w6.alloc (.cells #[.string Y.first, .string Y.last, .slice ya Y.bits.length yc, .slice yd Y.blocks.length ye] 41) = W7 at hY7 hX7 hT7 hr7 b7 c0 c1 c2 c3 ⊢
  clear c0 c1 c2 c3
  refine (implFound_any Y _ _ kk q _ hY7.2.1 hY7.2.2.1 hY7.2.2.2 (by omega) (by omega)).mono ?_
  rintro e w8 ⟨rfl, hb8⟩
  obtain ⟨z, hz⟩ : ∃ z, z = (foundL Y kk q).getD zeroE := ⟨_, rfl⟩
  obtain ⟨fo, hfo⟩ : ∃ fo, fo = (foundL Y kk q).isSome := ⟨_, rfl⟩
  rw [← hz, ← hfo]
  have HZ : Hid (z = (foundL Y kk q).getD zeroE) := hz
  have HFO : Hid (fo = (foundL Y kk q).isSome) := hfo
  have bl := below1 w8 (.cells #[.string z.key, .string z.val, .int .i64 z.seq, .bool z.gone] 26)
  have b8 := b7.trans (hb8.mono b7.size)
  have b9 := b8.trans (bl.mono b8.size)
  have hY9 := (hY7.below hb8).below bl
  have hX9 := (hX7.below hb8).below bl
  have hT9 := (hT7.below hb8).below bl
  have hr9 := (hr7.below hb8).below bl
  have he9 : EntAt (w8.alloc (.cells #[.string z.key, .string z.val, .int .i64 z.seq, .bool z.gone] 26)) w8.heap.size 0 z := ⟨by simp [World.cell?_alloc_at], by simp [World.cell?_alloc_at], by simp [World.cell?_alloc_at], by simp [World.cell?_alloc_at]⟩
  clear hz hfo hb8 bl b8 b7 hY7 hX7 hT7 hr7
  go_wp2_with fail
  generalize w8.alloc (.cells #[.string z.key, .string z.val, .int .i64 z.seq, .bool z.gone] 26) = W9 at b9 hY9 hX9 hT9 hr9 he9 ⊢
  refine (drawEntries_any v bs _ (hr.below b9) (by omega)).mono ?_
  rintro e w10 ⟨V, ub, uk, rfl, hy10, hb10⟩
  have hx10 := hy10.rd
  obtain ⟨ua, uc, ud, ue, rfl, rfl⟩ := hx10.slices
  have b10 := b9.trans (hb10.mono b9.size)
  have bl := below1 w10 (.cells #[.string V.first, .string V.last, .slice ua V.bits.length uc, .slice ud V.blocks.length ue] 41)
  have hV11 := tabBox_new hx10
  have hX11 := (hX9.below hb10).below bl
  have hY11 := (hY9.below hb10).below bl
  have hT11 := (hT9.below hb10).below bl
  have hr11 := (hr9.below hb10).below bl
  have he11 := (he9.below hb10).below bl
  have b11 := b10.trans (bl.mono b10.size)
  clear hy10 hx10 b10 b9 hb10 bl hX9 hY9 hT9 hr9 he9
  go_wp2_with fail
  generalize w10.alloc (.cells #[.string V.first, .string V.last, .slice ua V.bits.length uc, .slice ud V.blocks.length ue] 41) = W11 at hV11 hX11 hY11 hT11 hr11 he11 b11 ⊢
  refine (specBuilt_any vL es _ hr11 HF.out).mono ?_
  rintro e w12 ⟨ob, okk, rfl, hi12, hk12, hb12⟩
  have ht12 : TabRd w12 (builtL es) ob okk := ⟨hi12.rd, hk12.rd, builtL_sizes es⟩
  rw [← HT.out] at ht12 ⊢
  rw [← HOK.out]
  obtain ⟨oa, oc, od, oe, rfl, rfl⟩ := ht12.slices
  have b12 := b11.trans (hb12.mono b11.size)
  have bl := below1 w12 (.cells #[.string T.first, .string T.last, .slice oa T.bits.length oc, .slice od T.blocks.length oe] 41)
  have hS13 := tabBox_new ht12
  have hX13 := (hX11.below hb12).below bl
  have hY13 := (hY11.below hb12).below bl
  have hT13 := (hT11.below hb12).below bl
  have hV13 := (hV11.below hb12).below bl
  have hr13 := (hr11.below hb12).below bl
  have he13 := (he11.below hb12).below bl
  have b13 := b12.trans (bl.mono b12.size)
  clear hi12 hk12 ht12 b12 b11 hb12 bl hX11 hY11 hT11 hV11 hr11 he11
  go_upto_if 92 with fail
  generalize w12.alloc (.cells #[.string T.first, .string T.last, .slice oa T.bits.length oc, .slice od T.blocks.length oe] 41) = W13 at hS13 hX13 hY13 hT13 hV13 hr13 he13 b13 ⊢
  go_cut [92] (fun t92 W => t92 = .bool false ∧ RdE W vL es ∧ TabBox W w2.heap.size T (.slice ab T.bits.length cb) (.slice ak T.blocks.length ck) ∧ TabBox W w6.heap.size Y (.slice ya Y.bits.length yc) (.slice yd Y.blocks.length ye) ∧ EntAt W w8.heap.size 0 z ∧ Below w.heap.size w W)
  case first =>
    cases ok with
    | false =>
      refine wp_region_noPanic ?_
      refine wp_region_held_drew (S := fun W => (W.cell? ⟨w4.heap.size, 0, none⟩ = some (.string X.first) ∧ W.cell? ⟨w4.heap.size, 1, none⟩ = some (.string X.last) ∧ W.cell? ⟨w4.heap.size, 2, none⟩ = some (.slice xa X.bits.length xc) ∧ W.cell? ⟨w4.heap.size, 3, none⟩ = some (.slice xd X.blocks.length xe)) ∧ (W.cell? ⟨w10.heap.size, 0, none⟩ = some (.string V.first) ∧ W.cell? ⟨w10.heap.size, 1, none⟩ = some (.string V.last) ∧ W.cell? ⟨w10.heap.size, 2, none⟩ = some (.slice ua V.bits.length uc) ∧ W.cell? ⟨w10.heap.size, 3, none⟩ = some (.slice ud V.blocks.length ue))) (by kernel_rfl) ⟨tbx hX13, tbx hV13⟩ (fun hH => ?_)
      have qX : TabBox W13.drew _ X _ _ := hX13
      have qV : TabBox W13.drew _ V _ _ := hV13
      have qT : TabBox W13.drew _ T _ _ := hT13
      have qY : TabBox W13.drew _ Y _ _ := hY13
      have qr : RdE W13.drew vL es := hr13
      have qe : EntAt W13.drew _ 0 z := he13
      have qb := b13.drew
      clear hX13 hV13 hT13 hY13 hr13 he13 b13 hS13
      revert hH qX qV qT qY qr qe qb
      generalize W13.drew = W0
      intro hH qX qV qT qY qr qe qb
      refine tkA 0 55 hH ?_
      try simp only [Act.put, List.setIfInBounds_toArray, List.set_cons_zero, List.set_cons_succ]
      refine tkA 1 56 hH ?_
      try simp only [Act.put, List.setIfInBounds_toArray, List.set_cons_zero, List.set_cons_succ]
      refine tkA 2 57 hH ?_
      try simp only [Act.put, List.setIfInBounds_toArray, List.set_cons_zero, List.set_cons_succ]
      refine tkA 3 58 hH ?_
      try simp only [Act.put, List.setIfInBounds_toArray, List.set_cons_zero, List.set_cons_succ]
      refine tkA 4 59 hH ?_
      try simp only [Act.put, List.setIfInBounds_toArray, List.set_cons_zero, List.set_cons_succ]
      refine tkA 5 60 hH ?_
      try simp only [Act.put, List.setIfInBounds_toArray, List.set_cons_zero, List.set_cons_succ]
      refine tkS 6 61 hH ?_
      try simp only [Act.put, List.setIfInBounds_toArray, List.set_cons_zero, List.set_cons_succ]
      refine tkS 7 62 hH ?_
      try simp only [Act.put, List.setIfInBounds_toArray, List.set_cons_zero, List.set_cons_succ]
      refine tkS 8 63 hH ?_
      try simp only [Act.put, List.setIfInBounds_toArray, List.set_cons_zero, List.set_cons_succ]
      refine tkS 9 64 hH ?_
      try simp only [Act.put, List.setIfInBounds_toArray, List.set_cons_zero, List.set_cons_succ]
      refine tkS 10 65 hH ?_
      try simp only [Act.put, List.setIfInBounds_toArray, List.set_cons_zero, List.set_cons_succ]
      refine tkS 11 66 hH ?_
      try simp only [Act.put, List.setIfInBounds_toArray, List.set_cons_zero, List.set_cons_succ]
      refine tkA 12 67 hH ?_
      try simp only [Act.put, List.setIfInBounds_toArray, List.set_cons_zero, List.set_cons_succ]
      refine tkA 13 68 hH ?_
      try simp only [Act.put, List.setIfInBounds_toArray, List.set_cons_zero, List.set_cons_succ]
      refine tkA 14 69 hH ?_
      try simp only [Act.put, List.setIfInBounds_toArray, List.set_cons_zero, List.set_cons_succ]
      refine tkA 15 70 hH ?_
      try simp only [Act.put, List.setIfInBounds_toArray, List.set_cons_zero, List.set_cons_succ]
      refine tkA 16 71 hH ?_
      try simp only [Act.put, List.setIfInBounds_toArray, List.set_cons_zero, List.set_cons_succ]
      refine tkA 18 73 hH ?_
      try simp only [Act.put, List.setIfInBounds_toArray, List.set_cons_zero, List.set_cons_succ]
      refine tkA 19 74 hH ?_
      try simp only [Act.put, List.setIfInBounds_toArray, List.set_cons_zero, List.set_cons_succ]
      refine wpAnyH_ready (rs := [17]) (by kernel_rfl) (by simp) ?_
      refine AllReadyH.cons rfl (fun K hK => ?_) AllReadyH.nil
      go_simp
      refine (implMay_any X _ _ key _ qX.2.1 qX.2.2.1 qX.2.2.2 (by omega)).mono ?_
      rintro e w14 ⟨rfl, hb14⟩
      have rX := qX.below hb14
      have rV := qV.below hb14
      have rT := qT.below hb14
      have rY := qY.below hb14
      have rr := qr.below hb14
      have re := qe.below hb14
      have rb := qb.trans (hb14.mono qb.size)
      clear qX qV qT qY qr qe qb hb14
      refine hK.out _ _ ⟨tbx rX, tbx rV⟩ (fun hA => ?_)
      clear hK K
      try simp only [Act.put, List.setIfInBounds_toArray, List.set_cons_zero, List.set_cons_succ]
      refine wpAnyH_ready (rs := [20]) (by kernel_rfl) (by simp) ?_
      refine AllReadyH.cons rfl (fun K hK => ?_) AllReadyH.nil
      go_simp
      refine (specMay_any X _ _ key _ rX.2.1 rX.2.2.1 rX.2.2.2 (by omega)).mono ?_
      rintro e w15 ⟨rfl, hb15⟩
      have qX := rX.below hb15
      have qV := rV.below hb15
      have qT := rT.below hb15
      have qY := rY.below hb15
      have qr := rr.below hb15
      have qe := re.below hb15
      have qb := rb.trans (hb15.mono rb.size)
      clear rX rV rT rY rr re rb hb15
      refine hK.out _ _ ⟨tbx qX, tbx qV⟩ (fun hB => ?_)
      clear hK K
      try simp only [Act.put, List.setIfInBounds_toArray, List.set_cons_zero, List.set_cons_succ]
      have hmm : (mayL X key != mayL X key) = false := by simp
      generalize mayL X key = m1 at hmm ⊢
      refine tkA 21 76 hB ?_
      try simp only [Act.put, List.setIfInBounds_toArray, List.set_cons_zero, List.set_cons_succ]
      refine tkA 22 77 hB ?_
      try simp only [Act.put, List.setIfInBounds_toArray, List.set_cons_zero, List.set_cons_succ]
      refine tkA 23 78 hB ?_
      try simp only [Act.put, List.setIfInBounds_toArray, List.set_cons_zero, List.set_cons_succ]
      refine tkA 24 79 hB ?_
      try simp only [Act.put, List.setIfInBounds_toArray, List.set_cons_zero, List.set_cons_succ]
      refine tkA 26 81 hB ?_
      try simp only [Act.put, List.setIfInBounds_toArray, List.set_cons_zero, List.set_cons_succ]
      refine wpAnyH_ready (rs := [25]) (by kernel_rfl) (by simp) ?_
      refine AllReadyH.cons rfl (fun K hK => ?_) AllReadyH.nil
      go_simp
      refine (implEntries_any V _ _ _ qV.2.1 qV.2.2.1 qV.2.2.2).mono ?_
      rintro e w16 ⟨v16, rfl, ho16, hb16⟩
      have rX := qX.below hb16
      have rV := qV.below hb16
      have rT := qT.below hb16
      have rY := qY.below hb16
      have rr := qr.below hb16
      have re := qe.below hb16
      have rb := qb.trans (hb16.mono qb.size)
      clear qX qV qT qY qr qe qb hb16
      refine hK.out _ _ ⟨tbx rX, tbx rV⟩ (fun hC => ?_)
      clear hK K
      try simp only [Act.put, List.setIfInBounds_toArray, List.set_cons_zero, List.set_cons_succ]
      refine wpAnyH_ready (rs := [27]) (by kernel_rfl) (by simp) ?_
      refine AllReadyH.cons rfl (fun K hK => ?_) AllReadyH.nil
      go_simp
      refine (specEntries_any V _ _ _ rV.2.1 rV.2.2.1 rV.2.2.2).mono ?_
      rintro e w17 ⟨v17, rfl, ho17, hb17⟩
      have qX := rX.below hb17
      have qV := rV.below hb17
      have qT := rT.below hb17
      have qY := rY.below hb17
      have qr := rr.below hb17
      have qe := re.below hb17
      have qb := rb.trans (hb17.mono rb.size)
      have ho16 := ho16.below hb17
      clear rX rV rT rY rr re rb hb17
      refine hK.out _ _ ⟨tbx qX, tbx qV⟩ (fun hD => ?_)
      clear hK K
      try simp only [Act.put, List.setIfInBounds_toArray, List.set_cons_zero, List.set_cons_succ]
      refine wpAnyH_ready (rs := [28]) (by kernel_rfl) (by simp) ?_
      refine AllReadyH.cons rfl (fun K hK => ?_) AllReadyH.nil
      go_simp
      refine (likeEnts_same _ _ _ _ ho16.rd ho17.rd).mono ?_
      rintro e w18 ⟨rfl, n18, rfl⟩
      have hb18 : Below w17.heap.size w17 (w17.drewN n18) := below_drewN (Below.refl _ _) n18
      have rX := qX.below hb18
      have rT := qT.below hb18
      have rY := qY.below hb18
      have rr := qr.below hb18
      have re := qe.below hb18
      have rb := qb.trans (hb18.mono qb.size)
      refine hK.out _ _ ⟨tbx rX, tbx (qV.below hb18)⟩ (fun hE => ?_)
      clear hK K
      try simp only [Act.put, List.setIfInBounds_toArray, List.set_cons_zero, List.set_cons_succ]
      clear qX qV qT qY qr qe qb hb18 ho16 ho17
      revert rX rT rY rr re rb hE
      generalize w17.drewN n18 = W18
      intro rX rT rY rr re rb hE
      refine tkA 29 84 hE ?_
      try simp only [Act.put, List.setIfInBounds_toArray, List.set_cons_zero, List.set_cons_succ]
      refine tkA 30 85 hE ?_
      try simp only [Act.put, List.setIfInBounds_toArray, List.set_cons_zero, List.set_cons_succ]
      refine tkA 31 86 hE ?_
      try simp only [Act.put, List.setIfInBounds_toArray, List.set_cons_zero, List.set_cons_succ]
      refine tkA 32 87 hE ?_
      try simp only [Act.put, List.setIfInBounds_toArray, List.set_cons_zero, List.set_cons_succ]
      refine tkA 34 89 hE ?_
      try simp only [Act.put, List.setIfInBounds_toArray, List.set_cons_zero, List.set_cons_succ]
      refine wpAnyH_ready (rs := [33]) (by kernel_rfl) (by simp) ?_
      refine AllReadyH.cons rfl (fun K hK => ?_) AllReadyH.nil
      go_simp
      refine (implTableOk_any X _ _ _ rX.2.1 rX.2.2.1 rX.2.2.2).mono ?_
      rintro e w19 ⟨rfl, hb19⟩
      have qX := rX.below hb19
      have qT := rT.below hb19
      have qY := rY.below hb19
      have qr := rr.below hb19
      have qe := re.below hb19
      have qb := rb.trans (hb19.mono rb.size)
      clear rT rY rr re rb
      refine hK.out _ _ ⟨tbx qX, c4_below hE.2 hb19⟩ (fun hF => ?_)
      clear hK K
      try simp only [Act.put, List.setIfInBounds_toArray, List.set_cons_zero, List.set_cons_succ]
      refine wpAnyH_ready (rs := [35]) (by kernel_rfl) (by simp) ?_
      refine AllReadyH.cons rfl (fun K hK => ?_) AllReadyH.nil
      go_simp
      refine (specTableOk_any X _ _ _ qX.2.1 qX.2.2.1 qX.2.2.2).mono ?_
      rintro e w20 ⟨rfl, hb20⟩
      have rT := qT.below hb20
      have rY := qY.below hb20
      have rr := qr.below hb20
      have re := qe.below hb20
      have rb := qb.trans (hb20.mono qb.size)
      refine hK.out _ _ ⟨tbx (qX.below hb20), c4_below hF.2 hb20⟩ (fun hG => ?_)
      clear hK K
      try simp only [Act.put, List.setIfInBounds_toArray, List.set_cons_zero, List.set_cons_succ]
      have hoo : (tableOk X != tableOk X) = false := by simp
      generalize tableOk X = o1 at hoo ⊢
      refine tkA 36 91 hG ?_
      try simp only [Act.put, List.setIfInBounds_toArray, List.set_cons_zero, List.set_cons_succ]
      refine tkA 37 92 hG ?_
      try simp only [Act.put, List.setIfInBounds_toArray, List.set_cons_zero, List.set_cons_succ]
      refine wpAnyH_done (by kernel_rfl) ?_ _
      refine NoPanic.normal ?_
      clear qT qY qr qe qb qX rX
      go_wp2
      go_meet
      case rel => exact ⟨rfl, rr, rT, rY, re, rb⟩
    | true =>
      refine wp_region_noPanic ?_
      refine wp_region_held_drew (S := fun W => (W.cell? ⟨w4.heap.size, 0, none⟩ = some (.string X.first) ∧ W.cell? ⟨w4.heap.size, 1, none⟩ = some (.string X.last) ∧ W.cell? ⟨w4.heap.size, 2, none⟩ = some (.slice xa X.bits.length xc) ∧ W.cell? ⟨w4.heap.size, 3, none⟩ = some (.slice xd X.blocks.length xe)) ∧ (W.cell? ⟨w10.heap.size, 0, none⟩ = some (.string V.first) ∧ W.cell? ⟨w10.heap.size, 1, none⟩ = some (.string V.last) ∧ W.cell? ⟨w10.heap.size, 2, none⟩ = some (.slice ua V.bits.length uc) ∧ W.cell? ⟨w10.heap.size, 3, none⟩ = some (.slice ud V.blocks.length ue)) ∧ (W.cell? ⟨w2.heap.size, 0, none⟩ = some (.string T.first) ∧ W.cell? ⟨w2.heap.size, 1, none⟩ = some (.string T.last) ∧ W.cell? ⟨w2.heap.size, 2, none⟩ = some (.slice ab T.bits.length cb) ∧ W.cell? ⟨w2.heap.size, 3, none⟩ = some (.slice ak T.blocks.length ck)) ∧ (W.cell? ⟨w12.heap.size, 0, none⟩ = some (.string T.first) ∧ W.cell? ⟨w12.heap.size, 1, none⟩ = some (.string T.last) ∧ W.cell? ⟨w12.heap.size, 2, none⟩ = some (.slice oa T.bits.length oc) ∧ W.cell? ⟨w12.heap.size, 3, none⟩ = some (.slice od T.blocks.length oe))) (by kernel_rfl) ⟨tbx hX13, tbx hV13, tbx hT13, tbx hS13⟩ (fun hH => ?_)
      have qX : TabBox W13.drew _ X _ _ := hX13
      have qV : TabBox W13.drew _ V _ _ := hV13
      have qT : TabBox W13.drew _ T _ _ := hT13
      have qS : TabBox W13.drew _ T _ _ := hS13
      have qY : TabBox W13.drew _ Y _ _ := hY13
      have qr : RdE W13.drew vL es := hr13
      have qe : EntAt W13.drew _ 0 z := he13
      have qb := b13.drew
      clear hX13 hV13 hT13 hY13 hr13 he13 b13 hS13
      revert hH qX qV qT qS qY qr qe qb
      generalize W13.drew = W0
      intro hH qX qV qT qS qY qr qe qb
      refine tkA 0 55 hH ?_
      try simp only [Act.put, List.setIfInBounds_toArray, List.set_cons_zero, List.set_cons_succ]
      refine tkA 1 56 hH ?_
      try simp only [Act.put, List.setIfInBounds_toArray, List.set_cons_zero, List.set_cons_succ]
      refine tkA 2 57 hH ?_
      try simp only [Act.put, List.setIfInBounds_toArray, List.set_cons_zero, List.set_cons_succ]
      refine tkA 3 58 hH ?_
      try simp only [Act.put, List.setIfInBounds_toArray, List.set_cons_zero, List.set_cons_succ]
      refine tkA 4 59 hH ?_
      try simp only [Act.put, List.setIfInBounds_toArray, List.set_cons_zero, List.set_cons_succ]
      refine tkA 5 60 hH ?_
      try simp only [Act.put, List.setIfInBounds_toArray, List.set_cons_zero, List.set_cons_succ]
      refine tkA 6 61 hH ?_
      try simp only [Act.put, List.setIfInBounds_toArray, List.set_cons_zero, List.set_cons_succ]
      refine tkA 8 63 hH ?_
      try simp only [Act.put, List.setIfInBounds_toArray, List.set_cons_zero, List.set_cons_succ]
      refine wpAnyH_ready (rs := [7, 9]) (by kernel_rfl) (by simp) ?_
      refine AllReadyH.cons rfl (fun K hK => ?_) ?_
      · skip
        go_simp
        have bl1 := below1 W0 (.cells #[.string T.first, .string T.last, .slice ab T.bits.length cb, .slice ak T.blocks.length ck] 41)
        have bl2 := below1 (W0.alloc (.cells #[.string T.first, .string T.last, .slice ab T.bits.length cb, .slice ak T.blocks.length ck] 41)) (.cells #[.string T.first, .string T.last, .slice oa T.bits.length oc, .slice od T.blocks.length oe] 41)
        have bl := bl1.trans (bl2.mono bl1.size)
        have t1 := (tblAt_new W0 T (.slice ab T.bits.length cb) (.slice ak T.blocks.length ck) 41).below bl2
        have t2 := tblAt_new (W0.alloc (.cells #[.string T.first, .string T.last, .slice ab T.bits.length cb, .slice ak T.blocks.length ck] 41)) T (.slice oa T.bits.length oc) (.slice od T.blocks.length oe) 41
        rw [show (W0.alloc (.cells #[.string T.first, .string T.last, .slice ab T.bits.length cb, .slice ak T.blocks.length ck] 41)).heap.size = W0.heap.size + 1 by simp] at t2
        refine hK.out _ _ (c4x4 hH bl1) (fun hH1 => ?_)
        clear hK K
        try simp only [Act.put, List.setIfInBounds_toArray, List.set_cons_zero, List.set_cons_succ]
        refine wpAnyH_ready (rs := [9]) (by kernel_rfl) (by simp) ?_
        refine AllReadyH.cons rfl (fun K hK => ?_) AllReadyH.nil
        go_simp
        refine hK.out _ _ (c4x4 hH bl) (fun hH2 => ?_)
        clear hK K
        try simp only [Act.put, List.setIfInBounds_toArray, List.set_cons_zero, List.set_cons_succ]
        replace qX := qX.below bl
        replace qV := qV.below bl
        replace qT := qT.below bl
        replace qS := qS.below bl
        replace qY := qY.below bl
        replace qr := qr.below bl
        replace qe := qe.below bl
        replace qb := qb.trans (bl.mono qb.size)
        clear hH hH1 bl1 bl2 bl
        revert t2
        revert t1
        revert qb
        revert qe
        revert qr
        revert qY
        revert qS
        revert qT
        revert qV
        revert qX
        revert hH2
        generalize ((W0.alloc (.cells #[.string T.first, .string T.last, .slice ab T.bits.length cb, .slice ak T.blocks.length ck] 41)).alloc (.cells #[.string T.first, .string T.last, .slice oa T.bits.length oc, .slice od T.blocks.length oe] 41)) = W2
        intro hH2 qX qV qT qS qY qr qe qb t1 t2
        refine wpAnyH_ready (rs := [10]) (by kernel_rfl) (by simp) ?_
        refine AllReadyH.cons rfl (fun K hK => ?_) AllReadyH.nil
        go_simp
        refine (likeTables_one T _ _ _ _ _ _ _ t1 t2 qT.2.1 qT.2.2.1 qS.2.1 qS.2.2.1).mono ?_
        rintro e w13 ⟨rfl, n13, rfl⟩
        have hb13 : Below W2.heap.size W2 (W2.drewN n13) := below_drewN (Below.refl _ _) n13
        replace qX := qX.below hb13
        replace qV := qV.below hb13
        replace qT := qT.below hb13
        replace qY := qY.below hb13
        replace qr := qr.below hb13
        replace qe := qe.below hb13
        replace qb := qb.trans (hb13.mono qb.size)
        clear t1 t2 qS
        refine hK.out _ _ (c4x4 hH2 hb13) (fun hH => ?_)
        clear hK K
        try simp only [Act.put, List.setIfInBounds_toArray, List.set_cons_zero, List.set_cons_succ]
        clear hH2 hb13
        revert qb
        revert qe
        revert qr
        revert qY
        revert qT
        revert qV
        revert qX
        revert hH
        generalize W2.drewN n13 = W14
        intro hH qX qV qT qY qr qe qb
        refine tkA 11 66 hH ?_
        try simp only [Act.put, List.setIfInBounds_toArray, List.set_cons_zero, List.set_cons_succ]
        refine tkA 12 67 hH ?_
        try simp only [Act.put, List.setIfInBounds_toArray, List.set_cons_zero, List.set_cons_succ]
        refine tkA 13 68 hH ?_
        try simp only [Act.put, List.setIfInBounds_toArray, List.set_cons_zero, List.set_cons_succ]
        refine tkA 14 69 hH ?_
        try simp only [Act.put, List.setIfInBounds_toArray, List.set_cons_zero, List.set_cons_succ]
        refine tkA 15 70 hH ?_
        try simp only [Act.put, List.setIfInBounds_toArray, List.set_cons_zero, List.set_cons_succ]
        refine tkA 16 71 hH ?_
        try simp only [Act.put, List.setIfInBounds_toArray, List.set_cons_zero, List.set_cons_succ]
        refine tkA 18 73 hH ?_
        try simp only [Act.put, List.setIfInBounds_toArray, List.set_cons_zero, List.set_cons_succ]
        refine tkA 19 74 hH ?_
        try simp only [Act.put, List.setIfInBounds_toArray, List.set_cons_zero, List.set_cons_succ]
        refine wpAnyH_ready (rs := [17]) (by kernel_rfl) (by simp) ?_
        refine AllReadyH.cons rfl (fun K hK => ?_) AllReadyH.nil
        go_simp
        refine (implMay_any X _ _ key _ qX.2.1 qX.2.2.1 qX.2.2.2 (by omega)).mono ?_
        rintro e w14 ⟨rfl, hb14⟩
        have rX := qX.below hb14
        have rV := qV.below hb14
        have rT := qT.below hb14
        have rY := qY.below hb14
        have rr := qr.below hb14
        have re := qe.below hb14
        have rb := qb.trans (hb14.mono qb.size)
        clear qX qV qT qY qr qe qb 
        refine hK.out _ _ (c4x4 hH hb14) (fun hA => ?_)
        clear hK K
        try simp only [Act.put, List.setIfInBounds_toArray, List.set_cons_zero, List.set_cons_succ]
        refine wpAnyH_ready (rs := [20]) (by kernel_rfl) (by simp) ?_
        refine AllReadyH.cons rfl (fun K hK => ?_) AllReadyH.nil
        go_simp
        refine (specMay_any X _ _ key _ rX.2.1 rX.2.2.1 rX.2.2.2 (by omega)).mono ?_
        rintro e w15 ⟨rfl, hb15⟩
        have qX := rX.below hb15
        have qV := rV.below hb15
        have qT := rT.below hb15
        have qY := rY.below hb15
        have qr := rr.below hb15
        have qe := re.below hb15
        have qb := rb.trans (hb15.mono rb.size)
        clear rX rV rT rY rr re rb
        refine hK.out _ _ (c4x4 hA hb15) (fun hB => ?_)
        clear hK K
        try simp only [Act.put, List.setIfInBounds_toArray, List.set_cons_zero, List.set_cons_succ]
        have hmm : (mayL X key != mayL X key) = false := by simp
        generalize mayL X key = m1 at hmm ⊢
        refine tkA 21 76 hB ?_
        try simp only [Act.put, List.setIfInBounds_toArray, List.set_cons_zero, List.set_cons_succ]
        refine tkA 22 77 hB ?_
        try simp only [Act.put, List.setIfInBounds_toArray, List.set_cons_zero, List.set_cons_succ]
        refine tkA 23 78 hB ?_
        try simp only [Act.put, List.setIfInBounds_toArray, List.set_cons_zero, List.set_cons_succ]
        refine tkA 24 79 hB ?_
        try simp only [Act.put, List.setIfInBounds_toArray, List.set_cons_zero, List.set_cons_succ]
        refine tkA 26 81 hB ?_
        try simp only [Act.put, List.setIfInBounds_toArray, List.set_cons_zero, List.set_cons_succ]
        refine wpAnyH_ready (rs := [25]) (by kernel_rfl) (by simp) ?_
        refine AllReadyH.cons rfl (fun K hK => ?_) AllReadyH.nil
        go_simp
        refine (implEntries_any V _ _ _ qV.2.1 qV.2.2.1 qV.2.2.2).mono ?_
        rintro e w16 ⟨v16, rfl, ho16, hb16⟩
        have rX := qX.below hb16
        have rV := qV.below hb16
        have rT := qT.below hb16
        have rY := qY.below hb16
        have rr := qr.below hb16
        have re := qe.below hb16
        have rb := qb.trans (hb16.mono qb.size)
        clear qX qV qT qY qr qe qb
        refine hK.out _ _ (c4x4 hB hb16) (fun hC => ?_)
        clear hK K
        try simp only [Act.put, List.setIfInBounds_toArray, List.set_cons_zero, List.set_cons_succ]
        refine wpAnyH_ready (rs := [27]) (by kernel_rfl) (by simp) ?_
        refine AllReadyH.cons rfl (fun K hK => ?_) AllReadyH.nil
        go_simp
        refine (specEntries_any V _ _ _ rV.2.1 rV.2.2.1 rV.2.2.2).mono ?_
        rintro e w17 ⟨v17, rfl, ho17, hb17⟩
        have qX := rX.below hb17
        have qV := rV.below hb17
        have qT := rT.below hb17
        have qY := rY.below hb17
        have qr := rr.below hb17
        have qe := re.below hb17
        have qb := rb.trans (hb17.mono rb.size)
        have ho16 := ho16.below hb17
        clear rX rV rT rY rr re rb
        refine hK.out _ _ (c4x4 hC hb17) (fun hD => ?_)
        clear hK K
        try simp only [Act.put, List.setIfInBounds_toArray, List.set_cons_zero, List.set_cons_succ]
        refine wpAnyH_ready (rs := [28]) (by kernel_rfl) (by simp) ?_
        refine AllReadyH.cons rfl (fun K hK => ?_) AllReadyH.nil
        go_simp
        refine (likeEnts_same _ _ _ _ ho16.rd ho17.rd).mono ?_
        rintro e w18 ⟨rfl, n18, rfl⟩
        have hb18 : Below w17.heap.size w17 (w17.drewN n18) := below_drewN (Below.refl _ _) n18
        have rX := qX.below hb18
        have rT := qT.below hb18
        have rY := qY.below hb18
        have rr := qr.below hb18
        have re := qe.below hb18
        have rb := qb.trans (hb18.mono qb.size)
        refine hK.out _ _ (c4x4 hD hb18) (fun hE => ?_)
        clear hK K
        try simp only [Act.put, List.setIfInBounds_toArray, List.set_cons_zero, List.set_cons_succ]
        clear qX qV qT qY qr qe qb hb18 ho16 ho17
        revert rX rT rY rr re rb hE
        generalize w17.drewN n18 = W18
        intro rX rT rY rr re rb hE
        refine tkA 29 84 hE ?_
        try simp only [Act.put, List.setIfInBounds_toArray, List.set_cons_zero, List.set_cons_succ]
        refine tkA 30 85 hE ?_
        try simp only [Act.put, List.setIfInBounds_toArray, List.set_cons_zero, List.set_cons_succ]
        refine tkA 31 86 hE ?_
        try simp only [Act.put, List.setIfInBounds_toArray, List.set_cons_zero, List.set_cons_succ]
        refine tkA 32 87 hE ?_
        try simp only [Act.put, List.setIfInBounds_toArray, List.set_cons_zero, List.set_cons_succ]
        refine tkA 34 89 hE ?_
        try simp only [Act.put, List.setIfInBounds_toArray, List.set_cons_zero, List.set_cons_succ]
        refine wpAnyH_ready (rs := [33]) (by kernel_rfl) (by simp) ?_
        refine AllReadyH.cons rfl (fun K hK => ?_) AllReadyH.nil
        go_simp
        refine (implTableOk_any X _ _ _ rX.2.1 rX.2.2.1 rX.2.2.2).mono ?_
        rintro e w19 ⟨rfl, hb19⟩
        have qX := rX.below hb19
        have qT := rT.below hb19
        have qY := rY.below hb19
        have qr := rr.below hb19
        have qe := re.below hb19
        have qb := rb.trans (hb19.mono rb.size)
        clear rT rY rr re rb
        refine hK.out _ _ (c4x4 hE hb19) (fun hF => ?_)
        clear hK K
        try simp only [Act.put, List.setIfInBounds_toArray, List.set_cons_zero, List.set_cons_succ]
        refine wpAnyH_ready (rs := [35]) (by kernel_rfl) (by simp) ?_
        refine AllReadyH.cons rfl (fun K hK => ?_) AllReadyH.nil
        go_simp
        refine (specTableOk_any X _ _ _ qX.2.1 qX.2.2.1 qX.2.2.2).mono ?_
        rintro e w20 ⟨rfl, hb20⟩
        have rT := qT.below hb20
        have rY := qY.below hb20
        have rr := qr.below hb20
        have re := qe.below hb20
        have rb := qb.trans (hb20.mono qb.size)
        refine hK.out _ _ (c4x4 hF hb20) (fun hG => ?_)
        clear hK K
        try simp only [Act.put, List.setIfInBounds_toArray, List.set_cons_zero, List.set_cons_succ]
        have hoo : (tableOk X != tableOk X) = false := by simp
        generalize tableOk X = o1 at hoo ⊢
        refine tkA 36 91 hG ?_
        try simp only [Act.put, List.setIfInBounds_toArray, List.set_cons_zero, List.set_cons_succ]
        refine tkA 37 92 hG ?_
        try simp only [Act.put, List.setIfInBounds_toArray, List.set_cons_zero, List.set_cons_succ]
        refine wpAnyH_done (by kernel_rfl) ?_ _
        refine NoPanic.normal ?_
        clear qT qY qr qe qb qX rX
        go_wp2
        go_meet
        case rel => exact ⟨rfl, rr, rT, rY, re, rb⟩
      · refine AllReadyH.cons rfl (fun K hK => ?_) AllReadyH.nil
        go_simp
        have bl1 := below1 W0 (.cells #[.string T.first, .string T.last, .slice oa T.bits.length oc, .slice od T.blocks.length oe] 41)
        have bl2 := below1 (W0.alloc (.cells #[.string T.first, .string T.last, .slice oa T.bits.length oc, .slice od T.blocks.length oe] 41)) (.cells #[.string T.first, .string T.last, .slice ab T.bits.length cb, .slice ak T.blocks.length ck] 41)
        have bl := bl1.trans (bl2.mono bl1.size)
        have t1 := (tblAt_new W0 T (.slice oa T.bits.length oc) (.slice od T.blocks.length oe) 41).below bl2
        have t2 := tblAt_new (W0.alloc (.cells #[.string T.first, .string T.last, .slice oa T.bits.length oc, .slice od T.blocks.length oe] 41)) T (.slice ab T.bits.length cb) (.slice ak T.blocks.length ck) 41
        rw [show (W0.alloc (.cells #[.string T.first, .string T.last, .slice oa T.bits.length oc, .slice od T.blocks.length oe] 41)).heap.size = W0.heap.size + 1 by simp] at t2
        refine hK.out _ _ (c4x4 hH bl1) (fun hH1 => ?_)
        clear hK K
        try simp only [Act.put, List.setIfInBounds_toArray, List.set_cons_zero, List.set_cons_succ]
        refine wpAnyH_ready (rs := [7]) (by kernel_rfl) (by simp) ?_
        refine AllReadyH.cons rfl (fun K hK => ?_) AllReadyH.nil
        go_simp
        refine hK.out _ _ (c4x4 hH bl) (fun hH2 => ?_)
        clear hK K
        try simp only [Act.put, List.setIfInBounds_toArray, List.set_cons_zero, List.set_cons_succ]
        replace qX := qX.below bl
        replace qV := qV.below bl
        replace qT := qT.below bl
        replace qS := qS.below bl
        replace qY := qY.below bl
        replace qr := qr.below bl
        replace qe := qe.below bl
        replace qb := qb.trans (bl.mono qb.size)
        clear hH hH1 bl1 bl2 bl
        revert t2
        revert t1
        revert qb
        revert qe
        revert qr
        revert qY
        revert qS
        revert qT
        revert qV
        revert qX
        revert hH2
        generalize ((W0.alloc (.cells #[.string T.first, .string T.last, .slice oa T.bits.length oc, .slice od T.blocks.length oe] 41)).alloc (.cells #[.string T.first, .string T.last, .slice ab T.bits.length cb, .slice ak T.blocks.length ck] 41)) = W2
        intro hH2 qX qV qT qS qY qr qe qb t1 t2
        refine wpAnyH_ready (rs := [10]) (by kernel_rfl) (by simp) ?_
        refine AllReadyH.cons rfl (fun K hK => ?_) AllReadyH.nil
        go_simp
        refine (likeTables_one T _ _ _ _ _ _ _ t2 t1 qT.2.1 qT.2.2.1 qS.2.1 qS.2.2.1).mono ?_
        rintro e w13 ⟨rfl, n13, rfl⟩
        have hb13 : Below W2.heap.size W2 (W2.drewN n13) := below_drewN (Below.refl _ _) n13
        replace qX := qX.below hb13
        replace qV := qV.below hb13
        replace qT := qT.below hb13
        replace qY := qY.below hb13
        replace qr := qr.below hb13
        replace qe := qe.below hb13
        replace qb := qb.trans (hb13.mono qb.size)
        clear t1 t2 qS
        refine hK.out _ _ (c4x4 hH2 hb13) (fun hH => ?_)
        clear hK K
        try simp only [Act.put, List.setIfInBounds_toArray, List.set_cons_zero, List.set_cons_succ]
        clear hH2 hb13
        revert qb
        revert qe
        revert qr
        revert qY
        revert qT
        revert qV
        revert qX
        revert hH
        generalize W2.drewN n13 = W14
        intro hH qX qV qT qY qr qe qb
        refine tkA 11 66 hH ?_
        try simp only [Act.put, List.setIfInBounds_toArray, List.set_cons_zero, List.set_cons_succ]
        refine tkA 12 67 hH ?_
        try simp only [Act.put, List.setIfInBounds_toArray, List.set_cons_zero, List.set_cons_succ]
        refine tkA 13 68 hH ?_
        try simp only [Act.put, List.setIfInBounds_toArray, List.set_cons_zero, List.set_cons_succ]
        refine tkA 14 69 hH ?_
        try simp only [Act.put, List.setIfInBounds_toArray, List.set_cons_zero, List.set_cons_succ]
        refine tkA 15 70 hH ?_
        try simp only [Act.put, List.setIfInBounds_toArray, List.set_cons_zero, List.set_cons_succ]
        refine tkA 16 71 hH ?_
        try simp only [Act.put, List.setIfInBounds_toArray, List.set_cons_zero, List.set_cons_succ]
        refine tkA 18 73 hH ?_
        try simp only [Act.put, List.setIfInBounds_toArray, List.set_cons_zero, List.set_cons_succ]
        refine tkA 19 74 hH ?_
        try simp only [Act.put, List.setIfInBounds_toArray, List.set_cons_zero, List.set_cons_succ]
        refine wpAnyH_ready (rs := [17]) (by kernel_rfl) (by simp) ?_
        refine AllReadyH.cons rfl (fun K hK => ?_) AllReadyH.nil
        go_simp
        refine (implMay_any X _ _ key _ qX.2.1 qX.2.2.1 qX.2.2.2 (by omega)).mono ?_
        rintro e w14 ⟨rfl, hb14⟩
        have rX := qX.below hb14
        have rV := qV.below hb14
        have rT := qT.below hb14
        have rY := qY.below hb14
        have rr := qr.below hb14
        have re := qe.below hb14
        have rb := qb.trans (hb14.mono qb.size)
        clear qX qV qT qY qr qe qb 
        refine hK.out _ _ (c4x4 hH hb14) (fun hA => ?_)
        clear hK K
        try simp only [Act.put, List.setIfInBounds_toArray, List.set_cons_zero, List.set_cons_succ]
        refine wpAnyH_ready (rs := [20]) (by kernel_rfl) (by simp) ?_
        refine AllReadyH.cons rfl (fun K hK => ?_) AllReadyH.nil
        go_simp
        refine (specMay_any X _ _ key _ rX.2.1 rX.2.2.1 rX.2.2.2 (by omega)).mono ?_
        rintro e w15 ⟨rfl, hb15⟩
        have qX := rX.below hb15
        have qV := rV.below hb15
        have qT := rT.below hb15
        have qY := rY.below hb15
        have qr := rr.below hb15
        have qe := re.below hb15
        have qb := rb.trans (hb15.mono rb.size)
        clear rX rV rT rY rr re rb
        refine hK.out _ _ (c4x4 hA hb15) (fun hB => ?_)
        clear hK K
        try simp only [Act.put, List.setIfInBounds_toArray, List.set_cons_zero, List.set_cons_succ]
        have hmm : (mayL X key != mayL X key) = false := by simp
        generalize mayL X key = m1 at hmm ⊢
        refine tkA 21 76 hB ?_
        try simp only [Act.put, List.setIfInBounds_toArray, List.set_cons_zero, List.set_cons_succ]
        refine tkA 22 77 hB ?_
        try simp only [Act.put, List.setIfInBounds_toArray, List.set_cons_zero, List.set_cons_succ]
        refine tkA 23 78 hB ?_
        try simp only [Act.put, List.setIfInBounds_toArray, List.set_cons_zero, List.set_cons_succ]
        refine tkA 24 79 hB ?_
        try simp only [Act.put, List.setIfInBounds_toArray, List.set_cons_zero, List.set_cons_succ]
        refine tkA 26 81 hB ?_
        try simp only [Act.put, List.setIfInBounds_toArray, List.set_cons_zero, List.set_cons_succ]
        refine wpAnyH_ready (rs := [25]) (by kernel_rfl) (by simp) ?_
        refine AllReadyH.cons rfl (fun K hK => ?_) AllReadyH.nil
        go_simp
        refine (implEntries_any V _ _ _ qV.2.1 qV.2.2.1 qV.2.2.2).mono ?_
        rintro e w16 ⟨v16, rfl, ho16, hb16⟩
        have rX := qX.below hb16
        have rV := qV.below hb16
        have rT := qT.below hb16
        have rY := qY.below hb16
        have rr := qr.below hb16
        have re := qe.below hb16
        have rb := qb.trans (hb16.mono qb.size)
        clear qX qV qT qY qr qe qb
        refine hK.out _ _ (c4x4 hB hb16) (fun hC => ?_)
        clear hK K
        try simp only [Act.put, List.setIfInBounds_toArray, List.set_cons_zero, List.set_cons_succ]
        refine wpAnyH_ready (rs := [27]) (by kernel_rfl) (by simp) ?_
        refine AllReadyH.cons rfl (fun K hK => ?_) AllReadyH.nil
        go_simp
        refine (specEntries_any V _ _ _ rV.2.1 rV.2.2.1 rV.2.2.2).mono ?_
        rintro e w17 ⟨v17, rfl, ho17, hb17⟩
        have qX := rX.below hb17
        have qV := rV.below hb17
        have qT := rT.below hb17
        have qY := rY.below hb17
        have qr := rr.below hb17
        have qe := re.below hb17
        have qb := rb.trans (hb17.mono rb.size)
        have ho16 := ho16.below hb17
        clear rX rV rT rY rr re rb
        refine hK.out _ _ (c4x4 hC hb17) (fun hD => ?_)
        clear hK K
        try simp only [Act.put, List.setIfInBounds_toArray, List.set_cons_zero, List.set_cons_succ]
        refine wpAnyH_ready (rs := [28]) (by kernel_rfl) (by simp) ?_
        refine AllReadyH.cons rfl (fun K hK => ?_) AllReadyH.nil
        go_simp
        refine (likeEnts_same _ _ _ _ ho16.rd ho17.rd).mono ?_
        rintro e w18 ⟨rfl, n18, rfl⟩
        have hb18 : Below w17.heap.size w17 (w17.drewN n18) := below_drewN (Below.refl _ _) n18
        have rX := qX.below hb18
        have rT := qT.below hb18
        have rY := qY.below hb18
        have rr := qr.below hb18
        have re := qe.below hb18
        have rb := qb.trans (hb18.mono qb.size)
        refine hK.out _ _ (c4x4 hD hb18) (fun hE => ?_)
        clear hK K
        try simp only [Act.put, List.setIfInBounds_toArray, List.set_cons_zero, List.set_cons_succ]
        clear qX qV qT qY qr qe qb hb18 ho16 ho17
        revert rX rT rY rr re rb hE
        generalize w17.drewN n18 = W18
        intro rX rT rY rr re rb hE
        refine tkA 29 84 hE ?_
        try simp only [Act.put, List.setIfInBounds_toArray, List.set_cons_zero, List.set_cons_succ]
        refine tkA 30 85 hE ?_
        try simp only [Act.put, List.setIfInBounds_toArray, List.set_cons_zero, List.set_cons_succ]
        refine tkA 31 86 hE ?_
        try simp only [Act.put, List.setIfInBounds_toArray, List.set_cons_zero, List.set_cons_succ]
        refine tkA 32 87 hE ?_
        try simp only [Act.put, List.setIfInBounds_toArray, List.set_cons_zero, List.set_cons_succ]
        refine tkA 34 89 hE ?_
        try simp only [Act.put, List.setIfInBounds_toArray, List.set_cons_zero, List.set_cons_succ]
        refine wpAnyH_ready (rs := [33]) (by kernel_rfl) (by simp) ?_
        refine AllReadyH.cons rfl (fun K hK => ?_) AllReadyH.nil
        go_simp
        refine (implTableOk_any X _ _ _ rX.2.1 rX.2.2.1 rX.2.2.2).mono ?_
        rintro e w19 ⟨rfl, hb19⟩
        have qX := rX.below hb19
        have qT := rT.below hb19
        have qY := rY.below hb19
        have qr := rr.below hb19
        have qe := re.below hb19
        have qb := rb.trans (hb19.mono rb.size)
        clear rT rY rr re rb
        refine hK.out _ _ (c4x4 hE hb19) (fun hF => ?_)
        clear hK K
        try simp only [Act.put, List.setIfInBounds_toArray, List.set_cons_zero, List.set_cons_succ]
        refine wpAnyH_ready (rs := [35]) (by kernel_rfl) (by simp) ?_
        refine AllReadyH.cons rfl (fun K hK => ?_) AllReadyH.nil
        go_simp
        refine (specTableOk_any X _ _ _ qX.2.1 qX.2.2.1 qX.2.2.2).mono ?_
        rintro e w20 ⟨rfl, hb20⟩
        have rT := qT.below hb20
        have rY := qY.below hb20
        have rr := qr.below hb20
        have re := qe.below hb20
        have rb := qb.trans (hb20.mono qb.size)
        refine hK.out _ _ (c4x4 hF hb20) (fun hG => ?_)
        clear hK K
        try simp only [Act.put, List.setIfInBounds_toArray, List.set_cons_zero, List.set_cons_succ]
        have hoo : (tableOk X != tableOk X) = false := by simp
        generalize tableOk X = o1 at hoo ⊢
        refine tkA 36 91 hG ?_
        try simp only [Act.put, List.setIfInBounds_toArray, List.set_cons_zero, List.set_cons_succ]
        refine tkA 37 92 hG ?_
        try simp only [Act.put, List.setIfInBounds_toArray, List.set_cons_zero, List.set_cons_succ]
        refine wpAnyH_done (by kernel_rfl) ?_ _
        refine NoPanic.normal ?_
        clear qT qY qr qe qb qX rX
        go_wp2
        go_meet
        case rel => exact ⟨rfl, rr, rT, rY, re, rb⟩
  case rest =>
    obtain ⟨h92, hrc, hTc, hYc, hec, hbc⟩ := hcut
    subst h92
    have HNB : Hid (ok = false → okL es = false ∨ es.length = 0) := fun h => by
      have := HOK.out
      rw [h] at this
      unfold builtOk at this
      cases hk : okL es with
      | false => exact .inl rfl
      | true => rw [hk] at this; simp at this; exact .inr (by rw [this]; rfl)
    have HTT : Hid (ok = true → T = builtT es) := fun h => by rw [HT.out]; unfold builtL; rw [← HOK.out, if_pos h]
    have HFM : Hid (fo = true → mayL Y kk = true) := fun h => by
      have := HFO.out
      rw [h] at this
      cases hf : foundL Y kk q with
      | none => rw [hf] at this; cases this
      | some x => exact found_may hf
    clear HT
    obtain ⟨c0, c1, c2, c3⟩ := tbx hYc
    go_wp2_with fail
    refine (specFound_any Y _ _ kk q _ hYc.2.1 hYc.2.2.1 hYc.2.2.2).mono ?_
    unfold SeenPost
    rw [← HZ.out, ← HFO.out]
    rintro e w21 ⟨rfl, hb21⟩
    have hec2 := hec.below hb21
    have hTc2 := hTc.below hb21
    have hYc2 := hYc.below hb21
    have hrc2 := hrc.below hb21
    have hbc2 := hbc.trans (hb21.mono hbc.size)
    have bl := below1 w21 (.cells #[.string z.key, .string z.val, .int .i64 z.seq, .bool z.gone] 26)
    have he22 := hec2.below bl
    have hT22 := hTc2.below bl
    have hY22 := hYc2.below bl
    have hr22 := hrc2.below bl
    have b22 := hbc2.trans (bl.mono hbc2.size)
    have hn22 := entAt_new w21 z 26
    clear hec2 hTc2 hYc2 hrc2 hbc2 bl hb21 hrc hTc hYc hec hbc c0 c1 c2 c3 HZ HFO
    go_upto_region 13 with fail
    generalize w21.alloc (.cells #[.string z.key, .string z.val, .int .i64 z.seq, .bool z.gone] 26) = W22 at he22 hT22 hY22 hr22 b22 hn22 ⊢
    go_cut [116] (fun t116 W => t116 = .bool false ∧ RdE W vL es ∧ TabBox W w2.heap.size T (.slice ab T.bits.length cb) (.slice ak T.blocks.length ck) ∧ Below w.heap.size w W)
    case first =>
      have hne : (fo != fo) = false := by simp
      obtain ⟨p0, p1, p2, p3⟩ := he22
      obtain ⟨s0, s1, s2, s3⟩ := hn22
      rw [Nat.zero_add] at p1 p2 p3 s1 s2 s3
      cases fo with
      | false =>
        go_wp2_with fail
        go_meet
        case rel => exact ⟨rfl, hr22, hT22, b22⟩
      | true =>
        have HMM : Hid (mayL Y kk = true) := HFM.out rfl
        have HCM : Hid (∀ W, TabBox W w6.heap.size Y (.slice ya Y.bits.length yc) (.slice yd Y.blocks.length ye) → Calls Try.prog 25 #[.agg #[.string Y.first, .string Y.last, .slice ya Y.bits.length yc, .slice yd Y.blocks.length ye], .string kk] W fun e w' => e = .returned (.bool true) ∧ Below W.heap.size W w') := fun W h => by
          have := implMay_any Y _ _ kk W h.2.1 h.2.2.1 h.2.2.2 (by omega)
          rwa [HMM.out] at this
        obtain ⟨c0, c1, c2, c3⟩ := tbx hY22
        go_wp2_with fail
        refine (HCM.out _ hY22).mono ?_
        rintro e w23 ⟨rfl, hb23⟩
        have hr23 := hr22.below hb23
        have hT23 := hT22.below hb23
        have b23 := b22.trans (hb23.mono b22.size)
        clear hr22 hT22 hY22 b22 hb23 p0 p1 p2 p3 s0 s1 s2 s3 c0 c1 c2 c3
        go_wp2_with fail
        go_meet
        case rel => exact ⟨rfl, hr23, hT23, b23⟩
    case rest =>
      obtain ⟨h116, hrd, hTd, hbd⟩ := hcut
      subst h116
      clear he22 hT22 hY22 hr22 b22 hn22 HFM
      obtain ⟨aL, cL, hvL, hL1, hL2, _⟩ := id hrd
      obtain ⟨nn, hnn⟩ : ∃ nn, nn = es.length := ⟨_, rfl⟩
      have HNN : Hid (nn = es.length) := hnn
      rw [← hnn] at hvL hL1 HNB
      subst hvL
      unfold maxLen at hL2
      clear hnn
      cases ok with
      | false =>
        by_cases h0 : nn = 0
        · have hd : ((nn : Int) == 0) = true := by simp; omega
          go_wp2
          go_ret
          exact ⟨rfl, hbd⟩
        · have hno : okL es = false := by
            rcases HNB.out rfl with h | h
            · exact h
            · exact absurd h h0
          have HCE : Hid (Calls Try.prog 15 #[.slice aL nn cL] _ fun e w' => e = .returned (.bool false) ∧ Below _ _ w') := specOk_no _ es _ hrd HF.out hno
          have hd : ((nn : Int) == 0) = false := by simp; omega
          clear hno
          go_wp2_with fail
          refine HCE.out.mono ?_
          rintro e w24 ⟨rfl, hb24⟩
          have b24 := hbd.trans (hb24.mono hbd.size)
          go_wp2
          go_ret
          exact ⟨rfl, b24⟩
      | true =>
        have hTT := HTT.out rfl
        have hbo : builtOk es = true := HOK.out.symm
        have hok : okL es = true := by simp only [builtOk, Bool.and_eq_true] at hbo; exact hbo.1
        have HTO : Hid (tableOk T = true) := by rw [hTT]; exact built_ok hbo
        have HEN : Hid (entriesL T = es) := by rw [hTT]; exact built_entries hbo
        have HFD : Hid (∀ k, k < nn → foundL T (nth es k).key (nth es k).seq = some (nth es k) ∧ mayL T (nth es k).key = true ∧ (nth es k).key.size ≤ 1000000000 ∧ (-9223372036854775808 ≤ (nth es k).seq ∧ (nth es k).seq ≤ 9223372036854775807)) := fun k hk => by
          rw [HNN.out] at hk
          have hm : nth es k ∈ es := by rw [nth_eq hk]; exact List.getElem_mem hk
          have hp := okE_parts (okL_all hok _ hm)
          refine ⟨by rw [hTT]; exact found_built hbo hm, ?_, by omega, by omega, by omega⟩
          exact may_of HTO.out (by rw [HEN.out]; exact hm)
        have HCF : Hid (∀ W k x, k < nn → x = nth es k → TabBox W w2.heap.size T (.slice ab T.bits.length cb) (.slice ak T.blocks.length ck) → Calls Try.prog 21 #[.agg #[.string T.first, .string T.last, .slice ab T.bits.length cb, .slice ak T.blocks.length ck], .string x.key, .int .i64 x.seq] W fun e w' => e = .returned (.tuple #[.agg #[.string x.key, .string x.val, .int .i64 x.seq, .bool x.gone], .bool true]) ∧ Below W.heap.size W w') := fun W k x hk hx h => by
          obtain ⟨f1, f2, f3, f4⟩ := HFD.out k hk
          rw [← hx] at f1 f3 f4
          have := implFound_any T _ _ x.key x.seq W h.2.1 h.2.2.1 h.2.2.2 f3 f4
          unfold SeenPost at this
          rwa [f1] at this
        have HCM : Hid (∀ W k x, k < nn → x = nth es k → TabBox W w2.heap.size T (.slice ab T.bits.length cb) (.slice ak T.blocks.length ck) → Calls Try.prog 25 #[.agg #[.string T.first, .string T.last, .slice ab T.bits.length cb, .slice ak T.blocks.length ck], .string x.key] W fun e w' => e = .returned (.bool true) ∧ Below W.heap.size W w') := fun W k x hk hx h => by
          obtain ⟨f1, f2, f3, f4⟩ := HFD.out k hk
          rw [← hx] at f2 f3
          have := implMay_any T _ _ x.key W h.2.1 h.2.2.1 h.2.2.2 f3
          rwa [f2] at this
        have HCT : Hid (∀ W, TabBox W w2.heap.size T (.slice ab T.bits.length cb) (.slice ak T.blocks.length ck) → Calls Try.prog 29 #[.agg #[.string T.first, .string T.last, .slice ab T.bits.length cb, .slice ak T.blocks.length ck]] W fun e w' => e = .returned (.bool true) ∧ Below W.heap.size W w') := fun W h => by
          have := implTableOk_any T _ _ W h.2.1 h.2.2.1 h.2.2.2
          rwa [HTO.out] at this
        have HCN : Hid (∀ W, TabBox W w2.heap.size T (.slice ab T.bits.length cb) (.slice ak T.blocks.length ck) → Calls Try.prog 27 #[.agg #[.string T.first, .string T.last, .slice ab T.bits.length cb, .slice ak T.blocks.length ck]] W fun e w' => ∃ u, e = .returned u ∧ OwnE w' W.heap.size u es ∧ Below W.heap.size W w') := fun W h => by
          have := implEntries_any T _ _ W h.2.1 h.2.2.1 h.2.2.2
          rwa [HEN.out] at this
        clear hTT hbo hok HTT HNB HFD HTO HEN HOK
        go_wp2
        go_loopw [18] (fun i wr => ∃ k : Nat, k ≤ nn ∧ i = .int .i64 k ∧ RdE wr (.slice aL nn cL) es ∧ TabBox wr w2.heap.size T (.slice ab T.bits.length cb) (.slice ak T.blocks.length ck) ∧ Below w.heap.size w wr) (fun i _ => nn - (intOf i).toNat)
        case atStart => exact ⟨0, Nat.zero_le _, rfl, hrd, hTd, hbd⟩
        case round =>
          obtain ⟨k, hk, rfl, hrk, hTk, hbk⟩ := hrel
          clear hrd hTd hbd
          by_cases hlt : k < nn
          · skip
            obtain ⟨bL, oL, rfl, hck⟩ := hrk.at HNN.out k (by rw [← HNN.out]; exact hlt)
            obtain ⟨x, hx⟩ : ∃ x, x = nth es k := ⟨_, rfl⟩
            rw [← hx] at hck
            have HX : Hid (x = nth es k) := hx
            clear hx
            have hkc : k < cL := by omega
            go_wp2_with fail
            refine wp_region_noPanic ?_
            refine wp_region_held_drew (S := fun W => (W.cell? ⟨w2.heap.size, 0, none⟩ = some (.string T.first) ∧ W.cell? ⟨w2.heap.size, 1, none⟩ = some (.string T.last) ∧ W.cell? ⟨w2.heap.size, 2, none⟩ = some (.slice ab T.bits.length cb) ∧ W.cell? ⟨w2.heap.size, 3, none⟩ = some (.slice ak T.blocks.length ck)) ∧ EntAt W bL (oL + k * 4) x) (by kernel_rfl) ⟨tbx hTk, hck⟩ (fun hH => ?_)
            have qT : TabBox wr.drew _ T _ _ := hTk
            have qr : RdE wr.drew _ es := hrk
            have qb := hbk.drew
            clear hTk hrk hbk hck
            revert hH qT qr qb
            generalize wr.drew = W0
            intro hH qT qr qb
            refine tkA 0 134 hH ?_
            try simp only [Act.put, List.setIfInBounds_toArray, List.set_cons_zero, List.set_cons_succ]
            refine tkA 1 135 hH ?_
            try simp only [Act.put, List.setIfInBounds_toArray, List.set_cons_zero, List.set_cons_succ]
            refine tkA 2 136 hH ?_
            try simp only [Act.put, List.setIfInBounds_toArray, List.set_cons_zero, List.set_cons_succ]
            refine tkA 3 137 hH ?_
            try simp only [Act.put, List.setIfInBounds_toArray, List.set_cons_zero, List.set_cons_succ]
            refine tkA 4 138 hH ?_
            try simp only [Act.put, List.setIfInBounds_toArray, List.set_cons_zero, List.set_cons_succ]
            refine tkA 5 139 hH ?_
            try simp only [Act.put, List.setIfInBounds_toArray, List.set_cons_zero, List.set_cons_succ]
            refine tkA 6 140 hH ?_
            try simp only [Act.put, List.setIfInBounds_toArray, List.set_cons_zero, List.set_cons_succ]
            refine tkA 7 141 hH ?_
            try simp only [Act.put, List.setIfInBounds_toArray, List.set_cons_zero, List.set_cons_succ]
            refine tkA 8 142 hH ?_
            try simp only [Act.put, List.setIfInBounds_toArray, List.set_cons_zero, List.set_cons_succ]
            refine tkA 9 143 hH ?_
            try simp only [Act.put, List.setIfInBounds_toArray, List.set_cons_zero, List.set_cons_succ]
            refine tkA 10 144 hH ?_
            try simp only [Act.put, List.setIfInBounds_toArray, List.set_cons_zero, List.set_cons_succ]
            refine wpAnyH_ready (rs := [11, 15]) (by kernel_rfl) (by simp) ?_
            refine AllReadyH.cons rfl (fun K hK => ?_) ?_
            go_simp
            refine (HCF.out _ k x hlt HX.out qT).mono ?_
            rintro e W1 ⟨rfl, hb1⟩
            have bA := hb1.trans ((below1 W1 (.cells #[.string ⟨#[]⟩, .string ⟨#[]⟩, .int .i64 0, .bool false] 26)).mono hb1.size)
            have bB := hb1.trans ((below1 W1 (.cells #[.string x.key, .string x.val, .int .i64 x.seq, .bool x.gone] 26)).mono hb1.size)
            have hA1 : (fun W => (W.cell? ⟨w2.heap.size, 0, none⟩ = some (.string T.first) ∧ W.cell? ⟨w2.heap.size, 1, none⟩ = some (.string T.last) ∧ W.cell? ⟨w2.heap.size, 2, none⟩ = some (.slice ab T.bits.length cb) ∧ W.cell? ⟨w2.heap.size, 3, none⟩ = some (.slice ak T.blocks.length ck)) ∧ EntAt W bL (oL + k * 4) x) W1 := ⟨c4_below hH.1 hb1, hH.2.below hb1⟩
            have hA2 : (fun W => (W.cell? ⟨w2.heap.size, 0, none⟩ = some (.string T.first) ∧ W.cell? ⟨w2.heap.size, 1, none⟩ = some (.string T.last) ∧ W.cell? ⟨w2.heap.size, 2, none⟩ = some (.slice ab T.bits.length cb) ∧ W.cell? ⟨w2.heap.size, 3, none⟩ = some (.slice ak T.blocks.length ck)) ∧ EntAt W bL (oL + k * 4) x) (W1.alloc (.cells #[.string ⟨#[]⟩, .string ⟨#[]⟩, .int .i64 0, .bool false] 26)) := ⟨c4_below hH.1 bA, hH.2.below bA⟩
            have hA3 : (fun W => (W.cell? ⟨w2.heap.size, 0, none⟩ = some (.string T.first) ∧ W.cell? ⟨w2.heap.size, 1, none⟩ = some (.string T.last) ∧ W.cell? ⟨w2.heap.size, 2, none⟩ = some (.slice ab T.bits.length cb) ∧ W.cell? ⟨w2.heap.size, 3, none⟩ = some (.slice ak T.blocks.length ck)) ∧ EntAt W bL (oL + k * 4) x) (W1.alloc (.cells #[.string x.key, .string x.val, .int .i64 x.seq, .bool x.gone] 26)) := ⟨c4_below hH.1 bB, hH.2.below bB⟩
            refine hK.out _ _ hA1 (fun h1 => ?_)
            clear hK K
            try simp only [Act.put, List.setIfInBounds_toArray, List.set_cons_zero, List.set_cons_succ]
            refine tkA 12 133 h1 ?_
            try simp only [Act.put, List.setIfInBounds_toArray, List.set_cons_zero, List.set_cons_succ]
            refine tkA 13 146 h1 ?_
            try simp only [Act.put, List.setIfInBounds_toArray, List.set_cons_zero, List.set_cons_succ]
            refine tkA 14 147 h1 ?_
            try simp only [Act.put, List.setIfInBounds_toArray, List.set_cons_zero, List.set_cons_succ]
            refine wpAnyH_ready (rs := [15]) (by kernel_rfl) (by simp) ?_
            refine AllReadyH.cons rfl (fun K hK => ?_) AllReadyH.nil
            go_simp
            refine hK.out _ _ hA2 (fun h2 => ?_)
            clear hK K
            try simp only [Act.put, List.setIfInBounds_toArray, List.set_cons_zero, List.set_cons_succ]
            obtain ⟨⟨z0, z1, z2, z3⟩, zf⟩ := box_zero W1 26
            have f0 := zf 0
            have f1 := zf 1
            have f2 := zf 2
            have f3 := zf 3
            rw [Nat.zero_add] at z1 z2 z3
            refine wpAnyH_ready (rs := [16]) (by kernel_rfl) (by simp) ?_
            refine AllReadyH.cons rfl (fun K hK => ?_) AllReadyH.nil
            go_simp
            refine hK.out _ _ hA3 (fun h3 => ?_)
            clear hK K
            try simp only [Act.put, List.setIfInBounds_toArray, List.set_cons_zero, List.set_cons_succ]
            refine tkA 17 20 h3 ?_
            try simp only [Act.put, List.setIfInBounds_toArray, List.set_cons_zero, List.set_cons_succ]
            refine wpAnyH_done (by kernel_rfl) ?_ _
            refine NoPanic.normal ?_
            have qx := entAt_new W1 x 26
            have qE := hA3.2
            replace qT := qT.below bB
            replace qr := qr.below bB
            replace qb := qb.trans (bB.mono qb.size)
            clear h1 h2 h3 hA1 hA2 hA3 hH hb1 bA bB z0 z1 z2 z3 zf f0 f1 f2 f3
            generalize W1.alloc (.cells #[.string x.key, .string x.val, .int .i64 x.seq, .bool x.gone] 26) = W4 at qT qr qb qx qE ⊢
            generalize W1.heap.size = B3 at qx ⊢
            clear W1 W0
            revert qx
            revert qE
            revert qb
            revert qr
            revert qT
            revert B3
            revert W4
            refine ?tailq
            rotate_left 1
            refine AllReadyH.cons rfl (fun K hK => ?_) AllReadyH.nil
            go_simp
            have bZ := below1 W0 (.cells #[.string ⟨#[]⟩, .string ⟨#[]⟩, .int .i64 0, .bool false] 26)
            have hz0 := box_zero W0 26
            have qT0 := qT.below bZ
            have hA0 : (fun W => (W.cell? ⟨w2.heap.size, 0, none⟩ = some (.string T.first) ∧ W.cell? ⟨w2.heap.size, 1, none⟩ = some (.string T.last) ∧ W.cell? ⟨w2.heap.size, 2, none⟩ = some (.slice ab T.bits.length cb) ∧ W.cell? ⟨w2.heap.size, 3, none⟩ = some (.slice ak T.blocks.length ck)) ∧ EntAt W bL (oL + k * 4) x) (W0.alloc (.cells #[.string ⟨#[]⟩, .string ⟨#[]⟩, .int .i64 0, .bool false] 26)) := ⟨c4_below hH.1 bZ, hH.2.below bZ⟩
            refine hK.out _ _ hA0 (fun h0 => ?_)
            clear hK K
            try simp only [Act.put, List.setIfInBounds_toArray, List.set_cons_zero, List.set_cons_succ]
            refine wpAnyH_ready (rs := [11]) (by kernel_rfl) (by simp) ?_
            refine AllReadyH.cons rfl (fun K hK => ?_) AllReadyH.nil
            go_simp
            refine (HCF.out _ k x hlt HX.out qT0).mono ?_
            rintro e W1 ⟨rfl, hb1⟩
            have bA := bZ.trans (hb1.mono bZ.size)
            have hz1 := hz0.below hb1
            have bB : Below W0.heap.size W0 ((((W1.setCell ⟨W0.heap.size, 0, none⟩ (.string x.key)).setCell ⟨W0.heap.size, 1, none⟩ (.string x.val)).setCell ⟨W0.heap.size, 2, none⟩ (.int .i64 x.seq)).setCell ⟨W0.heap.size, 3, none⟩ (.bool x.gone)) := below4 bA (Nat.le_refl _) _ _ _ _ _ _ _ _
            have hA1 : (fun W => (W.cell? ⟨w2.heap.size, 0, none⟩ = some (.string T.first) ∧ W.cell? ⟨w2.heap.size, 1, none⟩ = some (.string T.last) ∧ W.cell? ⟨w2.heap.size, 2, none⟩ = some (.slice ab T.bits.length cb) ∧ W.cell? ⟨w2.heap.size, 3, none⟩ = some (.slice ak T.blocks.length ck)) ∧ EntAt W bL (oL + k * 4) x) W1 := ⟨c4_below hH.1 bA, hH.2.below bA⟩
            have hA3 : (fun W => (W.cell? ⟨w2.heap.size, 0, none⟩ = some (.string T.first) ∧ W.cell? ⟨w2.heap.size, 1, none⟩ = some (.string T.last) ∧ W.cell? ⟨w2.heap.size, 2, none⟩ = some (.slice ab T.bits.length cb) ∧ W.cell? ⟨w2.heap.size, 3, none⟩ = some (.slice ak T.blocks.length ck)) ∧ EntAt W bL (oL + k * 4) x) ((((W1.setCell ⟨W0.heap.size, 0, none⟩ (.string x.key)).setCell ⟨W0.heap.size, 1, none⟩ (.string x.val)).setCell ⟨W0.heap.size, 2, none⟩ (.int .i64 x.seq)).setCell ⟨W0.heap.size, 3, none⟩ (.bool x.gone)) := ⟨c4_below hH.1 bB, hH.2.below bB⟩
            refine hK.out _ _ hA1 (fun h1 => ?_)
            clear hK K
            try simp only [Act.put, List.setIfInBounds_toArray, List.set_cons_zero, List.set_cons_succ]
            refine tkA 12 133 h1 ?_
            try simp only [Act.put, List.setIfInBounds_toArray, List.set_cons_zero, List.set_cons_succ]
            refine tkA 13 146 h1 ?_
            try simp only [Act.put, List.setIfInBounds_toArray, List.set_cons_zero, List.set_cons_succ]
            refine tkA 14 147 h1 ?_
            try simp only [Act.put, List.setIfInBounds_toArray, List.set_cons_zero, List.set_cons_succ]
            obtain ⟨z0, z1, z2, z3, f0, f1, f2, f3⟩ := hz1.facts
            refine wpAnyH_ready (rs := [16]) (by kernel_rfl) (by simp) ?_
            refine AllReadyH.cons rfl (fun K hK => ?_) AllReadyH.nil
            go_simp
            refine hK.out _ _ hA3 (fun h3 => ?_)
            clear hK K
            try simp only [Act.put, List.setIfInBounds_toArray, List.set_cons_zero, List.set_cons_succ]
            refine tkA 17 20 h3 ?_
            try simp only [Act.put, List.setIfInBounds_toArray, List.set_cons_zero, List.set_cons_succ]
            refine wpAnyH_done (by kernel_rfl) ?_ _
            refine NoPanic.normal ?_
            have qx := entAt_put4 hz1.1 x
            have qE := hA3.2
            replace qT := qT.below bB
            replace qr := qr.below bB
            replace qb := qb.trans (bB.mono qb.size)
            clear h0 h1 h3 hA0 hA1 hA3 hH hb1 bA bB bZ hz0 hz1 qT0 z0 z1 z2 z3 f0 f1 f2 f3
            generalize ((((W1.setCell ⟨W0.heap.size, 0, none⟩ (.string x.key)).setCell ⟨W0.heap.size, 1, none⟩ (.string x.val)).setCell ⟨W0.heap.size, 2, none⟩ (.int .i64 x.seq)).setCell ⟨W0.heap.size, 3, none⟩ (.bool x.gone)) = W4 at qT qr qb qx qE ⊢
            generalize W0.heap.size = B3 at qx ⊢
            clear W1 W0
            revert qx
            revert qE
            revert qb
            revert qr
            revert qT
            revert B3
            revert W4
            refine ?tailq
            intro W4 B3 qT qr qb qE qx
            go_wp2_with fail
            refine wp_region_noPanic ?_
            refine wp_region_held_drew (S := fun W => (W.cell? ⟨w2.heap.size, 0, none⟩ = some (.string T.first) ∧ W.cell? ⟨w2.heap.size, 1, none⟩ = some (.string T.last) ∧ W.cell? ⟨w2.heap.size, 2, none⟩ = some (.slice ab T.bits.length cb) ∧ W.cell? ⟨w2.heap.size, 3, none⟩ = some (.slice ak T.blocks.length ck)) ∧ EntAt W bL (oL + k * 4) x ∧ EntAt W B3 0 x) (by kernel_rfl) ⟨tbx qT, qE, qx⟩ (fun hM => ?_)
            have rT : TabBox W4.drew _ T _ _ := qT
            have rr : RdE W4.drew _ es := qr
            have rb := qb.drew
            clear qT qr qb qE qx
            revert hM rT rr rb
            generalize W4.drew = W5
            intro hM rT rr rb
            refine tkA 0 148 hM ?_
            try simp only [Act.put, List.setIfInBounds_toArray, List.set_cons_zero, List.set_cons_succ]
            refine tkA 1 149 hM ?_
            try simp only [Act.put, List.setIfInBounds_toArray, List.set_cons_zero, List.set_cons_succ]
            refine tkA 2 150 hM ?_
            try simp only [Act.put, List.setIfInBounds_toArray, List.set_cons_zero, List.set_cons_succ]
            refine tkA 3 151 hM ?_
            try simp only [Act.put, List.setIfInBounds_toArray, List.set_cons_zero, List.set_cons_succ]
            refine tkA 4 152 hM ?_
            try simp only [Act.put, List.setIfInBounds_toArray, List.set_cons_zero, List.set_cons_succ]
            refine tkA 5 153 hM ?_
            try simp only [Act.put, List.setIfInBounds_toArray, List.set_cons_zero, List.set_cons_succ]
            refine tkA 6 154 hM ?_
            try simp only [Act.put, List.setIfInBounds_toArray, List.set_cons_zero, List.set_cons_succ]
            refine tkA 7 155 hM ?_
            try simp only [Act.put, List.setIfInBounds_toArray, List.set_cons_zero, List.set_cons_succ]
            refine tkA 8 156 hM ?_
            try simp only [Act.put, List.setIfInBounds_toArray, List.set_cons_zero, List.set_cons_succ]
            refine tkA 9 157 hM ?_
            try simp only [Act.put, List.setIfInBounds_toArray, List.set_cons_zero, List.set_cons_succ]
            refine tkA 10 158 hM ?_
            try simp only [Act.put, List.setIfInBounds_toArray, List.set_cons_zero, List.set_cons_succ]
            refine tkA 11 159 hM ?_
            try simp only [Act.put, List.setIfInBounds_toArray, List.set_cons_zero, List.set_cons_succ]
            refine tkA 12 160 hM ?_
            try simp only [Act.put, List.setIfInBounds_toArray, List.set_cons_zero, List.set_cons_succ]
            refine tkA 13 161 hM ?_
            try simp only [Act.put, List.setIfInBounds_toArray, List.set_cons_zero, List.set_cons_succ]
            refine tkA 14 162 hM ?_
            try simp only [Act.put, List.setIfInBounds_toArray, List.set_cons_zero, List.set_cons_succ]
            refine tkA 15 163 hM ?_
            try simp only [Act.put, List.setIfInBounds_toArray, List.set_cons_zero, List.set_cons_succ]
            refine tkA 16 164 hM ?_
            try simp only [Act.put, List.setIfInBounds_toArray, List.set_cons_zero, List.set_cons_succ]
            refine wpAnyH_ready (rs := [17]) (by kernel_rfl) (by simp) ?_
            refine AllReadyH.cons rfl (fun K hK => ?_) AllReadyH.nil
            go_simp
            refine (HCM.out _ k x hlt HX.out rT).mono ?_
            rintro e W6 ⟨rfl, hb6⟩
            have sT := rT.below hb6
            have sr := rr.below hb6
            have sb := rb.trans (hb6.mono rb.size)
            refine hK.out _ _ ⟨c4_below hM.1 hb6, hM.2.1.below hb6, hM.2.2.below hb6⟩ (fun hN => ?_)
            clear hK K
            try simp only [Act.put, List.setIfInBounds_toArray, List.set_cons_zero, List.set_cons_succ]
            clear hM rT rr rb hb6
            refine tkA 18 166 hN ?_
            try simp only [Act.put, List.setIfInBounds_toArray, List.set_cons_zero, List.set_cons_succ]
            refine tkA 19 167 hN ?_
            try simp only [Act.put, List.setIfInBounds_toArray, List.set_cons_zero, List.set_cons_succ]
            refine wpAnyH_done (by kernel_rfl) ?_ _
            refine NoPanic.normal ?_
            clear hN
            go_wp2
            go_roundw
            case rel => exact ⟨k + 1, by omega, by go_num, sr, sT, sb⟩
            case measure => simp [intOf]; omega
          · skip
            have hke : ¬ (k : Int) < (nn : Int) := by omega
            obtain ⟨c0, c1, c2, c3⟩ := tbx hTk
            go_wp2_with fail
            refine (HCT.out _ hTk).mono ?_
            rintro e w30 ⟨rfl, hb30⟩
            have hT30 := hTk.below hb30
            have hr30 := hrk.below hb30
            have b30 := hbk.trans (hb30.mono hbk.size)
            clear hTk hrk hbk hb30 c0 c1 c2 c3
            obtain ⟨c0, c1, c2, c3⟩ := tbx hT30
            go_wp2_with fail
            refine (HCN.out _ hT30).mono ?_
            rintro e w31 ⟨u31, rfl, ho31, hb31⟩
            have hr31 := hr30.below hb31
            have b31 := b30.trans (hb31.mono b30.size)
            clear hT30 hr30 b30 hb31 c0 c1 c2 c3
            go_wp2_with fail
            refine (likeEnts_same _ _ _ _ ho31.rd hr31).mono ?_
            rintro e w32 ⟨rfl, n32, rfl⟩
            go_wp2
            go_ret
            exact ⟨rfl, below_drewN b31 n32⟩
theorem own_fnTables : ownKnob Try.prog.godebug = none := by kernel_rfl
theorem laidOut_fnTables : laidOutB Try.prog = true := by kernel_rfl
set_option maxRecDepth 100000 in
theorem lifted_fnTables (os : Os) (started : os.Started) (H : Type) (enc : TypeId × Value → H) :
    ReturnsInHanded {} Try.checked os 4 .any (Rows.fnTablesSpec.pre6 enc Try.prog Try.f4 Rows.fnTablesRow.domain false) (Rows.fnTablesSpec.post enc Try.prog Try.f4 false true false false) := by
  refine returnsInHanded_of_change (C := Try.checked) own_fnTables started (by kernel_rfl) Try.func4
    (ChangeSpec.witness6 (enc := enc) (C := Try.checked) false ⟨#[], #[.slice none 0 0], []⟩ 8 (by kernel_rfl) (by kernel_rfl) (by kernel_rfl) (by kernel_rfl)) ?_
  intro W base args ds gs before hval0 hW hcnd _
  have hval : ∀ (j : Nat) t v, Try.f4.params[j]? = some t → args[j]? = some v → Value.okWide Try.prog W .any base t v := hval0
  have hW' := hW
  obtain ⟨p, q, hA0, hV, rfl, hfz, hnd⟩ := hW
  have hA : DataW.TrodAll enc Try.prog W 0 (fun _ => true) true Try.f4.params.toList args.toList ds p := hA0
  rw [Try.params4] at hA hval
  obtain ⟨v0, vs0, d0, ds0, p0, q0, hargs, rfl, rfl, h0, r0⟩ := trodAll_cons hA
  obtain ⟨rfl, rfl, rfl⟩ := trodAll_nil r0
  obtain rfl : args = #[v0] := by cases args; simp_all
  obtain ⟨rfl, rfl⟩ := trodVars_none hV
  obtain ⟨a0, len0, cap0, rfl⟩ := okWide_slice Try.underlying22 (hval 0 22 v0 rfl rfl)
  have k0 := h0
  have lt0 : ∀ x ∈ p0, x.block < W.heap.size := by obtain ⟨m, hm⟩ := k0; exact DataW.trod_lt m _ _ _ hm
  obtain ⟨bs0, hr0⟩ : ∃ bs, Rd W (.slice a0 len0 cap0) bs := by
    obtain ⟨fuel, hf⟩ := h0
    rcases open_ints Try.underlying22 Try.underlying5 (by kernel_rfl) hf with ⟨hcs, _⟩ | ⟨x, l, c, zs, hcs, _, hl, hm, hz, _, hcell, hwz⟩
    · simp [Value.cells] at hcs
      obtain ⟨rfl, rfl, rfl⟩ := hcs
      exact ⟨[], rd_nil W⟩
    · simp [Value.cells] at hcs
      obtain ⟨rfl, rfl, rfl⟩ := hcs
      exact rd_of hl hm (by simpa using hz) hcell hwz
  clear hA0 hval0
  refine (lawTablesF _ bs0 W hr0).mono fun e W' ⟨he, bel⟩ => ?_
  subst he
  exact ⟨_, rfl, _, _, _, [], _, [], hW', trodAll_mk1 (shut_bool Try.underlying4 _), (trodAll_cons_mk (Below.trod laidOut_fnTables (by kernel_rfl) (of_decide_eq_true (by kernel_rfl)) k0 bel lt0) trodAll_mk0), rfl, bel.frame _, fun h => by cases h⟩
theorem over_fnTables : Rows.fnTablesRow.holds Try.pinned (OpenSpec.ofChange Rows.fnTablesSpec) :=
  OpenClaim.holds_of_wide 4 Try.f4 rfl rfl rfl rfl rfl rfl rfl ⟨rfl, rfl, rfl, rfl, rfl⟩ rfl rfl rfl rfl rfl (by kernel_rfl) Try.func4 (by kernel_rfl)
    (of_decide_eq_true (by kernel_rfl)) (by unfold Func.isWrapper; first | (rw [if_pos (by decide +kernel)]; kernel_rfl) | (rw [if_neg (by decide +kernel)]; exact ⟨rfl, rfl⟩))
    (fun os started H enc _ => lifted_fnTables os started H enc)
theorem fnTables_holds : Rows.FnTablesSaid := over_fnTables
#print axioms fnTables_holds

end Go.Proofs.Ythaobdknpgnapaa
