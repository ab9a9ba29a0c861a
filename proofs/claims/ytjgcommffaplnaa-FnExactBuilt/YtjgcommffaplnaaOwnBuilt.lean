/- Whatever entries it is called with, laws.FnExactBuilt returns true and its argument reads as before: both Built make the same table, in memory of their own, and what they are handed stays. No condition. -/
import Derived.Test.YtjgcommffaplnaaRows
import Derived.Test.YtjgcommffaplnaaTabCp
import Derived.Test.YtjgcommffaplnaaTabImpl
import Derived.Test.YtjgcommffaplnaaEntCp
import Derived.Test.YtjgcommffaplnaaEntMark
import Derived.Test.YtjgcommffaplnaaEntOpen
import Derived.ProofKit
import Derived.OpenShut
import Derived.ShutString
import Derived.ChangeOld
namespace Go.Proofs.Ytjgcommffaplnaa
open Go.ChangeShapes Go.WideShapes Go.ChangeAt Go.RowKit
theorem heldSzB {es : List Ent} (h : ∀ e ∈ es, Held e) : ∀ x ∈ es, x.key.size ≤ maxLen ∧ x.val.size ≤ maxLen := fun x hx => ⟨(h x hx).1, (h x hx).2.1⟩
theorem heldFitsB {es : List Ent} (h : ∀ e ∈ es, Held e) (h2 : ∀ x ∈ es, x.key.size ≤ 1048576 ∧ x.val.size ≤ 1048576) : ∀ e ∈ es, Fits e := fun e he =>
  ⟨by have := (h2 e he).1; omega, by have := (h2 e he).2; omega, (h e he).2.2.1, (h e he).2.2.2⟩
theorem builtL_len (es : List Ent) : (builtL es).bits.length ≤ 600 ∧ (builtL es).blocks.length ≤ 40 := by
  unfold builtL
  split
  · rename_i h
    simp only [builtOk, Bool.and_eq_true] at h
    have := okL_len h.1
    have h2 := bitsL_len es
    unfold builtT blksL
    simp only
    rw [blkF_len]
    omega
  · exact ⟨Nat.zero_le _, Nat.zero_le _⟩
theorem markT_old {w w' : World} {B k C t s n : Nat} {T : Tbl} {vb vk v : Value} {e : Ending} {xs : List Value} (hm : MarkT w B k T vb vk e w') (hi : OwnI w B vb T.bits) (hk : OwnS w B vk T.blocks) (ho : w.ownsRow C t s v n xs) (hl : ∀ j, v.ownBlock = some j → j < B) : w'.ownsRow C t s v n xs := by
  obtain ⟨_, _, _, w1, w2, hb, g1, g2⟩ := hm
  have i1 := hi.below hb
  have k1 := hk.below hb
  have o1 := own_below ho hb
  have k2 : OwnS w2 B vk T.blocks := row_kept k1 g1 (fun j hj e => rows_apart k1 i1 (by decide) j hj e)
  have o2 : w2.ownsRow C t s v n xs := row_kept o1 g1 (fun j hj e => by have h1 := hl j hj; have h2 := (World.ownsRow.lt i1 j e).1; omega)
  exact row_kept o2 g2 (fun j hj e => by have h1 := hl j hj; have h2 := (World.ownsRow.lt k2 j e).1; omega)
theorem markT_box {w w' : World} {B b k : Nat} {f l : ByteArray} {T : Tbl} {vb vk ub uk : Value} {e : Ending} (hm : MarkT w B k T vb vk e w') (hi : OwnI w B vb T.bits) (hk : OwnS w B vk T.blocks) (ht : BoxT w b f l ub uk) : BoxT w' b f l ub uk := by
  obtain ⟨_, _, _, w1, w2, hb, g1, g2⟩ := hm
  have i1 := hi.below hb
  have k1 := hk.below hb
  have k2 : OwnS w2 B vk T.blocks := row_kept k1 g1 (fun j hj e => rows_apart k1 i1 (by decide) j hj e)
  have t1 := ht.below hb
  have n1 := boxT_row t1 i1 (by decide)
  have t2 : BoxT w2 b f l ub uk := t1.block (g1.block _ t1.lt (fun e => n1 _ e.symm rfl))
  have n2 := boxT_row t2 k2 (by decide)
  exact t2.block (g2.block _ t2.lt (fun e => n2 _ e.symm rfl))
set_option maxHeartbeats 4000000 in
set_option maxRecDepth 100000 in
theorem lawBuilt (v : Value) (es : List Ent) (w : World) (hr : RdE w v es) (hh : ∀ e ∈ es, Held e) :
    Calls Try.prog 5 #[v] w fun e w' => e = .returned (.bool true) ∧ Below w.heap.size w w' := by
  go_enter Try.func5, Try.ntmps5
  go_wp2_with fail
  refine (szEnts_any _ es _ hr (heldSzB hh)).mono ?_
  rintro e w0 ⟨b0, z, rfl, hz⟩
  rcases hz with hz | ⟨hz0, hz1, hl, hsz⟩
  · subst hz
    go_wp2
    go_ret
    exact ⟨rfl, b0⟩
  have HF : Hid (∀ e ∈ es, Fits e) := heldFitsB hh hsz
  obtain ⟨hyl1, hyl2⟩ := builtL_len es
  have HS : Hid (∀ u w', RdE w' u es → Calls Try.prog 16 #[u] w' fun e w'' => BuiltPost w' (builtL es) (builtOk es) e w'') := fun u w' h => specBuilt_any u es w' h HF.out
  have HI : Hid (∀ u w', RdE w' u es → Calls Try.prog 11 #[u] w' fun e w'' => BuiltPost w' (builtL es) (builtOk es) e w'') := fun u w' h => implBuilt_any u es w' h HF.out
  generalize builtL es = T at hyl1 hyl2 HS HI
  generalize builtOk es = ok at HS HI
  have hok : (ok != ok) = false := by cases ok <;> rfl
  obtain ⟨bn, hbn⟩ : ∃ bn, bn = T.bits.length := ⟨_, rfl⟩
  obtain ⟨kn, hkn⟩ : ∃ kn, kn = T.blocks.length := ⟨_, rfl⟩
  have HB : Hid (∀ {W E v}, OwnI W E v T.bits → ∃ a c, v = .slice a bn c) := fun h => by obtain ⟨a, c, hv, _⟩ := h.rd; exact ⟨a, c, by rw [hbn]; exact hv⟩
  have HK : Hid (∀ {W E v}, OwnS W E v T.blocks → ∃ a c, v = .slice a kn c) := fun h => by obtain ⟨a, c, hv, _⟩ := h.rd; exact ⟨a, c, by rw [hkn]; exact hv⟩
  have HM1 : Hid ((1 + T.bits.length + T.blocks.length : Nat) = 1 + bn + kn) := by unfold Hid; rw [hbn, hkn]
  have hb6 : bn ≤ 600 := by omega
  have hk4 : kn ≤ 40 := by omega
  have HBN : Hid (bn = T.bits.length) := hbn
  have HKN : Hid (kn = T.blocks.length) := hkn
  clear hsz hh hbn hkn
  have hq3 : ¬ 1 + 4 * (es.length : Int) < 0 := by omega
  go_wp2_with fail
  refine (toEnts_any _ es _ (hr.below b0) (by omega)).mono ?_
  rintro e w1 ⟨u1, rfl, ho1, hb1⟩
  have b1 := b0.trans (hb1.mono b0.size)
  clear b0
  go_wp2_with fail
  refine (HS.out _ _ ho1.rd).mono ?_
  rintro e w2 ⟨wb, wk, rfl, hwb, hwk, hb2⟩
  have b2 := b1.trans (hb2.mono b1.size)
  obtain ⟨a1, c1, hs1⟩ := HB.out hwb
  obtain ⟨a2, c2, hs2⟩ := HK.out hwk
  subst hs1
  subst hs2
  have xw := boxT_new w2 T.first T.last (.slice a1 bn c1) (.slice a2 kn c2)
  have bb := below1 w2 (.cells #[.string T.first, .string T.last, .slice a1 bn c1, .slice a2 kn c2] 29)
  have hwb2 := hwb.below bb
  have hwk2 := hwk.below bb
  have b22 := b2.trans (bb.mono b2.size)
  obtain ⟨y0, y1, y2, y3, _⟩ := xw.facts
  clear ho1 b1 hb1 hb2 hwb hwk b2 bb
  go_wp2_with fail
  generalize hW2 : w2.alloc (.cells #[.string T.first, .string T.last, .slice a1 bn c1, .slice a2 kn c2] 29) = W2 at xw hwb2 hwk2 b22 ⊢
  clear hW2 y0 y1 y2 y3
  refine (toEnts_any _ es _ (hr.below b22) (by omega)).mono ?_
  rintro e w3 ⟨x0, rfl, hx3, hb3⟩
  have b3 := b22.trans (hb3.mono b22.size)
  have xw3 := xw.below hb3
  have hwb3 := hwb2.below hb3
  have hwk3 := hwk2.below hb3
  have lwb : ∀ k, (Value.slice a1 bn c1).ownBlock = some k → k < W2.heap.size := fun k hk => (World.ownsRow.lt hwb2 k hk).2
  have lwk : ∀ k, (Value.slice a2 kn c2).ownBlock = some k → k < W2.heap.size := fun k hk => (World.ownsRow.lt hwk2 k hk).2
  have lx : ∀ k, x0.ownBlock = some k → W2.heap.size ≤ k ∧ k < w3.heap.size := fun k hk => World.ownsRow.lt hx3 k hk
  have s23 := hb3.size
  have s02 := b22.size
  clear xw hwb2 hwk2 hb3 b22
  go_wp2_with fail
  refine (HI.out _ _ hx3.rd).mono ?_
  rintro e w4 ⟨gb, gk, rfl, hgb, hgk, hb4⟩
  have b4 := b3.trans (hb4.mono b3.size)
  obtain ⟨a3, c3, hs3⟩ := HB.out hgb
  obtain ⟨a4, c4, hs4⟩ := HK.out hgk
  subst hs3
  subst hs4
  have xg := boxT_new w4 T.first T.last (.slice a3 bn c3) (.slice a4 kn c4)
  have bb := below1 w4 (.cells #[.string T.first, .string T.last, .slice a3 bn c3, .slice a4 kn c4] 29)
  have xw4 := (xw3.below hb4).below bb
  have hwb4 := (hwb3.below hb4).below bb
  have hwk4 := (hwk3.below hb4).below bb
  have hx4 := (hx3.below hb4).below bb
  have hgb4 := hgb.below bb
  have hgk4 := hgk.below bb
  have b44 := b4.trans (bb.mono b4.size)
  obtain ⟨y0, y1, y2, y3, _⟩ := xg.facts
  obtain ⟨z0, z1, z2, z3, _⟩ := xw4.facts
  clear xw3 hwb3 hwk3 hx3 hgb hgk b3 b4 hb4 bb
  go_wp2_with fail
  generalize hW4 : w4.alloc (.cells #[.string T.first, .string T.last, .slice a3 bn c3, .slice a4 kn c4] 29) = W4 at xg xw4 hwb4 hwk4 hx4 hgb4 hgk4 b44 ⊢
  clear hW4 y0 y1 y2 y3 z0 z1 z2 z3
  refine (eqTable_same T _ _ _ _ _ hgb4.rd hgk4.rd hwb4.rd hwk4.rd).mono ?_
  rintro e w5 ⟨rfl, hb5⟩
  have xg5 := xg.below hb5
  have xw5 := xw4.below hb5
  have hwb5 := hwb4.below hb5
  have hwk5 := hwk4.below hb5
  have hx5 := hx4.below hb5
  have hgb5 := hgb4.below hb5
  have hgk5 := hgk4.below hb5
  have b5 := b44.trans (hb5.mono b44.size)
  clear xg xw4 hwb4 hwk4 hx4 hgb4 hgk4 b44 hb5
  go_wp2_with fail
  refine (toEnts_any _ es _ (hr.below b5) (by omega)).mono ?_
  rintro e w6 ⟨u6, rfl, ho6, hb6⟩
  have xg6 := xg5.below hb6
  have xw6 := xw5.below hb6
  have hwb6 := hwb5.below hb6
  have hwk6 := hwk5.below hb6
  have hx6 := hx5.below hb6
  have hgb6 := hgb5.below hb6
  have hgk6 := hgk5.below hb6
  have b6 := b5.trans (hb6.mono b5.size)
  clear xg5 xw5 hwb5 hwk5 hx5 hgb5 hgk5 b5 hb6
  go_wp2_with fail
  refine (eqEnts_same _ _ es _ hx6.rd ho6.rd).mono ?_
  rintro e w7 ⟨rfl, hb7⟩
  have xg7 := xg6.below hb7
  have xw7 := xw6.below hb7
  have hwb7 := hwb6.below hb7
  have hwk7 := hwk6.below hb7
  have hx7 := hx6.below hb7
  have hgb7 := hgb6.below hb7
  have hgk7 := hgk6.below hb7
  have b7 := b6.trans (hb7.mono b6.size)
  clear xg6 xw6 hwb6 hwk6 hx6 hgb6 hgk6 b6 hb7 ho6
  go_wp2_with fail
  refine (emark_one x0 es _ _ (by omega) hx7).mono ?_
  rintro e w8 ⟨rfl, _, hm8⟩
  have hwb8 : OwnI w8 _ (.slice a1 bn c1) T.bits := row_kept hwb7 hm8 (fun j hj e => rows_apart hwb7 hx7 (by decide) j hj e)
  have hwk8 : OwnS w8 _ (.slice a2 kn c2) T.blocks := row_kept hwk7 hm8 (fun j hj e => rows_apart hwk7 hx7 (by decide) j hj e)
  have hgb8 : OwnI w8 w3.heap.size (.slice a3 bn c3) T.bits := row_kept hgb7 hm8 (fun j hj e => rows_apart hgb7 hx7 (by decide) j hj e)
  have hgk8 : OwnS w8 w3.heap.size (.slice a4 kn c4) T.blocks := row_kept hgk7 hm8 (fun j hj e => rows_apart hgk7 hx7 (by decide) j hj e)
  have ng := boxT_row xg7 hx7 (by decide)
  have nw := boxT_row xw7 hx7 (by decide)
  have xg8 : BoxT w8 w4.heap.size T.first T.last (.slice a3 bn c3) (.slice a4 kn c4) := xg7.block (hm8.block _ xg7.lt (fun e => ng _ e.symm rfl))
  have xw8 : BoxT w8 w2.heap.size T.first T.last (.slice a1 bn c1) (.slice a2 kn c2) := xw7.block (hm8.block _ xw7.lt (fun e => nw _ e.symm rfl))
  have b8 : Below w.heap.size w w8 := b7.grown hm8 b7.size (fun k hk => by have := (lx k hk).1; omega)
  clear xg7 xw7 hwb7 hwk7 hx7 hgb7 hgk7 b7 hm8 ng nw
  obtain ⟨y0, y1, y2, y3, _⟩ := xg8.facts
  obtain ⟨z0, z1, z2, z3, _⟩ := xw8.facts
  go_wp2_with fail
  refine (eqTable_same T _ _ _ _ _ hgb8.rd hgk8.rd hwb8.rd hwk8.rd).mono ?_
  rintro e w9 ⟨rfl, hb9⟩
  have xg9 := xg8.below hb9
  have xw9 := xw8.below hb9
  have hwb9 := hwb8.below hb9
  have hwk9 := hwk8.below hb9
  have hgb9 := hgb8.below hb9
  have hgk9 := hgk8.below hb9
  have b9 := b8.trans (hb9.mono b8.size)
  clear xg8 xw8 hwb8 hwk8 hgb8 hgk8 b8 hb9 y0 y1 y2 y3 z0 z1 z2 z3
  obtain ⟨y0, y1, y2, y3, _⟩ := xg9.facts
  go_wp2_with fail
  refine (markTable_any T _ _ w3.heap.size 1 _ hgb9 hgk9 (by omega) (by have := HM1.out; omega)).mono ?_
  rintro e w10 hmt
  have xg10 := markT_box hmt hgb9 hgk9 xg9
  have xw10 := markT_box hmt hgb9 hgk9 xw9
  have hwb10 : OwnI w10 _ (.slice a1 bn c1) T.bits := markT_old hmt hgb9 hgk9 hwb9 (fun j hj => Nat.lt_of_lt_of_le (lwb j hj) s23)
  have hwk10 : OwnS w10 _ (.slice a2 kn c2) T.blocks := markT_old hmt hgb9 hgk9 hwk9 (fun j hj => Nat.lt_of_lt_of_le (lwk j hj) s23)
  have b10 := markT_below hmt hgb9 hgk9 b9 (Nat.le_trans s02 s23) b9.size
  obtain ⟨hme, hgb10, hgk10, _⟩ := hmt
  rw [HM1.out] at hme
  subst hme
  rw [← HBN.out] at hgb10 hgk10
  rw [← HKN.out] at hgk10
  clear xg9 xw9 hwb9 hwk9 hgb9 hgk9 b9 y0 y1 y2 y3
  have hq1 : ¬ ((1 + bn + kn : Nat) : Int) < 0 := by omega
  have hq2 : (((1 + bn + kn : Nat) : Int) != ((1 + bn + kn : Nat) : Int)) = false := by simp
  have HHT : Hid (∀ W, OwnI W w3.heap.size (.slice a3 bn c3) (imarks 1 bn) → OwnS W w3.heap.size (.slice a4 kn c4) (smarks (1 + bn) kn) → Calls Try.prog 35 #[.agg #[.string T.first, .string T.last, .slice a3 bn c3, .slice a4 kn c4], .int .i64 1] W fun e w' => e = .returned (.int .i64 ((1 + bn + kn : Nat) : Int)) ∧ Below W.heap.size W w') := fun W h1 h2 => heldTable_any T.first T.last bn kn _ _ 1 W h1.rd h2.rd (by omega) (by omega)
  generalize (1 + bn + kn : Nat) = kk at hq1 hq2 HHT ⊢
  obtain ⟨y0, y1, y2, y3, _⟩ := xg10.facts
  go_wp2_with fail
  refine (HHT.out _ hgb10 hgk10).mono ?_
  rintro e w11 ⟨rfl, hb11⟩
  have xg11 := xg10.below hb11
  have xw11 := xw10.below hb11
  have hwb11 := hwb10.below hb11
  have hwk11 := hwk10.below hb11
  have hgb11 := hgb10.below hb11
  have hgk11 := hgk10.below hb11
  have b11 := b10.trans (hb11.mono b10.size)
  clear xg10 xw10 hwb10 hwk10 hgb10 hgk10 b10 hb11 y0 y1 y2 y3
  go_wp2_with fail
  refine (toEnts_any _ es _ (hr.below b11) (by omega)).mono ?_
  rintro e w12 ⟨u12, rfl, ho12, hb12⟩
  have xg12 := xg11.below hb12
  have xw12 := xw11.below hb12
  have hwb12 := hwb11.below hb12
  have hwk12 := hwk11.below hb12
  have hgb12 := hgb11.below hb12
  have hgk12 := hgk11.below hb12
  have b12 := b11.trans (hb12.mono b11.size)
  clear xg11 xw11 hwb11 hwk11 hgb11 hgk11 b11 hb12
  go_wp2_with fail
  refine (HI.out _ _ ho12.rd).mono ?_
  rintro e w13 ⟨pb, pk, rfl, hpb, hpk, hb13⟩
  obtain ⟨a5, c5, hs5⟩ := HB.out hpb
  obtain ⟨a6, c6, hs6⟩ := HK.out hpk
  subst hs5
  subst hs6
  have xh := boxT_new w13 T.first T.last (.slice a5 bn c5) (.slice a6 kn c6)
  have bb := below1 w13 (.cells #[.string T.first, .string T.last, .slice a5 bn c5, .slice a6 kn c6] 29)
  have xg13 := (xg12.below hb13).below bb
  have xw13 := (xw12.below hb13).below bb
  have hwb13 := (hwb12.below hb13).below bb
  have hwk13 := (hwk12.below hb13).below bb
  have hgb13 := (hgb12.below hb13).below bb
  have hgk13 := (hgk12.below hb13).below bb
  have hpb13 := hpb.below bb
  have hpk13 := hpk.below bb
  have b13 := (b12.trans (hb13.mono b12.size)).trans (bb.mono (Nat.le_trans b12.size hb13.size))
  obtain ⟨y0, y1, y2, y3, _⟩ := xh.facts
  obtain ⟨z0, z1, z2, z3, _⟩ := xw13.facts
  clear xg12 xw12 hwb12 hwk12 hgb12 hgk12 b12 hb13 hpb hpk bb ho12
  go_wp2_with fail
  generalize hW13 : w13.alloc (.cells #[.string T.first, .string T.last, .slice a5 bn c5, .slice a6 kn c6] 29) = W13 at xh xg13 xw13 hwb13 hwk13 hgb13 hgk13 hpb13 hpk13 b13 ⊢
  clear hW13 y0 y1 y2 y3 z0 z1 z2 z3
  refine (eqTable_same T _ _ _ _ _ hpb13.rd hpk13.rd hwb13.rd hwk13.rd).mono ?_
  rintro e w14 ⟨rfl, hb14⟩
  have xg14 := xg13.below hb14
  have hgb14 := hgb13.below hb14
  have hgk14 := hgk13.below hb14
  have b14 := b13.trans (hb14.mono b13.size)
  clear xh xg13 xw13 hwb13 hwk13 hgb13 hgk13 hpb13 hpk13 b13 hb14
  obtain ⟨y0, y1, y2, y3, _⟩ := xg14.facts
  go_wp2_with fail
  refine (HHT.out _ hgb14 hgk14).mono ?_
  rintro e w15 ⟨rfl, hb15⟩
  have b15 := b14.trans (hb15.mono b14.size)
  clear xg14 hgb14 hgk14 b14 hb15 y0 y1 y2 y3
  go_wp2
  go_ret
  exact ⟨rfl, b15⟩
theorem own_fnExactBuilt : ownKnob Try.prog.godebug = none := by kernel_rfl
theorem laidOut_fnExactBuilt : laidOutB Try.prog = true := by kernel_rfl
set_option maxRecDepth 100000 in
theorem lifted_fnExactBuilt (os : Os) (started : os.Started) (H : Type) (enc : TypeId × Value → H) :
    ReturnsInHanded {} Try.checked os 5 .any (Rows.fnExactBuiltSpec.pre6 enc Try.prog Try.f5 Rows.fnExactBuiltRow.domain false) (Rows.fnExactBuiltSpec.post enc Try.prog Try.f5 false true false false) := by
  refine returnsInHanded_of_change (C := Try.checked) own_fnExactBuilt started (by kernel_rfl) Try.func5
    (ChangeSpec.witness6 (enc := enc) (C := Try.checked) false ⟨#[], #[.slice none 0 0], []⟩ 8 (by kernel_rfl) (by kernel_rfl) (by kernel_rfl) (by kernel_rfl)) ?_
  intro W base args ds gs before hval0 hW hcnd _
  have hval : ∀ (j : Nat) t v, Try.f5.params[j]? = some t → args[j]? = some v → Value.okWide Try.prog W .any base t v := hval0
  have hW' := hW
  obtain ⟨p, q, hA0, hV, rfl, hfz, hnd⟩ := hW
  have hA : DataW.TrodAll enc Try.prog W 0 (fun _ => true) true Try.f5.params.toList args.toList ds p := hA0
  rw [Try.params5] at hA hval
  obtain ⟨v0, vs0, d0, ds0, p0, q0, hargs, rfl, rfl, h0, r0⟩ := trodAll_cons hA
  obtain ⟨rfl, rfl, rfl⟩ := trodAll_nil r0
  obtain rfl : args = #[v0] := by cases args; simp_all
  obtain ⟨rfl, rfl⟩ := trodVars_none hV
  obtain ⟨a0, len0, cap0, rfl⟩ := okWide_slice Try.underlying53 (hval 0 53 v0 rfl rfl)
  have k0 := h0
  have lt0 : ∀ x ∈ p0, x.block < W.heap.size := by obtain ⟨m, hm⟩ := k0; exact DataW.trod_lt m _ _ _ hm
  obtain ⟨es0, hr0, hh0⟩ := open_ents k0 ⟨a0, len0, cap0, rfl⟩
  clear hA0 hval0
  refine (lawBuilt _ es0 W hr0 hh0).mono fun e W' ⟨he, bel⟩ => ?_
  subst he
  exact ⟨_, rfl, _, _, _, [], _, [], hW', trodAll_mk1 (shut_bool Try.underlying4 _), (trodAll_cons_mk (Below.trod laidOut_fnExactBuilt (by kernel_rfl) (of_decide_eq_true (by kernel_rfl)) k0 bel lt0) trodAll_mk0), rfl, bel.frame _, fun h => by cases h⟩
theorem over_fnExactBuilt : Rows.fnExactBuiltRow.holds Try.pinned (OpenSpec.ofChange Rows.fnExactBuiltSpec) :=
  OpenClaim.holds_of_wide 5 Try.f5 rfl rfl rfl rfl rfl rfl rfl ⟨rfl, rfl, rfl, rfl, rfl⟩ rfl rfl rfl rfl rfl (by kernel_rfl) Try.func5 (by kernel_rfl)
    (of_decide_eq_true (by kernel_rfl)) (by unfold Func.isWrapper; first | (rw [if_pos (by decide +kernel)]; kernel_rfl) | (rw [if_neg (by decide +kernel)]; exact ⟨rfl, rfl⟩))
    (fun os started H enc _ => lifted_fnExactBuilt os started H enc)
theorem fnExactBuilt_holds : Rows.FnExactBuiltSaid := over_fnExactBuilt
#print axioms fnExactBuilt_holds

end Go.Proofs.Ytjgcommffaplnaa
