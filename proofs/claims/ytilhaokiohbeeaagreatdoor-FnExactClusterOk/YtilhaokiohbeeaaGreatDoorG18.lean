/- The laws' own helpers over a Cluster: measured, copied, alike. A Cluster that came in as an argument. Plain facts on rows of pointers that a call owns or reads. -/
import Derived.Test.YtilhaokiohbeeaaGreatDoorG13
import Derived.Test.YtilhaokiohbeeaaGreatDoorMgsCp
import Derived.Deep.Cut
import Derived.Test.YtilhaokiohbeeaaGreatDoorG11
import Derived.Test.YtilhaokiohbeeaaGreatDoorG02
-- UNF Gen
namespace Go.Proofs.YtilhaokiohbeeaaGreatDoor
open Go.RowKit
/-- A Cluster with the values of its rows. -/
structure ClX where
  vr : Value
  rs : List RepX
  vm : Value
  ms : List MsX
structure RdCl (w : World) (X : ClX) : Prop where
  rr : RdRs w X.vr X.rs
  ir : InRs w X.rs
  rm : RdMs w X.vm X.ms
  im : InMs w X.ms
theorem RdCl.below {w w' : World} {X : ClX} (h : RdCl w X) (hb : Below w.heap.size w w') : RdCl w' X := ⟨h.rr.below hb, h.ir.below hb, h.rm.below hb, h.im.below hb⟩
structure SmallCl (X : ClX) : Prop where
  lr : X.rs.length ≤ 1048576
  sr : ∀ t ∈ X.rs, SmallRep t
  lm : X.ms.length ≤ 1048576
  sm : ∀ t ∈ X.ms, SmallMs t
def ClX.pl (X : ClX) : List Rep × List Msg := (X.rs.map RepX.rep, X.ms.map MsX.m)
theorem Bx.d2 {w : World} {b t : Nat} {u0 u1 : Value} (h : Bx w b t #[u0, u1]) : w.cell? ⟨b, 0, none⟩ = some u0 ∧ w.cell? ⟨b, 1, none⟩ = some u1 := ⟨h.cell 0 rfl, h.cell 1 rfl⟩
def SzCl (w : World) (X : ClX) (e : Ending) (w' : World) : Prop := Below w.heap.size w w' ∧ ∃ z : Int, e = .returned (.int .i64 z) ∧ (z = -1 ∨ 0 ≤ z ∧ SmallCl X)
set_option maxHeartbeats 2000000 in
set_option maxRecDepth 100000 in
theorem szCluster_any (X : ClX) (l : Int) (w : World) (hx : RdCl w X) (h1 : ∀ t ∈ X.rs, TxtRep t) (h2 : ∀ t ∈ X.ms, TxtMs t) (hl0 : 0 ≤ l) (hl1 : l ≤ 1048576) :
    Calls Tryz.prog 58 #[.agg #[X.vr, X.vm], .int .i64 l] w fun e w' => SzCl w X e w' := by
  obtain ⟨vr, rs, vm, ms⟩ := X
  obtain ⟨ar, kr, hvr, -⟩ := id hx.rr
  obtain ⟨am, km, hvm, -⟩ := id hx.rm
  simp only at hvr hvm h1 h2 ⊢
  have HR : Hid (∀ W, Below w.heap.size w W → Calls Tryz.prog 133 #[vr, .int .i64 l] W fun e w' => SzRs W rs l e w') := fun W h => szRs_at vr rs l W (hx.rr.below h) (hx.ir.below h) h1 hl0 hl1
  have HM : Hid (∀ l W, Below w.heap.size w W → 0 ≤ l → l ≤ 1048576 → Calls Tryz.prog 134 #[vm, .int .i64 l] W fun e w' => SzMs W ms l e w') := fun l W h g0 g1 => szMs_at vm ms l W (hx.rm.below h) (hx.im.below h) h2 g0 g1
  clear hx h1 h2
  generalize rs.length = nr at hvr
  generalize ms.length = nm at hvm
  subst hvr hvm
  have t0 := bx_new w 106 #[.slice ar nr kr, .slice am nm km]
  have b0 := below1 w (.cells #[.slice ar nr kr, .slice am nm km] 106)
  obtain ⟨q0, q1⟩ := t0.d2
  go_enter Tryz.func58, Tryz.ntmps58
  go_wp2_with fail
  refine (HR.out _ b0).mono ?_
  rintro e w1 ⟨hb1, z1, rfl, hz1⟩
  have t1 := t0.below hb1
  have b1 := b0.trans (hb1.mono b0.size)
  clear q0 q1 t0 b0 hb1 HR
  obtain ⟨q0, q1⟩ := t1.d2
  rcases hz1 with hz1 | ⟨hz10, hz11, hz12, hz13⟩
  · subst hz1
    go_wp2
    go_ret
    exact ⟨b1, -1, rfl, .inl rfl⟩
  have hle1 : z1 ≤ 1048576 := by omega
  have HS1 : Hid (rs.length ≤ 1048576 ∧ ∀ t ∈ rs, SmallRep t) := ⟨hz12, hz13⟩
  clear hz11 hz12 hz13 hl0 hl1
  go_wp2_with fail
  refine (HM.out _ _ b1 hz10 hle1).mono ?_
  rintro e w2 ⟨hb2, z2, rfl, hz2⟩
  have b2 := b1.trans (hb2.mono b1.size)
  clear q0 q1 t1 b1 hb2 HM
  rcases hz2 with hz2 | ⟨hz20, hz21, hz22, hz23⟩
  · subst hz2
    go_wp2
    go_ret
    exact ⟨b2, -1, rfl, .inl rfl⟩
  have HF : Hid (SmallCl ⟨.slice ar nr kr, rs, .slice am nm km, ms⟩) := ⟨HS1.out.1, HS1.out.2, hz22, hz23⟩
  clear hz21 hz22 hz23 HS1 hle1
  go_wp2
  go_ret
  exact ⟨b2, z2, rfl, .inr ⟨hz20, HF.out⟩⟩
def ToCl (w : World) (p : List Rep × List Msg) (e : Ending) (w' : World) : Prop := ∃ Y : ClX, e = .returned (.agg #[Y.vr, Y.vm]) ∧ Y.pl = p ∧ OwnL2Rs w' w.heap.size Y.vr Y.rs ∧ OwnL2Ms w' w.heap.size Y.vm Y.ms ∧ Below w.heap.size w w'
theorem ToCl.rd {w w' : World} {Y : ClX} (h1 : OwnL2Rs w' w.heap.size Y.vr Y.rs) (h2 : OwnL2Ms w' w.heap.size Y.vm Y.ms) : RdCl w' Y := ⟨h1.row.rd, h1.ins.rd, h2.row.rd, h2.ins.rd⟩
set_option maxHeartbeats 4000000 in
set_option maxRecDepth 100000 in
theorem toCluster_any (X : ClX) (w : World) (hx : RdCl w X) (hs : SmallCl X) :
    Calls Tryz.prog 59 #[.agg #[X.vr, X.vm]] w fun e w' => ToCl w X.pl e w' := by
  obtain ⟨vr, rs, vm, ms⟩ := X
  obtain ⟨ar, kr, hvr, -⟩ := id hx.rr
  obtain ⟨am, km, hvm, -⟩ := id hx.rm
  simp only at hvr hvm ⊢
  have HR : Hid (∀ W, Below w.heap.size w W → Calls Tryz.prog 135 #[vr] W fun e w' => TosRs W rs e w') := fun W h => toRss_any vr rs W (hx.rr.below h) (hx.ir.below h) hs.lr hs.sr
  have HM : Hid (∀ W, Below w.heap.size w W → Calls Tryz.prog 136 #[vm] W fun e w' => TosMs W ms e w') := fun W h => toMss_any vm ms W (hx.rm.below h) (hx.im.below h) hs.lm hs.sm
  have HPL : Hid (ClX.pl ⟨vr, rs, vm, ms⟩ = (rs.map RepX.rep, ms.map MsX.m)) := rfl
  clear hx hs
  generalize rs.length = nr at hvr
  generalize ms.length = nm at hvm
  subst hvr hvm
  have szQ2 : ∀ (v : World) (o : Obj), (v.alloc o).heap.size = v.heap.size + 1 := fun v o => by simp
  obtain ⟨W2, hW2⟩ : ∃ W2, W2 = ((w.alloc (Obj.cells #[.slice ar nr kr, .slice am nm km] 106)).alloc (Obj.cells #[.slice none 0 0, .slice none 0 0] 65)).alloc (Obj.cells #[.slice none 0 0, .slice none 0 0] 65) := ⟨_, rfl⟩
  have t2 : Bx W2 w.heap.size 106 #[.slice ar nr kr, .slice am nm km] := by rw [hW2]; exact ((bx_new w _ _).below (below1 _ _)).below (below1 _ _)
  have r2 : Bx W2 (w.heap.size + 1) 65 #[.slice none 0 0, .slice none 0 0] := by
    have h := (bx_new (w.alloc (Obj.cells #[.slice ar nr kr, .slice am nm km] 106)) 65 #[.slice none 0 0, .slice none 0 0]).below (below1 _ (Obj.cells #[.slice none 0 0, .slice none 0 0] 65))
    rw [szQ2] at h
    rw [hW2]; exact h
  have o2 : Bx W2 (w.heap.size + 2) 65 #[.slice none 0 0, .slice none 0 0] := by
    have h := bx_new ((w.alloc (Obj.cells #[.slice ar nr kr, .slice am nm km] 106)).alloc (Obj.cells #[.slice none 0 0, .slice none 0 0] 65)) 65 #[.slice none 0 0, .slice none 0 0]
    rw [szQ2, szQ2] at h
    rw [hW2]; exact h
  have b2 : Below w.heap.size w W2 := by rw [hW2]; exact ((below1 w _).alloc (by simp) _).alloc (by simp; omega) _
  have s2 : w.heap.size + 3 ≤ W2.heap.size := by rw [hW2]; simp
  have HWW : Hid (((w.alloc (Obj.cells #[.slice ar nr kr, .slice am nm km] 106)).alloc (Obj.cells #[.slice none 0 0, .slice none 0 0] 65)).alloc (Obj.cells #[.slice none 0 0, .slice none 0 0] 65) = W2) := hW2.symm
  have t1 := bx_new w 106 #[.slice ar nr kr, .slice am nm km]
  obtain ⟨m0, m1⟩ := t1.d2
  obtain ⟨q0, q1⟩ := t2.d2
  clear hW2 szQ2 t1
  go_enter Tryz.func59, Tryz.ntmps59
  go_wp2_with fail
  rw [HWW.out]
  refine (HR.out _ b2).mono ?_
  rintro e w3 ⟨u, us, rfl, hus, hO3, hb3⟩
  have t3 := t2.below hb3
  have r3 := r2.below hb3
  have o3 := o2.below hb3
  have b3 := b2.trans (hb3.mono b2.size)
  have s3 : w.heap.size + 3 ≤ w3.heap.size := Nat.le_trans s2 hb3.size
  replace hO3 : OwnL2Rs w3 (w.heap.size + 3) u us := OwnL2Rs.mono hO3 s2
  have HUS : Hid (us.map RepX.rep = rs.map RepX.rep) := hus
  clear t2 r2 o2 b2 s2 hb3 HR HWW m0 m1 q0 q1 hus
  obtain ⟨a1, n1, c1, rfl⟩ : ∃ a n c, u = .slice a n c := by
    obtain ⟨a, c, h⟩ := ownSlX hO3.row
    exact ⟨a, _, c, h⟩
  have hin : w.heap.size + 2 ∈ [w.heap.size + 2] := List.mem_singleton.2 rfl
  have T3 : Touch [w.heap.size + 2] w3 (w3.setCell ⟨w.heap.size + 2, 0, none⟩ (.slice a1 n1 c1)) := Touch.set hin
  have t4 := t3.touch T3 (by simp)
  have r4 := r3.touch T3 (by simp)
  have o4 : Bx (w3.setCell ⟨w.heap.size + 2, 0, none⟩ (.slice a1 n1 c1)) (w.heap.size + 2) 65 #[.slice a1 n1 c1, .slice none 0 0] := o3.set 0 _
  have O4 := hO3.touch T3 (fun k hk e => by have h1 := (hO3.bound hk).1; have h2 := List.mem_singleton.1 e; omega)
  have b4 := T3.below b3 (fun k hk => by have := List.mem_singleton.1 hk; omega)
  have s4 : w.heap.size + 3 ≤ (w3.setCell ⟨w.heap.size + 2, 0, none⟩ (.slice a1 n1 c1)).heap.size := Nat.le_trans s3 T3.size
  obtain ⟨g0, g1⟩ := o3.d2
  have f0 := o3.fz 0
  obtain ⟨q0, q1⟩ := t4.d2
  clear t3 r3 o3 hO3 b3 s3 T3
  go_wp2_with fail
  generalize w3.setCell ⟨w.heap.size + 2, 0, none⟩ (.slice a1 n1 c1) = W4 at t4 r4 o4 O4 b4 s4 q0 q1 ⊢
  clear g0 g1 f0
  refine (HM.out _ b4).mono ?_
  rintro e w5 ⟨v, vs, rfl, hvs, hP5, hb5⟩
  have r5 := r4.below hb5
  have o5 := o4.below hb5
  have O5 := O4.below hb5
  have b5 := b4.trans (hb5.mono b4.size)
  have s5 : w.heap.size + 3 ≤ w5.heap.size := Nat.le_trans s4 hb5.size
  replace hP5 : OwnL2Ms w5 (w.heap.size + 3) v vs := OwnL2Ms.mono hP5 s4
  have HVS : Hid (vs.map MsX.m = ms.map MsX.m) := hvs
  clear t4 r4 o4 O4 b4 s4 q0 q1 hb5 HM hvs
  obtain ⟨a2, n2, c2, rfl⟩ : ∃ a n c, v = .slice a n c := by
    obtain ⟨a, c, h⟩ := ownSlX hP5.row
    exact ⟨a, _, c, h⟩
  have T5 : Touch [w.heap.size + 2] w5 (w5.setCell ⟨w.heap.size + 2, 1, none⟩ (.slice a2 n2 c2)) := Touch.set hin
  have r6 := r5.touch T5 (by simp)
  have o6 : Bx (w5.setCell ⟨w.heap.size + 2, 1, none⟩ (.slice a2 n2 c2)) (w.heap.size + 2) 65 #[.slice a1 n1 c1, .slice a2 n2 c2] := o5.set 1 _
  have O6 := O5.touch T5 (fun k hk e => by have h1 := (O5.bound hk).1; have h2 := List.mem_singleton.1 e; omega)
  have P6 := hP5.touch T5 (fun k hk e => by have h1 := (hP5.bound hk).1; have h2 := List.mem_singleton.1 e; omega)
  have b6 := T5.below b5 (fun k hk => by have := List.mem_singleton.1 hk; omega)
  have s6 : w.heap.size + 3 ≤ (w5.setCell ⟨w.heap.size + 2, 1, none⟩ (.slice a2 n2 c2)).heap.size := Nat.le_trans s5 T5.size
  obtain ⟨g0, g1⟩ := o5.d2
  have f1 := o5.fz 1
  clear r5 o5 O5 hP5 b5 s5 T5
  go_upto_region 4 with fail
  generalize w5.setCell ⟨w.heap.size + 2, 1, none⟩ (.slice a2 n2 c2) = W6 at r6 o6 O6 P6 b6 s6 ⊢
  clear g0 g1 f1
  obtain ⟨q0, q1⟩ := o6.d2
  obtain ⟨x0, x1⟩ := r6.d2
  have y0 := r6.fz 0
  have y1 := r6.fz 1
  have hir : w.heap.size + 1 ∈ [w.heap.size + 1] := List.mem_singleton.2 rfl
  have T6 : Touch [w.heap.size + 1] W6 ((W6.setCell ⟨w.heap.size + 1, 0, none⟩ (.slice a1 n1 c1)).setCell ⟨w.heap.size + 1, 1, none⟩ (.slice a2 n2 c2)) := (Touch.set hir).trans (Touch.set hir)
  have r7 : Bx ((W6.setCell ⟨w.heap.size + 1, 0, none⟩ (.slice a1 n1 c1)).setCell ⟨w.heap.size + 1, 1, none⟩ (.slice a2 n2 c2)) (w.heap.size + 1) 65 #[.slice a1 n1 c1, .slice a2 n2 c2] := (r6.set 0 _).set 1 _
  have HF : Hid (ToCl w (ClX.pl ⟨.slice ar nr kr, rs, .slice am nm km, ms⟩) (.returned (.agg #[.slice a1 n1 c1, .slice a2 n2 c2])) ((W6.setCell ⟨w.heap.size + 1, 0, none⟩ (.slice a1 n1 c1)).setCell ⟨w.heap.size + 1, 1, none⟩ (.slice a2 n2 c2))) := by
    refine ⟨⟨.slice a1 n1 c1, us, .slice a2 n2 c2, vs⟩, rfl, ?_, ?_, ?_, ?_⟩
    · rw [HPL.out]; unfold ClX.pl; rw [HUS.out, HVS.out]
    · exact (O6.touch T6 (fun k hk e => by have h1 := (O6.bound hk).1; have h2 := List.mem_singleton.1 e; omega)).mono (by omega)
    · exact (P6.touch T6 (fun k hk e => by have h1 := (P6.bound hk).1; have h2 := List.mem_singleton.1 e; omega)).mono (by omega)
    · exact T6.below b6 (fun k hk => by have := List.mem_singleton.1 hk; omega)
  obtain ⟨k0, k1⟩ := r7.d2
  clear O6 P6 b6 s6 r6 o6 r7 T6 HUS HVS HPL
  go_wp2
  exact bodyPost_ret (v := .agg #[.slice a1 n1 c1, .slice a2 n2 c2]) (by simp [results, Tryz.results59, go_sem, k0, k1]) rfl HF.out
set_option maxHeartbeats 2000000 in
set_option maxRecDepth 100000 in
theorem eqCluster_same (Y Z : ClX) (w : World) (hy : RdCl w Y) (hz : RdCl w Z) (hp : Y.pl = Z.pl) :
    Calls Tryz.prog 60 #[.agg #[Y.vr, Y.vm], .agg #[Z.vr, Z.vm]] w fun e w' => e = .returned (.bool true) ∧ Below w.heap.size w w' := by
  obtain ⟨yr, ys, ym, ns⟩ := Y
  obtain ⟨zr, zs, zm, qs⟩ := Z
  unfold ClX.pl at hp
  have hp1 := (Prod.mk.inj hp).1
  have hp2 := (Prod.mk.inj hp).2
  simp only at hp1 hp2
  obtain ⟨a1, c1, hv1, -⟩ := id hy.rr
  obtain ⟨a2, c2, hv2, -⟩ := id hy.rm
  obtain ⟨a3, c3, hv3, -⟩ := id hz.rr
  obtain ⟨a4, c4, hv4, -⟩ := id hz.rm
  simp only at hv1 hv2 hv3 hv4 ⊢
  have HR : Hid (∀ W, Below w.heap.size w W → Calls Tryz.prog 137 #[yr, zr] W fun e w' => e = .returned (.bool true) ∧ Below W.heap.size W w') := fun W h => eqRss_same yr zr ys zs W (hy.rr.below h) (hy.ir.below h) (hz.rr.below h) (hz.ir.below h) hp1
  have HM : Hid (∀ W, Below w.heap.size w W → Calls Tryz.prog 51 #[ym, zm] W fun e w' => e = .returned (.bool true) ∧ Below W.heap.size W w') := fun W h => eqMss_same ym zm ns qs W (hy.rm.below h) (hy.im.below h) (hz.rm.below h) (hz.im.below h) hp2
  clear hy hz hp hp1 hp2
  generalize ys.length = n1 at hv1
  generalize ns.length = n2 at hv2
  generalize zs.length = n3 at hv3
  generalize qs.length = n4 at hv4
  subst hv1 hv2 hv3 hv4
  have b0 := below2 w (.cells #[.slice a1 n1 c1, .slice a2 n2 c2] 65) (.cells #[.slice a3 n3 c3, .slice a4 n4 c4] 65)
  have t0 := (bx_new w 65 #[.slice a1 n1 c1, .slice a2 n2 c2]).below (below1 _ (.cells #[.slice a3 n3 c3, .slice a4 n4 c4] 65))
  have u0 := bx_new (w.alloc (.cells #[.slice a1 n1 c1, .slice a2 n2 c2] 65)) 65 #[.slice a3 n3 c3, .slice a4 n4 c4]
  rw [show (w.alloc (.cells #[.slice a1 n1 c1, .slice a2 n2 c2] 65)).heap.size = w.heap.size + 1 by simp] at u0
  obtain ⟨x0, x1⟩ := t0.d2
  obtain ⟨y0, y1⟩ := u0.d2
  go_enter Tryz.func60, Tryz.ntmps60
  go_wp2_with fail
  refine (HR.out _ b0).mono ?_
  rintro e w2 ⟨rfl, hb2⟩
  have t2 := t0.below hb2
  have u2 := u0.below hb2
  have b2 := b0.trans (hb2.mono b0.size)
  clear x0 x1 y0 y1 t0 u0 b0 hb2 HR
  obtain ⟨x0, x1⟩ := t2.d2
  obtain ⟨y0, y1⟩ := u2.d2
  go_wp2_with fail
  refine (HM.out _ b2).mono ?_
  rintro e w3 ⟨rfl, hb3⟩
  have b3 := b2.trans (hb3.mono b2.size)
  clear x0 x1 y0 y1 t2 u2 b2 hb3 HM
  go_wp2
  go_ret
  exact ⟨rfl, b3⟩
end Go.Proofs.YtilhaokiohbeeaaGreatDoor
namespace Go.Proofs.YtilhaokiohbeeaaGreatDoor
open Go.RowKit Go.ChangeShapes Go.WideShapes
theorem cellsMG : Tryz.prog.cellsOf 92 = 20 := by kernel_rfl
theorem cellsCL : Tryz.prog.cellsOf 106 = 2 := by kernel_rfl
theorem cellsCl103 : Tryz.prog.cellsOf 103 = 1 := by kernel_rfl
theorem cellsCl104 : Tryz.prog.cellsOf 104 = 1 := by kernel_rfl
/-- A Message's numbers are numbers of a program, its texts texts of one. -/
structure FitMg (X : MsX) : Prop where
  kd : -9223372036854775808 ≤ X.kd ∧ X.kd ≤ 9223372036854775807
  fr : -9223372036854775808 ≤ X.fr ∧ X.fr ≤ 9223372036854775807
  to' : -9223372036854775808 ≤ X.to' ∧ X.to' ≤ 9223372036854775807
  vw : -9223372036854775808 ≤ X.vw ∧ X.vw ≤ 9223372036854775807
  bl : FitBl X.bl.b
  vo : FitVo X.vo
  pf : FitPr X.pf.p
def FitRp (X : RepX) : Prop := FitRep X.rep
set_option maxRecDepth 100000 in
theorem open_message {H : Type} {enc : TypeId × Value → H} {w : World} {fuel : Nat} {cs : List Value} {x : DataW H × List MemPlace} (h : DataW.trod enc Tryz.prog w 0 (fun _ => true) true fuel 92 cs = some x) :
    ∃ X : MsX, cs = MsC X ∧ RdMg w X ∧ FitMg X := by
  obtain ⟨xs, n, _, _, hl, hxl, hf⟩ := DataW.trod_struct Tryz.underlying92 h
  rw [cellsMG] at hl
  match xs, hxl, cs, hl with
  | [y0, y1, y2, y3, y4, y5, y6], _, [v0, v1, v2, v3, v4, v5, v6, v7, v8, v9, v10, v11, v12, v13, v14, v15, v16, v17, v18, v19], _ =>
    have g0 := hf 0 _ rfl
    have g1 := hf 1 _ rfl
    have g2 := hf 2 _ rfl
    have g3 := hf 3 _ rfl
    have g4 := hf 4 _ rfl
    have g5 := hf 5 _ rfl
    have g6 := hf 6 _ rfl
    simp [cellsP2, cellsPP, cellsBP, cells90] at g0 g1 g2 g3 g4 g5 g6
    obtain ⟨n0, h0, _, z0⟩ := DataW.trod_int Tryz.underlying2 g0
    obtain ⟨n1, h1, _, z1⟩ := DataW.trod_int Tryz.underlying2 g1
    obtain ⟨n2, h2, _, z2⟩ := DataW.trod_int Tryz.underlying2 g2
    obtain ⟨n3, h3, _, z3⟩ := DataW.trod_int Tryz.underlying2 g3
    obtain ⟨B, hB, rB, fB⟩ := open_block g4
    obtain ⟨V, hV, fV⟩ := open_vote g5
    obtain ⟨P, hP, rP, fP⟩ := open_proof g6
    simp only [BlX.cs, PrX.cs, VoC, List.cons.injEq, and_true] at h0 h1 h2 h3 hB hV hP
    obtain ⟨b0, b1, b2, b3, b4, b5, b6, b7⟩ := hB
    obtain ⟨o0, o1, o2, o3⟩ := hV
    obtain ⟨p0, p1, p2, p3⟩ := hP
    subst h0 h1 h2 h3 b0 b1 b2 b3 b4 b5 b6 b7 o0 o1 o2 o3 p0 p1 p2 p3
    exact ⟨⟨n0, n1, n2, n3, B, V, P⟩, rfl, ⟨rB, rP⟩, ⟨bounds_i64 z0, bounds_i64 z1, bounds_i64 z2, bounds_i64 z3, fB, fV, fP⟩⟩
theorem open_rep1 {H : Type} {enc : TypeId × Value → H} {w : World} {fuel : Nat} {cs : List Value} {x : DataW H × List MemPlace} (h : DataW.trod enc Tryz.prog w 0 (fun _ => true) true fuel 87 cs = some x) :
    ∃ X : RepX, cs = RsC X ∧ RdRep w X ∧ FitRp X := by
  obtain ⟨X, h1, h2, h3⟩ := open_replica h
  exact ⟨X, h1, h2, h3⟩
theorem open_reps {H : Type} {enc : TypeId × Value → H} {w : World} {v : Value} {d : DataW H} {pl : List MemPlace} (h : DataW.Trod enc Tryz.prog w 0 (fun _ => true) true 103 v d pl) (hv : ∃ a len cap, v = .slice a len cap) :
    ∃ ts, RdRs w v ts ∧ InRs w ts ∧ ∀ t ∈ ts, FitRp t := by
  obtain ⟨fuel, hf⟩ := h
  obtain ⟨a0, len0, cap0, rfl⟩ := hv
  rcases Deep.open_slice Tryz.underlying103 hf with ⟨hcs, _⟩ | ⟨a, len, cap, m, n, D, Pl, hcs, _, hl, hm, hmm, _, hx⟩
  · simp [Value.cells] at hcs
    obtain ⟨rfl, rfl, rfl⟩ := hcs
    exact ⟨[], rdRs_nil w, (fun t ht => by cases ht), fun t ht => by cases ht⟩
  · simp [Value.cells] at hcs
    obtain ⟨rfl, rfl, rfl⟩ := hcs
    simp only [if_true] at hmm
    subst hmm
    have each : ∀ i, i < m → ∃ t : RepX, w.cells? 0 (a.add (i * 14)) 14 = some (RsC t) ∧ RdRep w t ∧ FitRp t := by
      intro i hi
      obtain ⟨cs', h1, h2⟩ := hx i hi
      rw [cellsRP] at h1
      obtain ⟨T, hcs, hr, hf⟩ := open_rep1 h2
      subst hcs
      exact ⟨T, h1, hr, hf⟩
    obtain ⟨q, hq⟩ := Deep.choose_lt each
    obtain ⟨b, off, spot⟩ := a
    refine ⟨(List.range len0).map q, ⟨some ⟨b, off, spot⟩, m, by simp, by simpa using hl, hm, (fun h => by cases h), ?_⟩, fun t ht => ?_, fun t ht => ?_⟩
    · by_cases h0 : len0 = 0
      · left; simp [h0]
      · right
        obtain ⟨_, _, hc0⟩ := World.cells?_some (hq 0 (by omega)).1
        have hc00 := hc0 0 (by omega)
        rw [Deep.add_add] at hc00
        have hspot : spot = none := by
          have := World.cell?_spot hc00
          cases spot with
          | none => rfl
          | some sp => simp [Addr.add] at this
        subst hspot
        refine ⟨b, off, rfl, fun i hi => ?_⟩
        have hi' : i < len0 := by simpa using hi
        obtain ⟨_, _, hc⟩ := World.cells?_some (hq i (by omega)).1
        have k0 := hc 0 (by omega)
        have k1 := hc 1 (by omega)
        have k2 := hc 2 (by omega)
        have k3 := hc 3 (by omega)
        have k4 := hc 4 (by omega)
        have k5 := hc 5 (by omega)
        have k6 := hc 6 (by omega)
        have k7 := hc 7 (by omega)
        have k8 := hc 8 (by omega)
        have k9 := hc 9 (by omega)
        have k10 := hc 10 (by omega)
        have k11 := hc 11 (by omega)
        have k12 := hc 12 (by omega)
        have k13 := hc 13 (by omega)
        rw [Deep.add_add, Addr.add_lit] at k0 k1 k2 k3 k4 k5 k6 k7 k8 k9 k10 k11 k12 k13
        rw [nthRs_eq (by simpa using hi')]
        simp only [List.getElem_map, List.getElem_range]
        exact ⟨by simpa [RsC] using k0, by simpa [RsC, Nat.add_assoc] using k1, by simpa [RsC, Nat.add_assoc] using k2, by simpa [RsC, Nat.add_assoc] using k3, by simpa [RsC, Nat.add_assoc] using k4, by simpa [RsC, Nat.add_assoc] using k5, by simpa [RsC, Nat.add_assoc] using k6, by simpa [RsC, Nat.add_assoc] using k7, by simpa [RsC, Nat.add_assoc] using k8, by simpa [RsC, Nat.add_assoc] using k9, by simpa [RsC, Nat.add_assoc] using k10, by simpa [RsC, Nat.add_assoc] using k11, by simpa [RsC, Nat.add_assoc] using k12, by simpa [RsC, Nat.add_assoc] using k13⟩
    · simp only [List.mem_map, List.mem_range] at ht
      obtain ⟨i, hi, rfl⟩ := ht
      exact (hq i (by omega)).2.1
    · simp only [List.mem_map, List.mem_range] at ht
      obtain ⟨i, hi, rfl⟩ := ht
      exact (hq i (by omega)).2.2
theorem open_mgs {H : Type} {enc : TypeId × Value → H} {w : World} {v : Value} {d : DataW H} {pl : List MemPlace} (h : DataW.Trod enc Tryz.prog w 0 (fun _ => true) true 104 v d pl) (hv : ∃ a len cap, v = .slice a len cap) :
    ∃ ts, RdMs w v ts ∧ InMs w ts ∧ ∀ t ∈ ts, FitMg t := by
  obtain ⟨fuel, hf⟩ := h
  obtain ⟨a0, len0, cap0, rfl⟩ := hv
  rcases Deep.open_slice Tryz.underlying104 hf with ⟨hcs, _⟩ | ⟨a, len, cap, m, n, D, Pl, hcs, _, hl, hm, hmm, _, hx⟩
  · simp [Value.cells] at hcs
    obtain ⟨rfl, rfl, rfl⟩ := hcs
    exact ⟨[], rdMs_nil w, (fun t ht => by cases ht), fun t ht => by cases ht⟩
  · simp [Value.cells] at hcs
    obtain ⟨rfl, rfl, rfl⟩ := hcs
    simp only [if_true] at hmm
    subst hmm
    have each : ∀ i, i < m → ∃ t : MsX, w.cells? 0 (a.add (i * 20)) 20 = some (MsC t) ∧ RdMg w t ∧ FitMg t := by
      intro i hi
      obtain ⟨cs', h1, h2⟩ := hx i hi
      rw [cellsMG] at h1
      obtain ⟨T, hcs, hr, hf⟩ := open_message h2
      subst hcs
      exact ⟨T, h1, hr, hf⟩
    obtain ⟨q, hq⟩ := Deep.choose_lt each
    obtain ⟨b, off, spot⟩ := a
    refine ⟨(List.range len0).map q, ⟨some ⟨b, off, spot⟩, m, by simp, by simpa using hl, hm, (fun h => by cases h), ?_⟩, fun t ht => ?_, fun t ht => ?_⟩
    · by_cases h0 : len0 = 0
      · left; simp [h0]
      · right
        obtain ⟨_, _, hc0⟩ := World.cells?_some (hq 0 (by omega)).1
        have hc00 := hc0 0 (by omega)
        rw [Deep.add_add] at hc00
        have hspot : spot = none := by
          have := World.cell?_spot hc00
          cases spot with
          | none => rfl
          | some sp => simp [Addr.add] at this
        subst hspot
        refine ⟨b, off, rfl, fun i hi => ?_⟩
        have hi' : i < len0 := by simpa using hi
        obtain ⟨_, _, hc⟩ := World.cells?_some (hq i (by omega)).1
        have k0 := hc 0 (by omega)
        have k1 := hc 1 (by omega)
        have k2 := hc 2 (by omega)
        have k3 := hc 3 (by omega)
        have k4 := hc 4 (by omega)
        have k5 := hc 5 (by omega)
        have k6 := hc 6 (by omega)
        have k7 := hc 7 (by omega)
        have k8 := hc 8 (by omega)
        have k9 := hc 9 (by omega)
        have k10 := hc 10 (by omega)
        have k11 := hc 11 (by omega)
        have k12 := hc 12 (by omega)
        have k13 := hc 13 (by omega)
        have k14 := hc 14 (by omega)
        have k15 := hc 15 (by omega)
        have k16 := hc 16 (by omega)
        have k17 := hc 17 (by omega)
        have k18 := hc 18 (by omega)
        have k19 := hc 19 (by omega)
        rw [Deep.add_add, Addr.add_lit] at k0 k1 k2 k3 k4 k5 k6 k7 k8 k9 k10 k11 k12 k13 k14 k15 k16 k17 k18 k19
        rw [nthMs_eq (by simpa using hi')]
        simp only [List.getElem_map, List.getElem_range]
        exact ⟨by simpa [MsC] using k0, by simpa [MsC, Nat.add_assoc] using k1, by simpa [MsC, Nat.add_assoc] using k2, by simpa [MsC, Nat.add_assoc] using k3, by simpa [MsC, Nat.add_assoc] using k4, by simpa [MsC, Nat.add_assoc] using k5, by simpa [MsC, Nat.add_assoc] using k6, by simpa [MsC, Nat.add_assoc] using k7, by simpa [MsC, Nat.add_assoc] using k8, by simpa [MsC, Nat.add_assoc] using k9, by simpa [MsC, Nat.add_assoc] using k10, by simpa [MsC, Nat.add_assoc] using k11, by simpa [MsC, Nat.add_assoc] using k12, by simpa [MsC, Nat.add_assoc] using k13, by simpa [MsC, Nat.add_assoc] using k14, by simpa [MsC, Nat.add_assoc] using k15, by simpa [MsC, Nat.add_assoc] using k16, by simpa [MsC, Nat.add_assoc] using k17, by simpa [MsC, Nat.add_assoc] using k18, by simpa [MsC, Nat.add_assoc] using k19⟩
    · simp only [List.mem_map, List.mem_range] at ht
      obtain ⟨i, hi, rfl⟩ := ht
      exact (hq i (by omega)).2.1
    · simp only [List.mem_map, List.mem_range] at ht
      obtain ⟨i, hi, rfl⟩ := ht
      exact (hq i (by omega)).2.2
structure FitCl (X : ClX) : Prop where
  rs : ∀ t ∈ X.rs, FitRp t
  ms : ∀ t ∈ X.ms, FitMg t
set_option maxRecDepth 100000 in
theorem open_cluster {H : Type} {enc : TypeId × Value → H} {w : World} {fuel : Nat} {cs : List Value} {x : DataW H × List MemPlace} (h : DataW.trod enc Tryz.prog w 0 (fun _ => true) true fuel 106 cs = some x) :
    ∃ X : ClX, cs = [X.vr, X.vm] ∧ RdCl w X ∧ FitCl X := by
  obtain ⟨xs, n, _, _, hl, hxl, hf⟩ := DataW.trod_struct Tryz.underlying106 h
  rw [cellsCL] at hl
  match xs, hxl, cs, hl with
  | [y0, y1], _, [v0, v1], _ =>
    have g0 := hf 0 _ rfl
    have g1 := hf 1 _ rfl
    simp [cellsCl103, cellsCl104] at g0 g1
    have sl0 : ∃ a len cap, v0 = .slice a len cap := by
      rcases DataW.trod_slice Tryz.underlying103 g0 with ⟨e, _⟩ | ⟨a', len', cap', _, _, _, _, e, _⟩
      · simp at e; exact ⟨none, 0, 0, e⟩
      · simp at e; exact ⟨some a', len', cap', e⟩
    have sl1 : ∃ a len cap, v1 = .slice a len cap := by
      rcases DataW.trod_slice Tryz.underlying104 g1 with ⟨e, _⟩ | ⟨a', len', cap', _, _, _, _, e, _⟩
      · simp at e; exact ⟨none, 0, 0, e⟩
      · simp at e; exact ⟨some a', len', cap', e⟩
    obtain ⟨rs, r0, r1, r2⟩ : ∃ ts, RdRs w v0 ts ∧ InRs w ts ∧ ∀ t ∈ ts, FitRp t := by
      obtain ⟨a, len, cap, rfl⟩ := sl0
      exact open_reps (H := H) (enc := enc) (v := .slice a len cap) ⟨n, g0⟩ ⟨a, len, cap, rfl⟩
    obtain ⟨ms, m0, m1, m2⟩ : ∃ ts, RdMs w v1 ts ∧ InMs w ts ∧ ∀ t ∈ ts, FitMg t := by
      obtain ⟨a, len, cap, rfl⟩ := sl1
      exact open_mgs (H := H) (enc := enc) (v := .slice a len cap) ⟨n, g1⟩ ⟨a, len, cap, rfl⟩
    exact ⟨⟨v0, rs, v1, ms⟩, rfl, ⟨r0, r1, m0, m1⟩, ⟨r2, m2⟩⟩
end Go.Proofs.YtilhaokiohbeeaaGreatDoor
namespace Go.Proofs.YtilhaokiohbeeaaGreatDoor
open Go.RowKit
theorem Tryz.infoPt117 : (Tryz.prog.info? 117).map (fun i => (i.zero, i.size, i.bytes)) = some (some (.pointer none), 1, 8) := by kernel_rfl
def PtV (ns : List Nat) : List Value := ns.map (fun g => Value.pointer (some ⟨g, 0, none⟩))
theorem PtV_length (ns : List Nat) : (PtV ns).length = ns.length := by simp [PtV]
theorem PtV_append (a b : List Nat) : PtV (a ++ b) = PtV a ++ PtV b := by simp [PtV]
theorem PtV_get (ns : List Nat) (i : Nat) (h : i < ns.length) : (PtV ns)[i]? = some (.pointer (some ⟨ns[i], 0, none⟩)) := by simp [PtV, h]
theorem PtV_set (ns : List Nat) (i : Nat) (n : Nat) : PtV (ns.set i n) = (PtV ns).set i (.pointer (some ⟨n, 0, none⟩)) := by simp [PtV, List.map_set]
theorem PtV_oneCell (ns : List Nat) : ∀ u ∈ PtV ns, u.oneCell' = true := by
  intro u hu
  obtain ⟨_, _, rfl⟩ := List.mem_map.1 hu
  rfl
/-- The slice v is the call's own (its block is at least number base) and holds the pointers ns. -/
def OwnPt (w : World) (base : Nat) (v : Value) (ns : List Nat) : Prop := w.ownsRow base 117 1 v ns.length (PtV ns)
/-- The slice v can be read and holds the pointers ns. -/
def RdPt (w : World) (v : Value) (ns : List Nat) : Prop :=
  ∃ a cap, v = .slice a ns.length cap ∧ ns.length ≤ cap ∧ cap ≤ maxLen ∧ (a = none → cap = 0) ∧
    (ns = [] ∨ ∃ b off, a = some ⟨b, off, none⟩ ∧ ∀ i (h : i < ns.length), w.cell? ⟨b, off + i, none⟩ = some (.pointer (some ⟨ns[i], 0, none⟩)))
theorem OwnPt.rd {w : World} {base : Nat} {v : Value} {ns : List Nat} (h : OwnPt w base v ns) : RdPt w v ns := by
  have h' := h
  rcases h.2 with ⟨rfl, h0⟩ | ⟨g, cap, cur, rfl, hb, hg, hn, hc, hs, ht⟩
  · have : ns = [] := List.length_eq_zero_iff.1 h0
    subst this
    exact ⟨none, 0, rfl, Nat.le_refl _, Nat.zero_le _, fun _ => rfl, .inl rfl⟩
  · refine ⟨some ⟨g, 0, none⟩, cap, rfl, hn, hc, (fun h => by cases h), .inr ⟨g, 0, rfl, fun i hi => ?_⟩⟩
    have := h'.cellAt i (by omega)
    rw [PtV_get ns i hi] at this
    simpa using this
theorem OwnPt.below {w w' : World} {base : Nat} {v : Value} {ns : List Nat} (h : OwnPt w base v ns) (hb : Below w.heap.size w w') : OwnPt w' base v ns := own_below h hb
theorem OwnPt.drewN {w : World} {base : Nat} {v : Value} {ns : List Nat} (h : OwnPt w base v ns) (q : Nat) : OwnPt (w.drewN q) base v ns := h
theorem OwnPt.mono {w : World} {base base' : Nat} {v : Value} {ns : List Nat} (h : OwnPt w base v ns) (hb : base' ≤ base) : OwnPt w base' v ns := by
  refine ⟨h.1, ?_⟩
  rcases h.2 with h2 | ⟨g, cap, cur, hv, hg, r⟩
  · exact .inl h2
  · exact .inr ⟨g, cap, cur, hv, Nat.le_trans hb hg, r⟩
theorem RdPt.below {w w' : World} {v : Value} {ns : List Nat} (h : RdPt w v ns) (hb : Below w.heap.size w w') : RdPt w' v ns := by
  obtain ⟨a, cap, hv, h1, h2, h0, h3⟩ := h
  refine ⟨a, cap, hv, h1, h2, h0, ?_⟩
  rcases h3 with h3 | ⟨b, off, ha, hc⟩
  · exact .inl h3
  · exact .inr ⟨b, off, ha, fun i hi => by rw [hb.cell (World.block_lt_of_cell? w _ (hc i hi))]; exact hc i hi⟩
theorem RdPt.drewN {w : World} {v : Value} {ns : List Nat} (h : RdPt w v ns) (q : Nat) : RdPt (w.drewN q) v ns := h
theorem rdPt_nil (w : World) : RdPt w (.slice none 0 0) [] := ⟨none, 0, rfl, Nat.le_refl _, Nat.zero_le _, fun _ => rfl, .inl rfl⟩
theorem ownPt_none (w : World) : OwnPt (w.alloc (.cells #[] 117)) w.heap.size (.slice (some ⟨w.heap.size, 0, none⟩) 0 0) [] := World.ownsRow_lit w #[] 0 (Nat.le_refl _) (Nat.zero_le _) rfl
theorem ownPt_nil (w : World) (B : Nat) : OwnPt w B (.slice none 0 0) [] := ⟨rfl, .inl ⟨rfl, rfl⟩⟩
theorem ownPt_one (w : World) (n : Nat) : OwnPt (w.alloc (.cells #[.pointer (some ⟨n, 0, none⟩)] 117)) w.heap.size (.slice (some ⟨w.heap.size, 0, none⟩) 1 1) [n] := World.ownsRow_lit w #[.pointer (some ⟨n, 0, none⟩)] 1 (Nat.le_refl _) (by unfold maxLen; omega) rfl
theorem ownPt_lt {w : World} {B : Nat} {v : Value} {ns : List Nat} (h : OwnPt w B v ns) : ∀ k, v.ownBlock = some k → k < w.heap.size := fun k hk => (World.ownsRow.lt h k hk).2
theorem ownPt_more {w1 : World} {B : Nat} {v' : Value} {ys zs : List Nat} (h : w1.ownsRow B 117 1 v' (ys.length + zs.length) (PtV ys ++ PtV zs)) : OwnPt w1 B v' (ys ++ zs) := by
  unfold OwnPt
  rw [PtV_append, List.length_append]
  exact h
theorem ownPt_some {w : World} {B : Nat} {v : Value} {ns : List Nat} (h : OwnPt w B v ns) (hn : ns ≠ []) : ∃ g cap, v = .slice (some ⟨g, 0, none⟩) ns.length cap := by
  rcases h.2 with ⟨_, h0⟩ | ⟨g, cap, cur, hv, _⟩
  · exact absurd (List.length_eq_zero_iff.1 h0) hn
  · exact ⟨g, cap, hv⟩
theorem RdPt.at {w : World} {a : Option Addr} {n cap : Nat} {ns : List Nat} (h : RdPt w (.slice a n cap) ns) (i : Nat) (hi : i < ns.length) : ∃ b off, a = some ⟨b, off, none⟩ ∧ w.cell? ⟨b, off + i, none⟩ = some (.pointer (some ⟨ns[i], 0, none⟩)) := by
  obtain ⟨a', cap', hv, _, _, _, h3⟩ := h
  simp only [Value.slice.injEq] at hv
  obtain ⟨rfl, _, _⟩ := hv
  rcases h3 with rfl | ⟨b, off, ha, hc⟩
  · simp at hi
  · exact ⟨b, off, ha, hc i hi⟩
theorem rdPt_take {w : World} {a : Option Addr} {n cap k : Nat} {ns : List Nat} (h : RdPt w (.slice a n cap) ns) (hk : k ≤ ns.length) : RdPt w (.slice a k cap) (ns.take k) := by
  obtain ⟨a', cap', hv, h1, h2, h0, h3⟩ := h
  simp only [Value.slice.injEq] at hv
  obtain ⟨rfl, _, rfl⟩ := hv
  have hl : (ns.take k).length = k := by rw [List.length_take]; omega
  refine ⟨a, cap, by rw [hl], by omega, h2, h0, ?_⟩
  rcases h3 with rfl | ⟨b, off, ha, hc⟩
  · exact .inl (by simp)
  · exact .inr ⟨b, off, ha, fun i hi => by rw [List.getElem_take]; exact hc i (by omega)⟩
theorem rdPt_cut {w : World} {b off n cap k : Nat} {ns : List Nat} (h : RdPt w (.slice (some ⟨b, off, none⟩) n cap) ns) (hk : k ≤ ns.length) : RdPt w (.slice (if cap = k then some ⟨b, off, none⟩ else some ⟨b, off + k, none⟩) (ns.length - k) (cap - k)) (ns.drop k) := by
  obtain ⟨a', cap', hv, h1, h2, h0, h3⟩ := h
  simp only [Value.slice.injEq] at hv
  obtain ⟨rfl, _, rfl⟩ := hv
  have hl : (ns.drop k).length = ns.length - k := List.length_drop
  split
  · rename_i hck
    have hl0 : ns.length - k = 0 := by omega
    rw [hl0]
    exact ⟨_, _, by rw [hl, hl0], by rw [hl]; omega, by omega, (fun h => by cases h), .inl (List.drop_eq_nil_of_le (by omega))⟩
  · refine ⟨_, _, by rw [hl], by omega, by omega, (fun h => by cases h), ?_⟩
    rcases h3 with rfl | ⟨b', off', ha, hc⟩
    · exact .inl (by simp)
    · cases ha
      refine .inr ⟨b, off + k, rfl, fun i hi => ?_⟩
      have := hc (k + i) (by omega)
      rw [← Nat.add_assoc] at this
      rw [this, List.getElem_drop]
/-- append of numbers that can be read onto a row of the call's own. -/
theorem run_append_pts (ty : TypeId) {w : World} {base : Nat} {v u : Value} {ys zs : List Nat} (hown : OwnPt w base v ys) (hr : RdPt w u zs) (hl : ys.length + zs.length ≤ 1000000000) (hbase : base ≤ w.heap.size) :
    ∃ v' w', (Builtin.append_ #[215, 215] ty #[v, u]).run Tryz.prog w = .ok v' w' ∧ OwnPt w' base v' (ys ++ zs) ∧ w.grownBy w' v.ownBlock := by
  obtain ⟨i0, hi, hz0, hz1, hz2⟩ := info_parts Tryz.infoPt117
  obtain ⟨a, cap, rfl, h1, h2, h0, h3⟩ := hr
  have row : ∀ ad, (∀ j u, (PtV zs)[j]? = some u → w.cell? (ad.add j) = some u) → ∃ v' w', (Builtin.append_ #[215, 215] ty #[v, .slice (some ad) zs.length cap]).run Tryz.prog w = .ok v' w' ∧ OwnPt w' base v' (ys ++ zs) ∧ w.grownBy w' v.ownBlock := by
    intro ad hc
    obtain ⟨v', w', hrun, r1, r2, _⟩ := run_append_own (P := Tryz.prog) w base 215 ty 117 i0 _ 1 8 Tryz.underlying215 hi hz0 hz1 hz2 rfl (by decide) v ys.length (PtV ys) hown ad zs.length cap (PtV zs) (by rw [PtV_length]; omega) hc (PtV_oneCell zs) (by unfold maxLen; omega) (by omega) hbase
    exact ⟨v', w', hrun, ownPt_more r1, r2⟩
  cases a with
  | some ad =>
    refine row ad ?_
    rcases h3 with rfl | ⟨b, off, ha, hc⟩
    · intro j u hj; simp [PtV] at hj
    · cases ha
      intro j u hj
      have hjl : j < zs.length := by have := (List.getElem?_eq_some_iff.1 hj).1; rwa [PtV_length] at this
      rw [PtV_get zs j hjl] at hj
      cases hj
      rw [Addr.add_lit]
      exact hc j hjl
  | none =>
    have hc0 := h0 rfl
    subst hc0
    rcases h3 with rfl | ⟨b, off, ha, hc⟩
    · refine ⟨v, w, run_append_owned_none (P := Tryz.prog) w base 215 ty 117 i0 1 Tryz.underlying215 hi v ys.length (PtV ys) hown, by simpa using hown, ⟨rfl, rfl, rfl, Nat.le_refl _, fun _ _ _ => rfl⟩⟩
    · cases ha
theorem wpList_append_pts {w : World} {ops : Array Oper} {rest : List Oper} {o : Oper} {a : Act} {Q : Exit → Act → World → Prop} (hgd : o.guard = none) (s x : Operand)
    (ho : o.op = .call { callee := .builtin .append, args := #[s, x], argTypes := #[215, 215] }) (base : Nat) (v u : Value) (ys zs : List Nat) (hs : a.eval s = v) (hx : a.eval x = u) (hown : OwnPt w base v ys) (hr : RdPt w u zs) (hl : ys.length + zs.length ≤ 1000000000) (hbase : base ≤ w.heap.size)
    (h : ∀ v' w', OwnPt w' base v' (ys ++ zs) → w.grownBy w' v.ownBlock → wpList Tryz.prog ops Q rest (a.put o.dst v') w') : wpList Tryz.prog ops Q (o :: rest) a w := by
  refine wpList_plain hgd fun K hK => ?_
  obtain ⟨v', w', hrun, r1, r2⟩ := run_append_pts o.type hown hr hl hbase
  unfold Oper.wp
  simp [execOp, ho, resolve, invoke, builtin, hs, hx, hrun, Result.andThen]
  exact hK _ _ (h v' w' r1 r2)
theorem step_append_pts {w : World} {ops : Array Oper} {o : Oper} {a : Act} {K : Act → World → Prop} {Q : Exit → Act → World → Prop} {E : Prop} (hgd : o.guard = none) (d : Nat) (hd : o.dst = some d) (s x : Operand)
    (ho : o.op = .call { callee := .builtin .append, args := #[s, x], argTypes := #[215, 215] }) (base : Nat) (v u : Value) (ys zs : List Nat) (hs : a.eval s = v) (hx : a.eval x = u) (hown : OwnPt w base v ys) (hr : RdPt w u zs) (hl : ys.length + zs.length ≤ 1000000000) (hbase : base ≤ w.heap.size)
    (h : ∀ v' w', OwnPt w' base v' (ys ++ zs) → w.grownBy w' v.ownBlock → K (a.put (some d) v') w') :
    if Region.wanted o (yielded ops a.tmps) = true then Oper.wp Tryz.prog o a w K Q else E := by
  have hw : Region.wanted o (yielded ops a.tmps) = true := by simp [Region.wanted, hgd]
  rw [if_pos hw]
  obtain ⟨v', w', hrun, r1, r2⟩ := run_append_pts o.type hown hr hl hbase
  unfold Oper.wp
  simp [execOp, ho, resolve, invoke, builtin, hs, hx, hrun, Result.andThen]
  have h' := h v' w' r1 r2
  rw [← hd] at h'
  exact h'
end Go.Proofs.YtilhaokiohbeeaaGreatDoor
