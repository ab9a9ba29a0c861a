import Derived.Test.YtmlmlemiidedcaaGreatTreDrw4
import Derived.BigQuiet
namespace Go.Proofs.YtmlmlemiidedcaaGreat
set_option maxHeartbeats 16000000
set_option maxRecDepth 100000
open Go.RowKit
theorem ownW_slice {w:World} {B:Nat} {v:Value} {es:List Wri} (h:OwnW w B v es):∃ a n c,v=.slice a n c:=by
 obtain ⟨a,c,e,_⟩:=h.rd
 exact ⟨a,_,c,e⟩
theorem Own.gW {w w':World} {N g B:Nat} {v:Value} {bs:List UInt8} (h:Own w B v bs) (hg:w.grownBy w' (some g)) (hgN:g < N) (hB:N≤B):Own w' B v bs :=
 row_kept h hg (fun k hk e=>by have:=(World.ownsRow.lt h k hk).1;simp at e;omega)
def C3 (B:Nat) (W:World) (b:Nat):Prop:=∃ t:ByteArray,t.size≤1000∧CellAt B W b 0 (.string ⟨#[]⟩)∧CellAt B W b 1 (.string ⟨#[107]⟩)∧CellAt B W b 2 (.string t)
theorem C3.gW {B N g b:Nat} {W W':World} (h:C3 B W b) (hg:W.grownBy W' (some g)) (hgN:g < N) (hB:N≤B):C3 B W' b:=by
 obtain ⟨t,h0,h1,h2,h3⟩:=h
 exact ⟨t,h0,h1.g hg (by omega),h2.g hg (by omega),h3.g hg (by omega)⟩
theorem CellAt.bel {N:Nat} {W W':World} {b j:Nat} {v:Value} (h:CellAt N W b j v) (hb:Below W.heap.size W W'):CellAt N W' b j v :=
 ⟨by rw [hb.cell (p:=⟨b,j,none⟩) (World.block_lt_of_cell? W _ h.1)];exact h.1,h.2⟩
theorem C3.below {B b:Nat} {W W':World} (h:C3 B W b) (hb:Below W.heap.size W W'):C3 B W' b:=by
 obtain ⟨t,h0,h1,h2,h3⟩:=h
 exact ⟨t,h0,h1.bel hb,h2.bel hb,h3.bel hb⟩
theorem C3.pick {B b j:Nat} {W:World} (h:C3 B W b) (hj:j < 3):∃ t:ByteArray,t.size≤1000∧CellAt B W b j (.string t):=by
 obtain ⟨t,h0,h1,h2,h3⟩:=h
 match j,hj with
 | 0,_=>exact ⟨_,by decide,h1⟩
 | 1,_=>exact ⟨_,by decide,h2⟩
 | 2,_=>exact ⟨_,h0,h3⟩
def sliceN:Value→Nat
 | .slice _ n _=>n
 | _=>0
structure DW (w0 w w1 W:World) (g b5 B0:Nat) (X:TrX) (v:Value) (xs:List Wri):Prop where
 dc:DCur w0 W g
 bel:Below w.heap.size w W
 box:BoxTr W b5 X.vm X.vy X.vo X.seq X.vs
 res:BoxTr W w.heap.size (.slice none 0 0) (.slice none 0 0) (.slice none 0 0) 0 (.slice none 0 0)
 tch:Touch [g] w1 W
 bat:OwnW W B0 v xs
 sz:B0≤W.heap.size
 wg:w.heap.size < g
 gb:g < b5
 b1:b5=w1.heap.size
 b0:b5 < B0
theorem DW.size {w0 w w1 W:World} {g b5 B0 N:Nat} {X:TrX} {v:Value} {xs:List Wri} (h:DW w0 w w1 W g b5 B0 X v xs) (_:N≤B0):B0≤W.heap.size:=h.sz
theorem DW.draw {w0 w w1 W W1:World} {g b5 B0 N:Nat} {X:TrX} {v:Value} {xs:List Wri} (h:DW w0 w w1 W g b5 B0 X v xs) (hg:W.grownBy W1 (some g)) (hd:DCur w0 W1 g) (_:g < N) (_:N≤B0):DW w0 w w1 W1 g b5 B0 X v xs:=by
 have h1:=h.wg
 have h2:=h.gb
 have h3:=h.b0
 exact ⟨hd,h.bel.grown hg h.bel.size (fun k hk=>by have:=Option.some.inj hk;omega),(hg.block b5 h.box.lt (fun e=>by simp at e;omega)).trans h.box,(hg.block w.heap.size h.res.lt (fun e=>by simp at e;omega)).trans h.res,h.tch.trans (grown_touch hg),ownW_g h.bat hg (by omega),Nat.le_trans h.sz hg.size,h1,h2,h.b1,h3⟩
theorem DW.below {w0 w w1 W W1:World} {g b5 B0:Nat} {X:TrX} {v:Value} {xs:List Wri} (h:DW w0 w w1 W g b5 B0 X v xs) (hb:Below W.heap.size W W1):DW w0 w w1 W1 g b5 B0 X v xs :=
 ⟨h.dc.below hb,h.bel.trans (hb.mono h.bel.size),h.box.on hb,h.res.on hb,h.tch.trans (Touch.of_below hb),h.bat.below hb,Nat.le_trans h.sz hb.size,h.wg,h.gb,h.b1,h.b0⟩
theorem DW.app {w0 w w1 W W1:World} {g b5 B0 N:Nat} {X:TrX} {v v':Value} {xs xs':List Wri} (h:DW w0 w w1 W g b5 B0 X v xs) (hg:W.grownBy W1 v.ownBlock) (ho:OwnW W1 B0 v' xs') (_:N≤B0) (_:xs.length≤30):DW w0 w w1 W1 g b5 B0 X v' xs':=by
 have h1:=h.wg
 have h2:=h.gb
 have h3:=h.b0
 have h4:=h.b1
 have hb:∀ k,v.ownBlock=some k→B0≤k:=fun k hk=>(World.ownsRow.lt h.bat k hk).1
 refine ⟨h.dc.grow hg (fun k hk=>by have:=hb k hk;omega),h.bel.grown hg h.bel.size (fun k hk=>by have:=hb k hk;omega),(hg.block b5 h.box.lt (fun e=>by have:=hb _ e.symm;omega)).trans h.box,(hg.block w.heap.size h.res.lt (fun e=>by have:=hb _ e.symm;omega)).trans h.res,?_,ho,Nat.le_trans h.sz hg.size,h1,h2,h.b1,h3⟩
 exact ⟨hg.os.trans h.tch.os,hg.tape.trans h.tch.tape,hg.output.trans h.tch.output,Nat.le_trans h.tch.size hg.size,fun k hk hn=>(hg.block k (Nat.lt_of_lt_of_le hk h.tch.size) (fun e=>by have:=hb k e.symm;omega)).trans (h.tch.block k hk hn)⟩
theorem DW.new {w0 w w1 W:World} {g b5 B0:Nat} {X:TrX} {v v':Value} {xs xs':List Wri} (h:DW w0 w w1 W g b5 B0 X v xs) (ho:OwnW W B0 v' xs'):DW w0 w w1 W g b5 B0 X v' xs':=⟨h.dc,h.bel,h.box,h.res,h.tch,ho,h.sz,h.wg,h.gb,h.b1,h.b0⟩
def DrawWP (w:World) (e:Ending) (w':World):Prop :=
 ∃ (X:TrX) (v:Value) (xs:List Wri),e=.returned (.tuple #[.agg #[X.vm,X.vy,X.vo,.int .i64 X.seq,X.vs],v])∧RdTr w' X∧FitTr X∧NilOk X.vy∧NilOk X.vo∧X.snaps.length≤7∧RdW w' v xs∧xs.length≤30∧(∀ x∈xs,SmallW x)∧Below w.heap.size w w'
theorem DW.fin {w0 w w1 W:World} {g b5 B0 N:Nat} {X:TrX} {v:Value} {xs:List Wri} (h:DW w0 w w1 W g b5 B0 X v xs) (hst:∀ bs W',(∀ k∈bs,k < N)→Touch bs w1 W'→RdTr W' X) (hf:FitTr X∧NilOk X.vy∧NilOk X.vo∧X.snaps.length≤7) (hgN:g < N) (_:True) (hx:xs.length≤30∧∀ x∈xs,SmallW x) :
 DrawWP w (.returned (.tuple #[.agg #[X.vm,X.vy,X.vo,.int .i64 X.seq,X.vs],v])) (put5 W w.heap.size X.vm X.vy X.vo (.int .i64 X.seq) X.vs):=by
 have h1:=h.wg
 have h2:=h.gb
 have h3:=h.b0
 have ht:Touch [w.heap.size] W (put5 W w.heap.size X.vm X.vy X.vo (.int .i64 X.seq) X.vs):=touch_put5
 refine ⟨X,v,xs,rfl,hst [g,w.heap.size] _ (fun k hk=>?_) ((h.tch.more (by simp)).trans (ht.more (by simp))),hf.1,hf.2.1,hf.2.2.1,hf.2.2.2,?_,hx.1,hx.2,below_put5 h.bel (Nat.le_refl _)⟩
 ·simp only [List.mem_cons,List.not_mem_nil,or_false] at hk
  omega
 ·exact OwnW.rd (base:=B0) (row_put5 h.bat (by omega))
theorem drawWrote_any (cv:Value) (cs:List UInt8) (w:World) (hr:Rd w cv cs) (hcs:cs.length≤4096) :
 Calls Tryz.prog 7 #[cv] w fun e w'=>DrawWP w e w':=by
 obtain ⟨i0,hi,hz0,hz1,hz2⟩:=info_parts Tryz.info5
 have zr:=boxTr_new w (.slice none 0 0) (.slice none 0 0) (.slice none 0 0) (.slice none 0 0) 0
 obtain ⟨W0,hW0⟩:∃ W0,W0=w.alloc (.cells #[.slice none 0 0,.slice none 0 0,.slice none 0 0,.int .i64 0,.slice none 0 0] 28):=⟨_,rfl⟩
 have bw0:Below w.heap.size w W0:=by rw [hW0];exact below1 w _
 have s0:W0.heap.size=w.heap.size+1:=by rw [hW0];simp
 have HW0:Hid (w.alloc (.cells #[.slice none 0 0,.slice none 0 0,.slice none 0 0,.int .i64 0,.slice none 0 0] 28)=W0):=hW0.symm
 rw [← hW0] at zr
 have hr0:=hr.below bw0
 obtain ⟨ca,cc0,hcv,-⟩:=id hr
 subst hcv
 clear hW0 hr
 go_enter Tryz.func7,Tryz.ntmps7
 go_wp2_with fail
 rw [HW0.out]
 refine (l1New_any _ cs _ hr0 hcs).mono ?_
 rintro e wN ⟨g,rfl,dcN⟩
 have hge:=dcN.ge
 have hgl:=dcN.lt
 have bN:=dcN.bel
 have zrN:=zr.on bN
 have bwN:=bw0.trans (bN.mono bw0.size)
 go_wp2_with fail
 refine (l7DrawAny_any W0 wN g dcN).mono ?_
 rintro e w1 ⟨X,rfl,hst,hfit,hny,hno,hfew,dc1,hg1⟩
 have hrd1:=hst [] w1 (fun k hk=>by cases hk) (Touch.refl _ _)
 obtain ⟨am,ay,ao,an,mn,yn,on,nn,cm,cy,co,cn,v0,v1,v2,v3⟩:=hrd1.slices
 obtain ⟨vm4,vy4,vo4,vs4,mem4,ys4,os4,seq4,snaps4⟩:=X
 simp only at v0 v1 v2 v3
 subst v0
 subst v1
 subst v2
 subst v3
 have HST:Hid (∀ bs W',(∀ k∈bs,k < wN.heap.size)→Touch bs w1 W'→RdTr W' ⟨.slice am mn cm,.slice ay yn cy,.slice ao on co,.slice an nn cn,mem4,ys4,os4,seq4,snaps4⟩):=hst
 have HFC:Hid (FitTr ⟨.slice am mn cm,.slice ay yn cy,.slice ao on co,.slice an nn cn,mem4,ys4,os4,seq4,snaps4⟩∧NilOk (.slice ay yn cy)∧NilOk (.slice ao on co)∧snaps4.length≤7):=⟨hfit,hny,hno,hfew⟩
 have bb1:=below1 w1 (.cells #[.slice am mn cm,.slice ay yn cy,.slice ao on co,.int .i64 seq4,.slice an nn cn] 28)
 have zb2:=boxTr_new w1 (.slice am mn cm) (.slice ay yn cy) (.slice ao on co) (.slice an nn cn) seq4
 have zr1:BoxTr w1 w.heap.size (.slice none 0 0) (.slice none 0 0) (.slice none 0 0) 0 (.slice none 0 0):=(hg1.block w.heap.size zrN.lt (fun e=>by simp at e;omega)).trans zrN
 have zr2:=zr1.on bb1
 have bw1:Below w.heap.size w w1:=bwN.grown hg1 bwN.size (fun k hk=>by have:=Option.some.inj hk;omega)
 have bw2:=bw1.trans (bb1.mono bw1.size)
 have dc2:=dc1.below bb1
 have s1:=hg1.size
 have t2:Touch [g] w1 (w1.alloc (.cells #[.slice am mn cm,.slice ay yn cy,.slice ao on co,.int .i64 seq4,.slice an nn cn] 28)):=Touch.of_below bb1
 obtain ⟨b5,hb5⟩:∃ b5,b5=w1.heap.size:=⟨_,rfl⟩
 rw [← hb5] at zb2
 have HB5:Hid (w1.heap.size=b5):=hb5.symm
 have HSZ:Hid ((w1.alloc (.cells #[.slice am mn cm,.slice ay yn cy,.slice ao on co,.int .i64 seq4,.slice an nn cn] 28)).heap.size=b5+1):=by unfold Hid;rw [hb5];simp
 clear hst hfit hny hno hfew dc1 hrd1 zr zrN zr1 bN bwN bw0 hr0 hcs bw1 bb1 dcN hb5
 go_wp2_with fail
 rw [HB5.out]
 revert HSZ
 revert t2
 revert dc2
 revert bw2
 revert zr2
 revert zb2
 generalize w1.alloc (.cells #[.slice am mn cm,.slice ay yn cy,.slice ao on co,.int .i64 seq4,.slice an nn cn] 28)=W2
 intro zb2 zr2 bw2 dc2 t2 HSZ
 refine (l7DrawBatch_any W0 W2 g dc2).mono ?_
 rintro e w3 ⟨v,xs,rfl,how,hxl,hsm,dc3,hg3⟩
 obtain ⟨B0,hB0⟩:∃ B0,B0=W2.heap.size:=⟨_,rfl⟩
 rw [← hB0] at how
 have hgw:w.heap.size < g:=by omega
 have hgb:g < b5:=by have:=HB5.out;omega
 have dw3:DW W0 w w1 w3 g b5 B0 ⟨.slice am mn cm,.slice ay yn cy,.slice ao on co,.slice an nn cn,mem4,ys4,os4,seq4,snaps4⟩ v xs :=
  ⟨dc3,bw2.grown hg3 bw2.size (fun k hk=>by have:=Option.some.inj hk;omega),(hg3.block b5 zb2.lt (fun e=>by simp at e;omega)).trans zb2,(hg3.block w.heap.size zr2.lt (fun e=>by simp at e;omega)).trans zr2,t2.trans (grown_touch hg3),how,by rw [hB0];exact hg3.size,hgw,hgb,HB5.out.symm,by rw [hB0,HSZ.out];omega⟩
 have HB0:Hid (wN.heap.size≤B0):=by unfold Hid;rw [hB0,HSZ.out,← HB5.out];omega
 have HGN:Hid (g < wN.heap.size):=hgl
 have HSM:Hid (∀ x∈xs,SmallW x):=hsm
 have hx3:xs.length≤3:=hxl
 clear zb2 zr2 bw2 dc2 t2 HSZ how dc3 hg3 hsm hxl hB0 hgw hgb HW0 s1 hge hgl HB5
 generalize hw0:W0=w0 at dw3 ⊢
 clear hw0 s0
 obtain ⟨va0,vn0,vc0,hv0⟩:=ownW_slice dw3.bat
 subst hv0
 go_wp2_with fail
 refine (l1Once_any w0 _ g 12 dw3.dc (by omega) (by omega)).mono ?_
 rintro e w4 ⟨bb,rfl,dc4,hg4⟩
 have dw4:=dw3.draw hg4 dc4 HGN.out HB0.out
 clear dw3 dc4 hg4 w3
 have HN:Hid (g < wN.heap.size∧True):=⟨HGN.out,trivial⟩
 cases bb with
 | false =>
  have dw:=dw4
  have HXS:xs.length≤30∧∀ x∈xs,SmallW x:=⟨by omega,HSM.out⟩
  clear dw4
  obtain ⟨y0,y1,y2,y3,y4,g0,g1,g2,g3,g4⟩:=dw.box.facts
  obtain ⟨m0,m1,m2,m3,m4,n0,n1,n2,n3,n4⟩:=dw.res.facts
  have hzF:=boxTr_put5 dw.res (.slice am mn cm) (.slice ay yn cy) (.slice ao on co) (.slice an nn cn) seq4
  obtain ⟨f0,f1,f2,f3,f4,-⟩:=hzF.facts
  have END:Hid (DrawWP _ _ _):=dw.fin HST.out HFC.out HN.out.1 HN.out.2 HXS
  simp only at y0 y1 y2 y3 y4
  unfold put5 at f0 f1 f2 f3 f4 END
  clear dw hzF HXS
  go_wp2
  exact bodyPost_ret (v:=.tuple #[.agg #[.slice am mn cm,.slice ay yn cy,.slice ao on co,.int .i64 seq4,.slice an nn cn],.slice va0 vn0 vc0]) (by simp [results,Tryz.results7,go_sem,f0,f1,f2,f3,f4]) rfl END.out
 | true =>
  go_wp2_with fail
  refine (l1Below_any w0 _ g 3 dw4.dc (by omega) (by omega)).mono ?_
  rintro e w5 ⟨y,rfl,hy0,hy1,dc5,hg5⟩
  have dw5:=dw4.draw hg5 dc5 HGN.out HB0.out
  clear dw4 dc5 hg5 w4
  by_cases h0:y=0
  ·subst h0
   go_wp2_with fail
   refine wp_region_noPanic ?_
   refine wp_region_held_drew (S:=fun _=>True) (by kernel_rfl) trivial (fun hS=>?_)
   have dw:DW w0 w w1 w5.drew g b5 B0 ⟨.slice am mn cm,.slice ay yn cy,.slice ao on co,.slice an nn cn,mem4,ys4,os4,seq4,snaps4⟩ _ xs:=dw5.below ((Below.refl _ _).drew)
   clear dw5
   revert hS dw
   generalize w5.drew=V
   intro hS dw
   clear w5
   refine kG 0 19 hS ?_
   refine kG 4 23 hS ?_
   refine kG 8 27 hS ?_
   refine wpAnyH_ready (rs:=[1,5]) (by kernel_rfl) (by simp) ?_
   refine AllReadyH.cons rfl (fun K hK=>?_) ?_
   refine step_makeB rfl 20 rfl _ _ rfl (41) _ (rfl) rfl rfl (by omega) B0 (dw.size HB0.out) ?_
   intro bm V1 hom hm
   replace dw:=dw.below hm
   clear hm hS
   refine hK.out _ _ trivial (fun hS=>?_)
   clear hK K
   try simp only [sA,sZ,sS]
   clear hS
   refine listed_as7 (l':=#[true,true,false,false,true,false,false,false,true,false,false,false,false,false]) (by kernel_rfl) ?_
   revert hom
   revert dw
   revert bm
   revert V1
   clear V
   refine ?qe1
   rotate_left 1
   refine AllReadyH.cons rfl (fun K hK=>?_) AllReadyH.nil
   go_simp
   refine (l1Below_any w0 _ g 3 dw.dc (by omega) (by omega)).mono ?_
   rintro e V1 ⟨x,rfl,hx0,hx1,dc1,hg⟩
   obtain ⟨j,rfl⟩:=Int.eq_ofNat_of_zero_le hx0
   have hj:(j:Int) < 3:=by omega
   replace dw:=dw.draw hg dc1 HGN.out HB0.out
   clear hg dc1 hS hx0 hx1
   refine hK.out _ _ trivial (fun hS=>?_)
   clear hK K
   try simp only [sA,sZ,sS]
   clear hS
   refine listed_as7 (l':=#[true,false,false,false,true,true,false,false,true,false,false,false,false,false]) (by kernel_rfl) ?_
   revert hj
   revert dw
   revert j
   revert V1
   clear V
   refine ?qe5
   rotate_left 1
   intro V0 bm dw hom
   have hS:(fun _:World=>True) V0:=trivial
   refine wpAnyH_ready (rs:=[2,5]) (by kernel_rfl) (by simp) ?_
   refine AllReadyH.cons rfl (fun K hK=>?_) ?_
   have hcv:=conv_own hom
   obtain ⟨tm,HTM⟩:∃ tm:ByteArray,Hid (tm=⟨(List.replicate 41 (0:UInt8)).toArray⟩):=⟨_,rfl⟩
   rw [← HTM.out] at hcv
   have htz:tm.size≤1000:=by rw [HTM.out];show (List.replicate 41 (0:UInt8)).toArray.size≤1000;simp
   go_simp
   clear hcv HTM hS hom
   refine hK.out _ _ trivial (fun hS=>?_)
   clear hK K
   try simp only [sA,sZ,sS]
   clear hS
   refine listed_as7 (l':=#[true,true,true,false,true,false,false,false,true,false,false,false,false,false]) (by kernel_rfl) ?_
   revert htz
   revert dw
   revert tm
   revert bm
   revert V0
   refine ?qe12
   rotate_left 1
   refine AllReadyH.cons rfl (fun K hK=>?_) AllReadyH.nil
   go_simp
   refine (l1Below_any w0 _ g 3 dw.dc (by omega) (by omega)).mono ?_
   rintro e V1 ⟨x,rfl,hx0,hx1,dc1,hg⟩
   obtain ⟨j,rfl⟩:=Int.eq_ofNat_of_zero_le hx0
   have hj:(j:Int) < 3:=by omega
   replace hom:=hom.gW hg HGN.out HB0.out
   replace dw:=dw.draw hg dc1 HGN.out HB0.out
   clear hg dc1 hS hx0 hx1
   refine hK.out _ _ trivial (fun hS=>?_)
   clear hK K
   try simp only [sA,sZ,sS]
   clear hS
   refine listed_as7 (l':=#[true,true,false,false,true,true,false,false,true,false,false,false,false,false]) (by kernel_rfl) ?_
   revert hj
   revert hom
   revert dw
   revert j
   revert bm
   revert V1
   clear V0
   refine ?qe15
   rotate_left 1
   intro V0 j dw hj
   have hS:(fun _:World=>True) V0:=trivial
   refine wpAnyH_ready (rs:=[1,9]) (by kernel_rfl) (by simp) ?_
   refine AllReadyH.cons rfl (fun K hK=>?_) ?_
   refine step_makeB rfl 20 rfl _ _ rfl (41) _ (rfl) rfl rfl (by omega) B0 (dw.size HB0.out) ?_
   intro bm V1 hom hm
   replace dw:=dw.below hm
   clear hm hS
   refine hK.out _ _ trivial (fun hS=>?_)
   clear hK K
   try simp only [sA,sZ,sS]
   clear hS
   refine listed_as7 (l':=#[true,true,false,false,true,true,false,false,true,false,false,false,false,false]) (by kernel_rfl) ?_
   revert hj
   revert hom
   revert dw
   revert j
   revert bm
   revert V1
   clear V0
   exact ?qe15
   refine AllReadyH.cons rfl (fun K hK=>?_) AllReadyH.nil
   go_simp
   refine (l1Once_any w0 _ g 2 dw.dc (by omega) (by omega)).mono ?_
   rintro e V1 ⟨gb,rfl,dc1,hg⟩
   replace dw:=dw.draw hg dc1 HGN.out HB0.out
   clear hg dc1 hS
   refine hK.out _ _ trivial (fun hS=>?_)
   clear hK K
   try simp only [sA,sZ,sS]
   clear hS
   refine listed_as7 (l':=#[true,false,false,false,true,true,false,false,true,true,false,false,false,false]) (by kernel_rfl) ?_
   revert hj
   revert dw
   revert gb
   revert j
   revert V1
   clear V0
   refine ?qe59
   rotate_left 1
   intro V0 bm tm dw htz
   have hS:(fun _:World=>True) V0:=trivial
   refine wpAnyH_ready (rs:=[3,5]) (by kernel_rfl) (by simp) ?_
   refine AllReadyH.cons rfl (fun K hK=>?_) ?_
   refine step_alloc rfl 22 rfl #[.string ⟨#[]⟩,.string ⟨#[107]⟩,.string tm] 9 3 (by go_simp;(try rfl)) ?_
   intro bs V1 hm hbge hcl
   have hbB:B0≤bs:=Nat.le_trans (dw.size HB0.out) hbge
   have c0:CellAt B0 V1 bs 0 (.string ⟨#[]⟩):=⟨hcl 0,hbB⟩
   have c1:CellAt B0 V1 bs 1 (.string ⟨#[107]⟩):=⟨hcl 1,hbB⟩
   have c2:CellAt B0 V1 bs 2 (.string tm):=⟨hcl 2,hbB⟩
   have cc:C3 B0 V1 bs:=⟨tm,htz,c0,c1,c2⟩
   replace dw:=dw.below hm
   clear hm hS hcl hbge hbB c0 c1 c2 htz
   refine hK.out _ _ trivial (fun hS=>?_)
   clear hK K
   try simp only [sA,sZ,sS]
   clear hS
   refine listed_as7 (l':=#[true,true,true,true,true,false,false,false,true,false,false,false,false,false]) (by kernel_rfl) ?_
   revert cc
   revert dw
   revert bs
   revert tm
   revert bm
   revert V1
   clear V0
   refine ?qe123
   rotate_left 1
   refine AllReadyH.cons rfl (fun K hK=>?_) AllReadyH.nil
   go_simp
   refine (l1Below_any w0 _ g 3 dw.dc (by omega) (by omega)).mono ?_
   rintro e V1 ⟨x,rfl,hx0,hx1,dc1,hg⟩
   obtain ⟨j,rfl⟩:=Int.eq_ofNat_of_zero_le hx0
   have hj:(j:Int) < 3:=by omega
   replace dw:=dw.draw hg dc1 HGN.out HB0.out
   clear hg dc1 hS hx0 hx1
   refine hK.out _ _ trivial (fun hS=>?_)
   clear hK K
   try simp only [sA,sZ,sS]
   clear hS
   refine listed_as7 (l':=#[true,true,true,false,true,true,false,false,true,false,false,false,false,false]) (by kernel_rfl) ?_
   revert hj
   revert htz
   revert dw
   revert j
   revert tm
   revert bm
   revert V1
   clear V0
   refine ?qe125
   rotate_left 1
   intro V0 bm j dw hom hj
   have hS:(fun _:World=>True) V0:=trivial
   refine wpAnyH_ready (rs:=[2,9]) (by kernel_rfl) (by simp) ?_
   refine AllReadyH.cons rfl (fun K hK=>?_) ?_
   have hcv:=conv_own hom
   obtain ⟨tm,HTM⟩:∃ tm:ByteArray,Hid (tm=⟨(List.replicate 41 (0:UInt8)).toArray⟩):=⟨_,rfl⟩
   rw [← HTM.out] at hcv
   have htz:tm.size≤1000:=by rw [HTM.out];show (List.replicate 41 (0:UInt8)).toArray.size≤1000;simp
   go_simp
   clear hcv HTM hS hom
   refine hK.out _ _ trivial (fun hS=>?_)
   clear hK K
   try simp only [sA,sZ,sS]
   clear hS
   refine listed_as7 (l':=#[true,true,true,false,true,true,false,false,true,false,false,false,false,false]) (by kernel_rfl) ?_
   revert hj
   revert htz
   revert dw
   revert j
   revert tm
   revert bm
   revert V0
   exact ?qe125
   refine AllReadyH.cons rfl (fun K hK=>?_) AllReadyH.nil
   go_simp
   refine (l1Once_any w0 _ g 2 dw.dc (by omega) (by omega)).mono ?_
   rintro e V1 ⟨gb,rfl,dc1,hg⟩
   replace hom:=hom.gW hg HGN.out HB0.out
   replace dw:=dw.draw hg dc1 HGN.out HB0.out
   clear hg dc1 hS
   refine hK.out _ _ trivial (fun hS=>?_)
   clear hK K
   try simp only [sA,sZ,sS]
   clear hS
   refine listed_as7 (l':=#[true,true,false,false,true,true,false,false,true,true,false,false,false,false]) (by kernel_rfl) ?_
   revert hj
   revert hom
   revert dw
   revert gb
   revert j
   revert bm
   revert V1
   clear V0
   refine ?qe159
   rotate_left 1
   intro V0 j gb dw hj
   have hS:(fun _:World=>True) V0:=trivial
   refine wpAnyH_ready (rs:=[1]) (by kernel_rfl) (by simp) ?_
   refine AllReadyH.cons rfl (fun K hK=>?_) AllReadyH.nil
   refine step_makeB rfl 20 rfl _ _ rfl (41) _ (rfl) rfl rfl (by omega) B0 (dw.size HB0.out) ?_
   intro bm V1 hom hm
   replace dw:=dw.below hm
   clear hm hS
   refine hK.out _ _ trivial (fun hS=>?_)
   clear hK K
   try simp only [sA,sZ,sS]
   clear hS
   refine listed_as7 (l':=#[true,true,false,false,true,true,false,false,true,true,false,false,false,false]) (by kernel_rfl) ?_
   revert hj
   revert hom
   revert dw
   revert gb
   revert j
   revert bm
   revert V1
   clear V0
   exact ?qe159
   intro V0 bm tm bs dw cc
   have hS:(fun _:World=>True) V0:=trivial
   refine wpAnyH_ready (rs:=[5]) (by kernel_rfl) (by simp) ?_
   refine AllReadyH.cons rfl (fun K hK=>?_) AllReadyH.nil
   go_simp
   refine (l1Below_any w0 _ g 3 dw.dc (by omega) (by omega)).mono ?_
   rintro e V1 ⟨x,rfl,hx0,hx1,dc1,hg⟩
   obtain ⟨j,rfl⟩:=Int.eq_ofNat_of_zero_le hx0
   have hj:(j:Int) < 3:=by omega
   replace cc:=cc.gW hg HGN.out HB0.out
   replace dw:=dw.draw hg dc1 HGN.out HB0.out
   clear hg dc1 hS hx0 hx1
   refine hK.out _ _ trivial (fun hS=>?_)
   clear hK K
   try simp only [sA,sZ,sS]
   refine kG 6 25 hS ?_
   clear hS
   refine listed_as7 (l':=#[true,true,true,true,true,true,true,false,true,false,false,false,false,false]) (by kernel_rfl) ?_
   revert hj
   revert cc
   revert dw
   revert j
   revert bs
   revert tm
   revert bm
   revert V1
   clear V0
   refine ?qe1235
   rotate_left 1
   intro V0 bm tm j dw htz hj
   have hS:(fun _:World=>True) V0:=trivial
   refine wpAnyH_ready (rs:=[3,9]) (by kernel_rfl) (by simp) ?_
   refine AllReadyH.cons rfl (fun K hK=>?_) ?_
   refine step_alloc rfl 22 rfl #[.string ⟨#[]⟩,.string ⟨#[107]⟩,.string tm] 9 3 (by go_simp;(try rfl)) ?_
   intro bs V1 hm hbge hcl
   have hbB:B0≤bs:=Nat.le_trans (dw.size HB0.out) hbge
   have c0:CellAt B0 V1 bs 0 (.string ⟨#[]⟩):=⟨hcl 0,hbB⟩
   have c1:CellAt B0 V1 bs 1 (.string ⟨#[107]⟩):=⟨hcl 1,hbB⟩
   have c2:CellAt B0 V1 bs 2 (.string tm):=⟨hcl 2,hbB⟩
   have cc:C3 B0 V1 bs:=⟨tm,htz,c0,c1,c2⟩
   replace dw:=dw.below hm
   clear hm hS hcl hbge hbB c0 c1 c2 htz
   refine hK.out _ _ trivial (fun hS=>?_)
   clear hK K
   try simp only [sA,sZ,sS]
   refine kG 6 25 hS ?_
   clear hS
   refine listed_as7 (l':=#[true,true,true,true,true,true,true,false,true,false,false,false,false,false]) (by kernel_rfl) ?_
   revert hj
   revert cc
   revert dw
   revert j
   revert bs
   revert tm
   revert bm
   revert V1
   clear V0
   exact ?qe1235
   refine AllReadyH.cons rfl (fun K hK=>?_) AllReadyH.nil
   go_simp
   refine (l1Once_any w0 _ g 2 dw.dc (by omega) (by omega)).mono ?_
   rintro e V1 ⟨gb,rfl,dc1,hg⟩
   replace dw:=dw.draw hg dc1 HGN.out HB0.out
   clear hg dc1 hS
   refine hK.out _ _ trivial (fun hS=>?_)
   clear hK K
   try simp only [sA,sZ,sS]
   clear hS
   refine listed_as7 (l':=#[true,true,true,false,true,true,false,false,true,true,false,false,false,false]) (by kernel_rfl) ?_
   revert hj
   revert htz
   revert dw
   revert gb
   revert j
   revert tm
   revert bm
   revert V1
   clear V0
   refine ?qe1259
   rotate_left 1
   intro V0 bm j gb dw hom hj
   have hS:(fun _:World=>True) V0:=trivial
   refine wpAnyH_ready (rs:=[2]) (by kernel_rfl) (by simp) ?_
   refine AllReadyH.cons rfl (fun K hK=>?_) AllReadyH.nil
   have hcv:=conv_own hom
   obtain ⟨tm,HTM⟩:∃ tm:ByteArray,Hid (tm=⟨(List.replicate 41 (0:UInt8)).toArray⟩):=⟨_,rfl⟩
   rw [← HTM.out] at hcv
   have htz:tm.size≤1000:=by rw [HTM.out];show (List.replicate 41 (0:UInt8)).toArray.size≤1000;simp
   go_simp
   clear hcv HTM hS hom
   refine hK.out _ _ trivial (fun hS=>?_)
   clear hK K
   try simp only [sA,sZ,sS]
   clear hS
   refine listed_as7 (l':=#[true,true,true,false,true,true,false,false,true,true,false,false,false,false]) (by kernel_rfl) ?_
   revert hj
   revert htz
   revert dw
   revert gb
   revert j
   revert tm
   revert bm
   revert V0
   exact ?qe1259
   intro V0 bm tm bs j dw cc hj
   have hS:(fun _:World=>True) V0:=trivial
   refine wpAnyH_ready (rs:=[7,9]) (by kernel_rfl) (by simp) ?_
   refine AllReadyH.cons rfl (fun K hK=>?_) ?_
   obtain ⟨kt,hkt,hkc⟩:=cc.pick (j:=j) (by omega)
   obtain ⟨hkc1,-⟩:=hkc
   go_simp
   clear hkc1 hS cc hj
   refine hK.out _ _ trivial (fun hS=>?_)
   clear hK K
   try simp only [sA,sZ,sS]
   clear hS
   refine listed_as7 (l':=#[true,true,true,true,true,true,true,true,true,false,false,false,false,false]) (by kernel_rfl) ?_
   revert hkt
   revert dw
   revert kt
   revert j
   revert bs
   revert tm
   revert bm
   revert V0
   refine ?qe12357
   rotate_left 1
   refine AllReadyH.cons rfl (fun K hK=>?_) AllReadyH.nil
   go_simp
   refine (l1Once_any w0 _ g 2 dw.dc (by omega) (by omega)).mono ?_
   rintro e V1 ⟨gb,rfl,dc1,hg⟩
   replace cc:=cc.gW hg HGN.out HB0.out
   replace dw:=dw.draw hg dc1 HGN.out HB0.out
   clear hg dc1 hS
   refine hK.out _ _ trivial (fun hS=>?_)
   clear hK K
   try simp only [sA,sZ,sS]
   clear hS
   refine listed_as7 (l':=#[true,true,true,true,true,true,true,false,true,true,false,false,false,false]) (by kernel_rfl) ?_
   revert hj
   revert cc
   revert dw
   revert gb
   revert j
   revert bs
   revert tm
   revert bm
   revert V1
   clear V0
   refine ?qe12359
   rotate_left 1
   intro V0 bm tm j gb dw htz hj
   have hS:(fun _:World=>True) V0:=trivial
   refine wpAnyH_ready (rs:=[3]) (by kernel_rfl) (by simp) ?_
   refine AllReadyH.cons rfl (fun K hK=>?_) AllReadyH.nil
   refine step_alloc rfl 22 rfl #[.string ⟨#[]⟩,.string ⟨#[107]⟩,.string tm] 9 3 (by go_simp;(try rfl)) ?_
   intro bs V1 hm hbge hcl
   have hbB:B0≤bs:=Nat.le_trans (dw.size HB0.out) hbge
   have c0:CellAt B0 V1 bs 0 (.string ⟨#[]⟩):=⟨hcl 0,hbB⟩
   have c1:CellAt B0 V1 bs 1 (.string ⟨#[107]⟩):=⟨hcl 1,hbB⟩
   have c2:CellAt B0 V1 bs 2 (.string tm):=⟨hcl 2,hbB⟩
   have cc:C3 B0 V1 bs:=⟨tm,htz,c0,c1,c2⟩
   replace dw:=dw.below hm
   clear hm hS hcl hbge hbB c0 c1 c2 htz
   refine hK.out _ _ trivial (fun hS=>?_)
   clear hK K
   try simp only [sA,sZ,sS]
   refine kG 6 25 hS ?_
   clear hS
   refine listed_as7 (l':=#[true,true,true,true,true,true,true,false,true,true,false,false,false,false]) (by kernel_rfl) ?_
   revert hj
   revert cc
   revert dw
   revert gb
   revert j
   revert bs
   revert tm
   revert bm
   revert V1
   clear V0
   exact ?qe12359
   intro V0 bm tm bs j kt dw hkt
   have hS:(fun _:World=>True) V0:=trivial
   refine wpAnyH_ready (rs:=[9]) (by kernel_rfl) (by simp) ?_
   refine AllReadyH.cons rfl (fun K hK=>?_) AllReadyH.nil
   go_simp
   refine (l1Once_any w0 _ g 2 dw.dc (by omega) (by omega)).mono ?_
   rintro e V1 ⟨gb,rfl,dc1,hg⟩
   replace dw:=dw.draw hg dc1 HGN.out HB0.out
   clear hg dc1 hS
   refine hK.out _ _ trivial (fun hS=>?_)
   clear hK K
   try simp only [sA,sZ,sS]
   clear hS
   refine listed_as7 (l':=#[true,true,true,true,true,true,true,true,true,true,false,false,false,false]) (by kernel_rfl) ?_
   revert hkt
   revert dw
   revert gb
   revert kt
   revert j
   revert bs
   revert tm
   revert bm
   revert V1
   clear V0
   refine ?qe123579
   rotate_left 1
   intro V0 bm tm bs j gb dw cc hj
   have hS:(fun _:World=>True) V0:=trivial
   refine wpAnyH_ready (rs:=[7]) (by kernel_rfl) (by simp) ?_
   refine AllReadyH.cons rfl (fun K hK=>?_) AllReadyH.nil
   obtain ⟨kt,hkt,hkc⟩:=cc.pick (j:=j) (by omega)
   obtain ⟨hkc1,-⟩:=hkc
   go_simp
   clear hkc1 hS cc hj
   refine hK.out _ _ trivial (fun hS=>?_)
   clear hK K
   try simp only [sA,sZ,sS]
   clear hS
   refine listed_as7 (l':=#[true,true,true,true,true,true,true,true,true,true,false,false,false,false]) (by kernel_rfl) ?_
   revert hkt
   revert dw
   revert gb
   revert kt
   revert j
   revert bs
   revert tm
   revert bm
   revert V0
   exact ?qe123579
   intro V0 bm tm bs j kt gb dw hkt
   have hS:(fun _:World=>True) V0:=trivial
   refine kG 10 29 hS ?_
   have bz:=below1 V0 (.cells #[.string kt,.string ⟨#[118]⟩,.bool gb] 42)
   have hx4:=wriAt_new V0 ⟨kt,⟨#[118]⟩,gb⟩ 42
   replace dw:=dw.below bz
   refine wpAnyH_ready (rs:=[11]) (by kernel_rfl) (by simp) ?_
   refine AllReadyH.cons rfl (fun K hK=>?_) AllReadyH.nil
   go_simp
   clear hS bz
   refine hK.out _ _ trivial (fun hS=>?_)
   clear hK K
   try simp only [sA,sZ,sS]
   generalize V0.heap.size=vz at hx4 ⊢
   generalize V0.alloc (.cells #[.string kt,.string ⟨#[118]⟩,.bool gb] 42)=V1 at dw hx4 hS ⊢
   refine wpAnyH_ready (rs:=[12]) (by kernel_rfl) (by simp) ?_
   refine AllReadyH.cons rfl (fun K hK=>?_) AllReadyH.nil
   refine step_append_wris rfl 31 rfl _ _ rfl B0 _ _ xs [⟨kt,⟨#[118]⟩,gb⟩] rfl rfl dw.bat (rdW_one hx4) (by simp;omega) (dw.size HB0.out) ?_
   intro v6 V6 ho6 hg6
   replace dw:=dw.app hg6 ho6 HB0.out (by omega)
   clear hS hx4 ho6 hg6
   refine hK.out _ _ trivial (fun hS=>?_)
   clear hK K
   try simp only [sA,sZ,sS]
   refine kG 13 6 hS ?_
   refine wpAnyH_done (by kernel_rfl) ?_ _
   refine NoPanic.normal ?_
   clear hS
   have HXS:(xs++[(⟨kt,⟨#[118]⟩,gb⟩:Wri)]).length≤30∧∀ x∈xs++[(⟨kt,⟨#[118]⟩,gb⟩:Wri)],SmallW x:=⟨by simp;omega,fun x hx=>by
    rcases List.mem_append.1 hx with hx | hx
    ·exact HSM.out x hx
    ·rw [List.mem_singleton.1 hx];exact ⟨hkt,by show (⟨#[118]⟩:ByteArray).size≤1000;decide⟩⟩
   clear hkt
   obtain ⟨va,vn,vc,hvw⟩:=ownW_slice dw.bat
   subst hvw
   obtain ⟨y0,y1,y2,y3,y4,g0,g1,g2,g3,g4⟩:=dw.box.facts
   obtain ⟨m0,m1,m2,m3,m4,n0,n1,n2,n3,n4⟩:=dw.res.facts
   have hzF:=boxTr_put5 dw.res (.slice am mn cm) (.slice ay yn cy) (.slice ao on co) (.slice an nn cn) seq4
   obtain ⟨f0,f1,f2,f3,f4,-⟩:=hzF.facts
   have END:Hid (DrawWP _ _ _):=dw.fin HST.out HFC.out HN.out.1 HN.out.2 HXS
   simp only at y0 y1 y2 y3 y4
   unfold put5 at f0 f1 f2 f3 f4 END
   clear dw hzF HXS
   go_wp2
   exact bodyPost_ret (v:=.tuple #[.agg #[.slice am mn cm,.slice ay yn cy,.slice ao on co,.int .i64 seq4,.slice an nn cn],.slice va vn vc]) (by simp [results,Tryz.results7,go_sem,f0,f1,f2,f3,f4]) rfl END.out
  by_cases h1:y=1
  ·subst h1
   have bz:=below1 w5 (.cells #[] 42)
   have hn0:=ownW_none w5
   have dw6:=(dw5.below bz).new (hn0.mono (dw5.size HB0.out))
   clear dw5 bz hn0 hx3 HSM
   go_wp2
   go_loopw [6] (fun v wr=>∃ ys:List Wri,Hid (DW w0 w w1 wr g b5 B0 ⟨.slice am mn cm,.slice ay yn cy,.slice ao on co,.slice an nn cn,mem4,ys4,os4,seq4,snaps4⟩ v ys)∧ys.length≤21∧(∃ a c,v=.slice a ys.length c)∧Hid (∀ x∈ys,SmallW x)) (fun v _=>22 - sliceN v)
   case atStart=>exact ⟨[],dw6,Nat.zero_le _,⟨_,_,rfl⟩,fun x hx=>by cases hx⟩
   case round =>
    clear dw6
    obtain ⟨ys,HDW,hyl,⟨a,c,rfl⟩,HYS⟩:=hrel
    obtain ⟨n,hn⟩:∃ n,n=ys.length:=⟨_,rfl⟩
    have HNY:Hid (n=ys.length):=hn
    rw [← hn] at hyl
    rw [← HNY.out] at HDW ⊢
    clear hn
    go_wp2_with fail
    refine (l1Below_any w0 _ g 2 HDW.out.dc (by omega) (by omega)).mono ?_
    rintro e w6 ⟨z,rfl,hz0',hz1',dc6,hg6⟩
    have dw:=HDW.out.draw hg6 dc6 HGN.out HB0.out
    clear HDW dc6 hg6
    by_cases hlt:(n:Int) < 20+z
    ·have bz:=below1 w6 (.cells #[.string ⟨#[107]⟩,.string ⟨#[]⟩,.bool false] 42)
     have hx4:=wriAt_new w6 ⟨⟨#[107]⟩,⟨#[]⟩,false⟩ 42
     have dw7:=dw.below bz
     have hsz:=dw7.size HB0.out
     clear bz dw
     go_wp2_with (at_builtin;(refine wpList_append_wris rfl _ _ rfl B0 _ _ ys [⟨⟨#[107]⟩,⟨#[]⟩,false⟩] rfl rfl dw7.bat (rdW_one hx4) (by have:=HNY.out;simp;omega) hsz ?_))
     intro v8 w8 ho8 hg8
     have dw8:Hid (DW w0 w w1 w8 g b5 B0 ⟨.slice am mn cm,.slice ay yn cy,.slice ao on co,.slice an nn cn,mem4,ys4,os4,seq4,snaps4⟩ v8 (ys++[⟨⟨#[107]⟩,⟨#[]⟩,false⟩])):=dw7.app hg8 ho8 HB0.out (by have:=HNY.out;omega)
     obtain ⟨a8,c8,hv8⟩:∃ a8 c8,v8=.slice a8 (n+1) c8:=by
      obtain ⟨a8,c8,e,-⟩:=ho8.rd
      exact ⟨a8,c8,by rw [e,HNY.out];simp⟩
     subst hv8
     have HY8:Hid (∀ x∈ys++[(⟨⟨#[107]⟩,⟨#[]⟩,false⟩:Wri)],SmallW x):=fun x hx=>by
      rcases List.mem_append.1 hx with hx | hx
      ·exact HYS.out x hx
      ·rw [List.mem_singleton.1 hx];exact ⟨by show (⟨#[107]⟩:ByteArray).size≤1000;decide,by show (⟨#[]⟩:ByteArray).size≤1000;decide⟩
     clear hx4 dw7 hsz ho8 hg8 HYS
     go_wp2
     go_roundw
     case rel=>exact ⟨ys++[⟨⟨#[107]⟩,⟨#[]⟩,false⟩],dw8,by have:=HNY.out;simp;omega,⟨a8,c8,by rw [HNY.out];simp⟩,HY8⟩
     case measure=>simp [sliceN];omega
    ·have HXS:ys.length≤30∧∀ x∈ys,SmallW x:=⟨by have:=HNY.out;omega,HYS.out⟩
     clear HYS
     obtain ⟨q,hq⟩:∃ q:Int,q=20+z:=⟨_,rfl⟩
     have hq1:(20:Int)+z=q:=hq.symm
     have hq2:¬ (n:Int) < q:=by omega
     have hq3:IntKind.i64.wrap q=q:=by rw [IntKind.wrap_i64];omega
     clear hq hlt hz0' hz1'
     go_upto_region 14 with fail
     clear hq1 hq2 hq3
     obtain ⟨y0,y1,y2,y3,y4,g0,g1,g2,g3,g4⟩:=dw.box.facts
     obtain ⟨m0,m1,m2,m3,m4,n0,n1,n2,n3,n4⟩:=dw.res.facts
     have hzF:=boxTr_put5 dw.res (.slice am mn cm) (.slice ay yn cy) (.slice ao on co) (.slice an nn cn) seq4
     obtain ⟨f0,f1,f2,f3,f4,-⟩:=hzF.facts
     have END:Hid (DrawWP _ _ _):=dw.fin HST.out HFC.out HN.out.1 HN.out.2 HXS
     simp only at y0 y1 y2 y3 y4
     unfold put5 at f0 f1 f2 f3 f4 END
     clear dw hzF HXS
     go_wp2
     exact bodyPost_ret (v:=.tuple #[.agg #[.slice am mn cm,.slice ay yn cy,.slice ao on co,.int .i64 seq4,.slice an nn cn],.slice a n c]) (by simp [results,Tryz.results7,go_sem,f0,f1,f2,f3,f4]) rfl END.out
  have h2:y=2:=by omega
  subst h2
  go_wp2_with fail
  refine (l1Below_any w0 _ g 2 dw5.dc (by omega) (by omega)).mono ?_
  rintro e w6 ⟨z,rfl,hz0',hz1',dc6,hg6⟩
  have dw6:=dw5.draw hg6 dc6 HGN.out HB0.out
  clear dw5 dc6 hg6 w5
  by_cases hzz:z=0
  ·subst hzz
   go_wp2_with (at_make;(refine wpList_make_full _ rfl _ _ 22 rfl w6.heap.size 5 i0 (.int .u8 0) 1 Tryz.underlying22 hi hz0 hz1 .i64 .i64 200 200 200 rfl rfl rfl rfl ?f1 ?f2 ?f3 ?_))
   case f1=>rw [hz2];omega
   case f2=>unfold maxLen;omega
   case f3=>omega
   intro w7 ho7 hg7
   obtain ⟨zs,Hzl,hoz⟩:∃ zs:List UInt8,Hid (zs.length=200)∧Own w7 w6.heap.size (.slice (some ⟨w6.heap.size,0,none⟩) 200 200) zs:=by
    rw [madeB] at ho7
    exact ⟨List.replicate 200 0,List.length_replicate,by unfold Own;rw [List.length_replicate];exact ho7⟩
   have hcv:=conv_own hoz
   have dw7:=dw6.below ((Below.refl _ _).grown hg7 (Nat.le_refl _) (fun k hk=>by cases hk))
   have hzs:(⟨zs.toArray⟩:ByteArray).size≤1000:=by show zs.toArray.size≤1000;rw [List.size_toArray,Hzl.out];omega
   generalize (⟨zs.toArray⟩:ByteArray)=t at hcv hzs
   have bz:=below1 w7 (.cells #[.string ⟨#[107]⟩,.string t,.bool false] 42)
   have hx4:=wriAt_new w7 ⟨⟨#[107]⟩,t,false⟩ 42
   have dw8:=dw7.below bz
   have hsz:=dw8.size HB0.out
   clear ho7 hg7 hoz Hzl dw6 dw7 bz
   go_wp2_with (at_builtin;(refine wpList_append_wris rfl _ _ rfl B0 _ _ xs [⟨⟨#[107]⟩,t,false⟩] rfl rfl dw8.bat (rdW_one hx4) (by simp;omega) hsz ?_))
   intro v9 w9 ho9 hg9
   have dw:=dw8.app hg9 ho9 HB0.out (by omega)
   have HXS:(xs++[(⟨⟨#[107]⟩,t,false⟩:Wri)]).length≤30∧∀ x∈xs++[(⟨⟨#[107]⟩,t,false⟩:Wri)],SmallW x:=⟨by simp;omega,fun x hx=>by
    rcases List.mem_append.1 hx with hx | hx
    ·exact HSM.out x hx
    ·rw [List.mem_singleton.1 hx];exact ⟨by show (⟨#[107]⟩:ByteArray).size≤1000;decide,hzs⟩⟩
   clear dw8 ho9 hg9 hx4 hsz hzs hcv
   obtain ⟨va,vn,vc,hvw⟩:=ownW_slice dw.bat
   subst hvw
   obtain ⟨y0,y1,y2,y3,y4,g0,g1,g2,g3,g4⟩:=dw.box.facts
   obtain ⟨m0,m1,m2,m3,m4,n0,n1,n2,n3,n4⟩:=dw.res.facts
   have hzF:=boxTr_put5 dw.res (.slice am mn cm) (.slice ay yn cy) (.slice ao on co) (.slice an nn cn) seq4
   obtain ⟨f0,f1,f2,f3,f4,-⟩:=hzF.facts
   have END:Hid (DrawWP _ _ _):=dw.fin HST.out HFC.out HN.out.1 HN.out.2 HXS
   simp only at y0 y1 y2 y3 y4
   unfold put5 at f0 f1 f2 f3 f4 END
   clear dw hzF HXS
   go_wp2
   exact bodyPost_ret (v:=.tuple #[.agg #[.slice am mn cm,.slice ay yn cy,.slice ao on co,.int .i64 seq4,.slice an nn cn],.slice va vn vc]) (by simp [results,Tryz.results7,go_sem,f0,f1,f2,f3,f4]) rfl END.out
  have hz1e:z=1:=by omega
  subst hz1e
  go_wp2_with (at_make;(refine wpList_make_full _ rfl _ _ 22 rfl w6.heap.size 5 i0 (.int .u8 0) 1 Tryz.underlying22 hi hz0 hz1 .i64 .i64 201 201 201 rfl rfl rfl rfl ?f1 ?f2 ?f3 ?_))
  case f1=>rw [hz2];omega
  case f2=>unfold maxLen;omega
  case f3=>omega
  intro w7 ho7 hg7
  obtain ⟨zs,Hzl,hoz⟩:∃ zs:List UInt8,Hid (zs.length=201)∧Own w7 w6.heap.size (.slice (some ⟨w6.heap.size,0,none⟩) 201 201) zs:=by
   rw [madeB] at ho7
   exact ⟨List.replicate 201 0,List.length_replicate,by unfold Own;rw [List.length_replicate];exact ho7⟩
  have hcv:=conv_own hoz
  have dw7:=dw6.below ((Below.refl _ _).grown hg7 (Nat.le_refl _) (fun k hk=>by cases hk))
  have hzs:(⟨zs.toArray⟩:ByteArray).size≤1000:=by show zs.toArray.size≤1000;rw [List.size_toArray,Hzl.out];omega
  generalize (⟨zs.toArray⟩:ByteArray)=t at hcv hzs
  have bz:=below1 w7 (.cells #[.string ⟨#[107]⟩,.string t,.bool false] 42)
  have hx4:=wriAt_new w7 ⟨⟨#[107]⟩,t,false⟩ 42
  have dw8:=dw7.below bz
  have hsz:=dw8.size HB0.out
  clear ho7 hg7 hoz Hzl dw6 dw7 bz
  go_wp2_with (at_builtin;(refine wpList_append_wris rfl _ _ rfl B0 _ _ xs [⟨⟨#[107]⟩,t,false⟩] rfl rfl dw8.bat (rdW_one hx4) (by simp;omega) hsz ?_))
  intro v9 w9 ho9 hg9
  have dw:=dw8.app hg9 ho9 HB0.out (by omega)
  have HXS:(xs++[(⟨⟨#[107]⟩,t,false⟩:Wri)]).length≤30∧∀ x∈xs++[(⟨⟨#[107]⟩,t,false⟩:Wri)],SmallW x:=⟨by simp;omega,fun x hx=>by
   rcases List.mem_append.1 hx with hx | hx
   ·exact HSM.out x hx
   ·rw [List.mem_singleton.1 hx];exact ⟨by show (⟨#[107]⟩:ByteArray).size≤1000;decide,hzs⟩⟩
  clear dw8 ho9 hg9 hx4 hsz hzs hcv
  obtain ⟨va,vn,vc,hvw⟩:=ownW_slice dw.bat
  subst hvw
  obtain ⟨y0,y1,y2,y3,y4,g0,g1,g2,g3,g4⟩:=dw.box.facts
  obtain ⟨m0,m1,m2,m3,m4,n0,n1,n2,n3,n4⟩:=dw.res.facts
  have hzF:=boxTr_put5 dw.res (.slice am mn cm) (.slice ay yn cy) (.slice ao on co) (.slice an nn cn) seq4
  obtain ⟨f0,f1,f2,f3,f4,-⟩:=hzF.facts
  have END:Hid (DrawWP _ _ _):=dw.fin HST.out HFC.out HN.out.1 HN.out.2 HXS
  simp only at y0 y1 y2 y3 y4
  unfold put5 at f0 f1 f2 f3 f4 END
  clear dw hzF HXS
  go_wp2
  exact bodyPost_ret (v:=.tuple #[.agg #[.slice am mn cm,.slice ay yn cy,.slice ao on co,.int .i64 seq4,.slice an nn cn],.slice va vn vc]) (by simp [results,Tryz.results7,go_sem,f0,f1,f2,f3,f4]) rfl END.out
open Go.RowKit
theorem bigT_any (v:Value) (bs:List UInt8) (w:World) (hr:Rd w v bs) :
 Calls Tryz.prog 6 #[v] w fun e w'=>e=.returned (.bool (decide (4096 < (bs.length:Int))))∧w'=w:=by
 obtain ⟨a,cap,rfl,hl,hm,_⟩:=hr
 unfold maxLen at hm
 go_enter Tryz.func6,Tryz.ntmps6
 go_wp2
 go_ret
 exact ⟨rfl,rfl⟩
theorem likeIntsT_same (va vb:Value) (bs:List Int) (w:World) (ha:RdI w va bs) (hb:RdI w vb bs) :
 Calls Tryz.prog 25 #[va,vb] w fun e w'=>e=.returned (.bool true)∧∃ q,w'=w.drewN q:=by
 obtain ⟨aa,ca,rfl,hla,hma,-,hA⟩:=ha
 obtain ⟨ab,cb,rfl,hlb,hmb,-,hB⟩:=hb
 unfold maxLen at hma hmb
 have hne:((bs.length:Int) != (bs.length:Int))=false:=by simp
 rcases hA with rfl | ⟨ba,offa,rfl,hA⟩
 ·go_enter Tryz.func25,Tryz.ntmps25
  go_wp2
  refine wp_loop_rounds 1 ?_
  rw [rounds_succ]
  go_wp2
  go_ret
  exact ⟨rfl,0,rfl⟩
 ·rcases hB with rfl | ⟨bb,offb,rfl,hB⟩
  ·go_enter Tryz.func25,Tryz.ntmps25
   go_wp2
   refine wp_loop_rounds 1 ?_
   rw [rounds_succ]
   go_wp2
   go_ret
   exact ⟨rfl,0,rfl⟩
  ·go_enter Tryz.func25,Tryz.ntmps25
   go_wp2
   go_loopw [5] (fun i wr=>∃ k:Nat,k≤bs.length∧i=.int .i64 k∧∃ q,wr=w.drewN q) (fun i _=>bs.length - (intOf i).toNat)
   case atStart=>exact ⟨0,Nat.zero_le _,rfl,0,rfl⟩
   case round =>
    obtain ⟨k,hk,rfl,q,rfl⟩:=hrel
    by_cases hlt:k < bs.length
    ·have h1:=hA k hlt
     have h2:=hB k hlt
     have h3:(bs[k] != bs[k])=false:=by simp
     clear hA hB
     go_wp2
     go_quiet (fail)
     go_wp2
     go_roundw
     case rel=>exact ⟨k+1,by omega,by go_num,_,rfl⟩
     case measure=>simp [intOf];omega
    ·go_wp2
     go_ret
     exact ⟨rfl,q,rfl⟩
theorem likeTextsT_same (va vb:Value) (bs:List ByteArray) (w:World) (ha:RdS w va bs) (hb:RdS w vb bs) :
 Calls Tryz.prog 83 #[va,vb] w fun e w'=>e=.returned (.bool true)∧∃ q,w'=w.drewN q:=by
 obtain ⟨aa,ca,rfl,hla,hma,hA⟩:=ha
 obtain ⟨ab,cb,rfl,hlb,hmb,hB⟩:=hb
 unfold maxLen at hma hmb
 have hne:((bs.length:Int) != (bs.length:Int))=false:=by simp
 rcases hA with rfl | ⟨ba,offa,rfl,hA⟩
 ·go_enter Tryz.func83,Tryz.ntmps83
  go_wp2
  refine wp_loop_rounds 1 ?_
  rw [rounds_succ]
  go_wp2
  go_ret
  exact ⟨rfl,0,rfl⟩
 ·rcases hB with rfl | ⟨bb,offb,rfl,hB⟩
  ·go_enter Tryz.func83,Tryz.ntmps83
   go_wp2
   refine wp_loop_rounds 1 ?_
   rw [rounds_succ]
   go_wp2
   go_ret
   exact ⟨rfl,0,rfl⟩
  ·go_enter Tryz.func83,Tryz.ntmps83
   go_wp2
   go_loopw [5] (fun i wr=>∃ k:Nat,k≤bs.length∧i=.int .i64 k∧∃ q,wr=w.drewN q) (fun i _=>bs.length - (intOf i).toNat)
   case atStart=>exact ⟨0,Nat.zero_le _,rfl,0,rfl⟩
   case round =>
    obtain ⟨k,hk,rfl,q,rfl⟩:=hrel
    by_cases hlt:k < bs.length
    ·have h1:=hA k hlt
     have h2:=hB k hlt
     clear hA hB
     go_wp2
     go_quiet (fail)
     go_wp2
     go_roundw
     case rel=>exact ⟨k+1,by omega,by go_num,_,rfl⟩
     case measure=>simp [intOf];omega
    ·go_wp2
     go_ret
     exact ⟨rfl,q,rfl⟩
theorem likeEntsT_same (va vb:Value) (es:List Ent) (w:World) (ha:RdE w va es) (hb:RdE w vb es) :
 Calls Tryz.prog 23 #[va,vb] w fun e w'=>e=.returned (.bool true)∧∃ n,w'=w.drewN n:=by
 obtain ⟨aa,ca,hva,hla,hma,_⟩:=id ha
 obtain ⟨ab,cb,hvb,hlb,hmb,_⟩:=id hb
 subst hva
 subst hvb
 unfold maxLen at hma hmb
 have hne:((es.length:Int) != (es.length:Int))=false:=by simp
 go_enter Tryz.func23,Tryz.ntmps23
 go_wp2
 go_loopw [5] (fun i wr=>∃ k:Nat,k≤es.length∧i=.int .i64 k∧∃ n,wr=w.drewN n) (fun i _=>es.length - (intOf i).toNat)
 case atStart=>exact ⟨0,Nat.zero_le _,rfl,0,rfl⟩
 case round =>
  obtain ⟨k,hk,rfl,n,rfl⟩:=hrel
  by_cases hlt:k < es.length
  ·obtain ⟨b1,o1,rfl,hc1⟩:=(ha.drewN n).at rfl k hlt
   obtain ⟨b2,o2,rfl,hc2⟩:=(hb.drewN n).at rfl k hlt
   obtain ⟨x,hx⟩:∃ x,x=nth es k:=⟨_,rfl⟩
   rw [← hx] at hc1 hc2
   clear hx
   go_wp2_with fail
   refine wp_region_noPanic ?_
   refine wp_region_held_drew (S:=fun w'=>EntAt w' b1 (o1+k*4) x∧EntAt w' b2 (o2+k*4) x) (by kernel_rfl) ⟨hc1,hc2⟩ (fun hH=>?_)
   refine kA 0 17 hH ?_
   refine kA 1 18 hH ?_
   refine kA 2 19 hH ?_
   refine kA 3 20 hH ?_
   refine kA 4 21 hH ?_
   refine kA 5 22 hH ?_
   refine kA 6 23 hH ?_
   refine kA 7 24 hH ?_
   refine kA 8 25 hH ?_
   refine wpAnyH_done (by kernel_rfl) ?_ _
   refine NoPanic.normal ?_
   go_wp2
   go_roundw
   case rel=>exact ⟨k+1,by omega,by go_num,n+1,rfl⟩
   case measure=>simp [intOf];omega
  ·go_wp2
   go_ret
   exact ⟨rfl,n,rfl⟩
end Go.Proofs.YtmlmlemiidedcaaGreat
