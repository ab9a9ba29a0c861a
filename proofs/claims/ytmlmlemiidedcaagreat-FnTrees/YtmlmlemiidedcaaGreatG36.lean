import Derived.Test.YtmlmlemiidedcaaGreatG35
namespace Go.Proofs.YtmlmlemiidedcaaGreat
set_option maxHeartbeats 16000000
set_option maxRecDepth 100000
open Go.RowKit
def freeR (T:Tre) (s:Int):Tre:=if treeOk T=true then freeT T s else zeroTr
def freeO (T:Tre) (s:Int):Bool:=treeOk T && decide (s∈T.snaps)
theorem filt_self {s:Int} {ss:List Int} (h:s ∉ ss):ss.filter (fun x=>decide (x≠s))=ss:=by
 rw [List.filter_eq_self]
 intro x hx
 simp only [ne_eq,decide_eq_true_eq]
 exact fun e=>h (e ▸ hx)
open Go.RowKit
def ApTr (Y:TrX):Prop:=(∀ b,Y.vs.ownBlock=some b→Off b Y.ys∧Off b Y.os)∧∀ k,Y.vy.ownBlock=some k→Y.vo.ownBlock≠some k
theorem apTr_zero:ApTr ⟨.slice none 0 0,.slice none 0 0,.slice none 0 0,.slice none 0 0,[],[],[],0,[]⟩:=⟨(fun b h=>by cases h),(fun k h=>by cases h)⟩
def SFreePost (w:World) (X:TrX) (s:Int) (e:Ending) (w':World):Prop :=
 ∃ Y:TrX,e=.returned (.tuple #[.agg #[Y.vm,Y.vy,Y.vo,.int .i64 Y.seq,Y.vs],.bool (freeO X.tre s)])∧Y.tre=freeR X.tre s∧RowsTr w' w.heap.size Y∧Below w.heap.size w w'∧ApTr Y
theorem filt_less {s:Int} (ss:List Int):decide ((ss.filter (fun x=>decide (x≠s))).length < ss.length)=decide (s∈ss):=by
 rw [Bool.eq_iff_iff,decide_eq_true_eq,decide_eq_true_eq]
 constructor
 ·intro h
  refine Classical.byContradiction fun hn=>?_
  rw [filt_self hn] at h
  omega
 ·intro h
  have h1:(ss.filter (fun x=>decide (x≠s))).length≤ss.length:=List.length_filter_le _ _
  have h2:(ss.filter (fun x=>decide (x≠s))).length≠ss.length:=fun e=>by
   have:=List.length_filter_eq_length_iff.1 e s h
   simp at this
  omega
theorem filt_step {s:Int} {ss:List Int} {k:Nat} (hk:k < ss.length):(ss.take (k+1)).filter (fun x=>decide (x≠s))=(ss.take k).filter (fun x=>decide (x≠s))++(if ss.getD k 0=s then [] else [ss.getD k 0]):=by
 rw [List.take_succ_eq_append_getElem hk,List.filter_append,show ss.getD k 0=ss[k] by simp [List.getD,List.getElem?_eq_getElem hk]]
 congr 1
 by_cases h:ss[k]=s
 ·rw [if_pos h];simp [h]
 ·rw [if_neg h];simp [h]
theorem rdI_new (V:World) (y:Int):RdI (V.alloc (.cells #[.int .i64 y] 2)) (.slice (some ⟨V.heap.size,0,none⟩) 1 1) [y]:=by
 refine ⟨_,1,rfl,Nat.le_refl _,by decide,(fun h=>by cases h),.inr ⟨V.heap.size,0,rfl,fun i hi=>?_⟩⟩
 have:i=0:=by simpa using hi
 subst this
 simp [World.cell?_alloc_at]
theorem specFree_any (X:TrX) (s:Int) (w:World) (hx:RdTr w X) (hf:FitTr X) (hs:treeOk X.tre=true→SizTr X) :
 Calls Tryz.prog 31 #[.agg #[X.vm,X.vy,X.vo,.int .i64 X.seq,X.vs],.int .i64 s] w fun e w'=>SFreePost w X s e w':=by
 have HTK:Hid (∀ W,RdTr W X→Calls Tryz.prog 14 #[.agg #[X.vm,X.vy,X.vo,.int .i64 X.seq,X.vs]] W fun e w'=>e=.returned (.bool (treeOk X.tre))∧Below W.heap.size W w'):=fun W h=>specTreeOk_any X W h hf
 have HCP:Hid (treeOk X.tre=true→∀ W,RdTr W X→Calls Tryz.prog 43 #[.agg #[X.vm,X.vy,X.vo,.int .i64 X.seq,X.vs]] W fun e w'=>CopyPost W X e w'):=fun ht W h=>l7Copy_any X W h (hs ht)
 clear hs hf
 have t0:=treAt_new w X 28
 obtain ⟨V0,hV0⟩:∃ V0,V0=w.alloc (.cells #[X.vm,X.vy,X.vo,.int .i64 X.seq,X.vs] 28):=⟨_,rfl⟩
 have b0:Below w.heap.size w V0:=by rw [hV0];exact below1 w _
 have s0:V0.heap.size=w.heap.size+1:=by rw [hV0];simp
 rw [← hV0] at t0
 have z1:=boxTr_new V0 (.slice none 0 0) (.slice none 0 0) (.slice none 0 0) (.slice none 0 0) 0
 obtain ⟨W0,hW0⟩:∃ W0,W0=V0.alloc (.cells #[.slice none 0 0,.slice none 0 0,.slice none 0 0,.int .i64 0,.slice none 0 0] 28):=⟨_,rfl⟩
 have b1:Below V0.heap.size V0 W0:=by rw [hW0];exact below1 V0 _
 have s1:W0.heap.size=w.heap.size+2:=by rw [hW0];simp;omega
 rw [← hW0,s0] at z1
 have t1:=t0.below b1
 have bw:Below w.heap.size w W0:=b0.trans (b1.mono (by omega))
 have HW0:Hid ((w.alloc (.cells #[X.vm,X.vy,X.vo,.int .i64 X.seq,X.vs] 28)).alloc (.cells #[.slice none 0 0,.slice none 0 0,.slice none 0 0,.int .i64 0,.slice none 0 0] 28)=W0):=by unfold Hid;rw [hW0,hV0]
 obtain ⟨q0,q1,q2,q3,q4⟩:=id t1
 rw [hW0,hV0] at q0 q1 q2 q3 q4
 clear t0 b0 b1 s0 hV0 hW0
 go_enter Tryz.func31,Tryz.ntmps31
 go_wp2_with fail
 rw [HW0.out]
 clear q0 q1 q2 q3 q4
 refine (HTK.out _ (hx.below bw)).mono ?_
 rintro e w1 ⟨rfl,hb1⟩
 have t2:=t1.below hb1
 have z2:=z1.on hb1
 have bw1:=bw.trans (hb1.mono bw.size)
 have s2:w.heap.size+2≤w1.heap.size:=by rw [← s1];exact hb1.size
 clear t1 z1 bw hb1 s1 HTK HW0
 cases htk:treeOk X.tre with
 | false =>
  obtain ⟨y0,y1,y2,y3,y4,g0,g1,g2,g3,g4⟩:=z2.facts
  have hzF:=boxTr_put5 z2 (.slice none 0 0) (.slice none 0 0) (.slice none 0 0) (.slice none 0 0) 0
  obtain ⟨f0,f1,f2,f3,f4,-⟩:=hzF.facts
  have END:Hid (SFreePost w X s (.returned (.tuple #[.agg #[.slice none 0 0,.slice none 0 0,.slice none 0 0,.int .i64 0,.slice none 0 0],.bool false])) (put5 w1 (w.heap.size+1) (.slice none 0 0) (.slice none 0 0) (.slice none 0 0) (.int .i64 0) (.slice none 0 0))):=by
   have h0:=ownTree_zero (put5 w1 (w.heap.size+1) (.slice none 0 0) (.slice none 0 0) (.slice none 0 0) (.int .i64 0) (.slice none 0 0)) w.heap.size
   refine ⟨⟨.slice none 0 0,.slice none 0 0,.slice none 0 0,.slice none 0 0,[],[],[],0,[]⟩,by unfold freeO;rw [htk];rfl,by unfold freeR;rw [if_neg (by rw [htk];simp)];rfl,⟨h0.mem,h0.young,h0.youngs,h0.old,h0.olds,h0.snaps⟩,below_put5 bw1 (by omega),apTr_zero⟩
  unfold put5 at f0 f1 f2 f3 f4
  clear z2 t2 hzF bw1 htk
  go_wp2
  exact bodyPost_ret (v:=.tuple #[.agg #[.slice none 0 0,.slice none 0 0,.slice none 0 0,.int .i64 0,.slice none 0 0],.bool false]) (by simp [results,Tryz.results31,go_sem,f0,f1,f2,f3,f4]) rfl END.out
 | true =>
  obtain ⟨q0,q1,q2,q3,q4⟩:=id t2
  have hfew:X.snaps.length≤10:=((treeOk_iff X.tre).1 htk).few
  go_wp2_with fail
  refine (HCP.out htk _ (hx.below bw1)).mono ?_
  rintro e w2 ⟨Y,rfl,heY,hoY,hb2⟩
  have t3:=t2.below hb2
  have z3:=z2.on hb2
  have bw2:=bw1.trans (hb2.mono bw1.size)
  have s3:=hb2.size
  have HTW:Hid (∀ k,Y.vy.ownBlock=some k→Y.vo.ownBlock≠some k):=hoY.two
  have HRW:Hid (RowsTr w2 w1.heap.size Y):=⟨hoY.mem,hoY.young,hoY.youngs,hoY.old,hoY.olds,hoY.snaps⟩
  clear q0 q1 q2 q3 q4 t2 z2 hb2 bw1 HCP
  obtain ⟨am,ay,ao,an,mn,yn,on,nn,cm,cy,co,cn,v0,v1,v2,v3⟩:=HRW.out.rd.slices
  obtain ⟨vm4,vy4,vo4,vs4,mem4,ys4,os4,seq4,snaps4⟩:=Y
  simp only at v0 v1 v2 v3
  subst v0
  subst v1
  subst v2
  subst v3
  clear hoY
  have hxs:=(hx.below bw2).snaps
  obtain ⟨xa,xc,hvs,hxl,hxm,-,hxc⟩:=id hxs
  unfold maxLen at hxm
  obtain ⟨xn,hxn⟩:∃ xn,xn=X.snaps.length:=⟨_,rfl⟩
  have HXN:Hid (xn=X.snaps.length):=hxn
  rw [← hxn] at hvs hxl hfew
  have HXC:Hid (X.snaps=[]∨∃ b off,xa=some ⟨b,off,none⟩∧∀ i (h:i < X.snaps.length),w2.cell? ⟨b,off+i,none⟩=some (.int .i64 X.snaps[i])):=hxc
  have HQ4:Hid (∀ W,Below w2.heap.size w2 W→W.cell? ⟨w.heap.size,4,none⟩=some (.slice xa xn xc)):=fun W hb=>by rw [← hvs];exact (t3.below hb).2.2.2.2
  clear hxc hxs hxn
  obtain ⟨W3,hW3⟩:∃ W3,W3=w2.alloc (.cells #[.slice am mn cm,.slice ay yn cy,.slice ao on co,.int .i64 seq4,.slice (some ⟨w2.heap.size+1,0,none⟩) 0 0] 28):=⟨_,rfl⟩
  have zb3:BoxTr W3 w2.heap.size (.slice am mn cm) (.slice ay yn cy) (.slice ao on co) seq4 (.slice (some ⟨w2.heap.size+1,0,none⟩) 0 0):=by rw [hW3];exact boxTr_new w2 _ _ _ _ _
  have bb3:Below w2.heap.size w2 W3:=by rw [hW3];exact below1 w2 _
  have s4:W3.heap.size=w2.heap.size+1:=by rw [hW3];simp
  obtain ⟨W5,hW5⟩:∃ W5,W5=W3.alloc (.cells #[] 2):=⟨_,rfl⟩
  have bb4:Below W3.heap.size W3 W5:=by rw [hW5];exact below1 W3 _
  have hoI5:OwnI W5 W3.heap.size (.slice (some ⟨W3.heap.size,0,none⟩) 0 0) []:=by rw [hW5];exact ownI_none W3
  rw [s4] at hoI5
  have s6:W5.heap.size=w2.heap.size+2:=by rw [hW5];simp [s4]
  have zb5:=zb3.on bb4
  have bb5:Below w2.heap.size w2 W5:=bb3.trans (bb4.mono (by omega))
  have HW5:Hid ((w2.alloc (.cells #[.slice am mn cm,.slice ay yn cy,.slice ao on co,.int .i64 seq4,.slice (some ⟨w2.heap.size+1,0,none⟩) 0 0] 28)).alloc (.cells #[] 2)=W5):=by unfold Hid;rw [hW5,hW3]
  clear hW3 hW5 zb3 bb3 bb4
  go_wp2
  rw [HW5.out]
  clear HW5
  go_loopw [7] (fun i wr=>∃ (k:Nat) (vS:Value) (ys:List Int),k≤xn∧i=.int .i64 k∧Hid (BoxTr wr w2.heap.size (.slice am mn cm) (.slice ay yn cy) (.slice ao on co) seq4 vS)∧Hid (OwnI wr (w2.heap.size+1) vS ys)∧Hid (ys=(X.snaps.take k).filter (fun x=>decide (x≠s)))∧Hid (w2.heap.size+1≤wr.heap.size)∧Hid (Below w2.heap.size w2 wr)) (fun i _=>xn - (intOf i).toNat)
  case atStart=>exact ⟨0,_,[],Nat.zero_le _,rfl,zb5,hoI5,rfl,by unfold Hid;omega,bb5⟩
  case round =>
   obtain ⟨k,vS,ys,hk,rfl,ZB,OI,YS,SZ,BB⟩:=hrel
   clear zb5 bb5 hoI5 s6
   have q4:=HQ4.out wr BB.out
   obtain ⟨au,cu,hvu,-⟩:=id OI.out.rd
   obtain ⟨un,hun⟩:∃ un,un=ys.length:=⟨_,rfl⟩
   rw [← hun] at hvu
   have HUN:Hid (un=ys.length):=hun
   subst hvu
   clear hun
   by_cases hlt:k < xn
   ·have hkc:k < xc:=by omega
    have hkl:k < X.snaps.length:=by rw [← HXN.out];exact hlt
    obtain ⟨b,off,rfl,HCK⟩:∃ b off,xa=some ⟨b,off,none⟩∧Hid (∀ W,Below w2.heap.size w2 W→W.cell? ⟨b,off+k,none⟩=some (.int .i64 (X.snaps.getD k 0))):=by
     rcases HXC.out with e | ⟨b,off,ha,hcc⟩
     ·rw [e] at hkl;simp at hkl
     ·refine ⟨b,off,ha,fun W hb=>?_⟩
      have h:=hcc k hkl
      rw [show X.snaps.getD k 0=X.snaps[k] by simp [List.getD,List.getElem?_eq_getElem hkl],← h]
      exact hb.cell (World.block_lt_of_cell? w2 _ h)
    have HST:=filt_step (s:=s) hkl
    have hyl:ys.length≤10:=by
     rw [YS.out]
     have h1:=List.length_filter_le (fun x=>decide (x≠s)) (X.snaps.take k)
     rw [List.length_take] at h1
     omega
    have HYL:Hid (ys.length≤10):=hyl
    have hck:=HCK.out wr BB.out
    rw [← YS.out] at HST
    by_cases hy:X.snaps.getD k 0=s
    ·have YS2:Hid (ys=(X.snaps.take (k+1)).filter (fun x=>decide (x≠s))):=by unfold Hid;rw [HST,if_pos hy,List.append_nil]
     rw [hy] at hck
     have hne:(s != s)=false:=by simp
     clear HST hy HCK hkl hyl
     go_wp2
     go_roundw
     case rel=>exact ⟨k+1,_,ys,by omega,by go_num,ZB,OI,YS2,SZ,BB⟩
     case measure=>simp [intOf];omega
    ·rw [if_neg hy] at HST
     generalize X.snaps.getD k 0=y at hck hy HST HCK
     have YS2:Hid (ys++[y]=(X.snaps.take (k+1)).filter (fun x=>decide (x≠s))):=HST.symm
     clear HST hkl hyl
     obtain ⟨-,-,-,-,y4,-,-,-,-,g4⟩:=ZB.out.facts
     go_wp2_with fail
     refine wp_region_noPanic ?_
     refine wp_region_held_drew (S:=fun w'=>w'.cell? ⟨w.heap.size,4,none⟩=some (.slice (some ⟨b,off,none⟩) xn xc)∧w'.cell? ⟨b,off+k,none⟩=some (.int .i64 y)) (by kernel_rfl) ⟨q4,hck⟩ (fun hH=>?_)
     have ZBV:Hid (BoxTr wr.drew w2.heap.size (.slice am mn cm) (.slice ay yn cy) (.slice ao on co) seq4 (.slice au un cu)):=ZB.out
     have OIV:Hid (OwnI wr.drew (w2.heap.size+1) (.slice au un cu) ys):=OI.out.drewN 1
     have SZV:Hid (w2.heap.size+1≤wr.drew.heap.size):=SZ.out
     have BBV:Hid (Below w2.heap.size w2 wr.drew):=BB.out.drew
     clear ZB OI SZ BB y4 g4 q4 hck
     revert hH ZBV OIV SZV BBV
     generalize wr.drew=V
     intro hH ZBV OIV SZV BBV
     obtain ⟨-,-,-,-,y4,-,-,-,-,g4⟩:=ZBV.out.facts
     refine kA 0 30 hH ?_
     refine kA 2 32 hH ?_
     refine kA 3 33 hH ?_
     refine kA 4 34 hH ?_
     refine kA 5 35 hH ?_
     refine kA 6 36 hH ?_
     refine wpAnyH_ready (rs:=[1,7]) (by kernel_rfl) (by simp) ?_
     refine AllReadyH.cons rfl (fun K hK=>?_) ?_
     ·go_simp
      refine hK.out _ _ hH (fun hH2=>?_)
      clear hK K hH
      try simp only [Act.put,sA,sZ,sS]
      refine wpAnyH_ready (rs:=[7]) (by kernel_rfl) (by simp) ?_
      refine AllReadyH.cons rfl (fun K hK=>?_) AllReadyH.nil
      refine step_row1 rfl 37 rfl (.int .i64 y) 2 (by go_simp;(try rfl)) ?_
      have bb1:=below1 V (.cells #[.int .i64 y] 2)
      have ZB1:Hid (BoxTr (V.alloc (.cells #[.int .i64 y] 2)) w2.heap.size (.slice am mn cm) (.slice ay yn cy) (.slice ao on co) seq4 (.slice au un cu)):=ZBV.out.on bb1
      have OI1:Hid (OwnI (V.alloc (.cells #[.int .i64 y] 2)) (w2.heap.size+1) (.slice au un cu) ys):=OIV.out.below bb1
      have BB1:Hid (Below w2.heap.size w2 (V.alloc (.cells #[.int .i64 y] 2))):=BBV.out.trans (bb1.mono BBV.out.size)
      have SZ1:Hid (w2.heap.size+1≤(V.alloc (.cells #[.int .i64 y] 2)).heap.size):=Nat.le_trans SZV.out bb1.size
      have RY1:Hid (RdI (V.alloc (.cells #[.int .i64 y] 2)) (.slice (some ⟨V.heap.size,0,none⟩) 1 1) [y]):=rdI_new V y
      refine hK.out _ _ ⟨HQ4.out _ BB1.out,HCK.out _ BB1.out⟩ (fun hH3=>?_)
      clear hK K y4 g4 bb1 ZBV OIV BBV SZV
      try simp only [Act.put,sA,sZ,sS]
      generalize V.heap.size=vz at RY1 ⊢
      generalize V.alloc (.cells #[.int .i64 y] 2)=V1 at ZB1 OI1 BB1 SZ1 RY1 hH3 ⊢
      refine wpAnyH_ready (rs:=[8]) (by kernel_rfl) (by simp) ?_
      refine AllReadyH.cons rfl (fun K hK=>?_) AllReadyH.nil
      refine step_append_ints rfl 38 rfl _ _ rfl (w2.heap.size+1) (.slice au un cu) (.slice (some ⟨vz,0,none⟩) 1 1) ys [y] rfl rfl OI1.out RY1.out (by have:=HYL.out;simp;omega) SZ1.out ?_
      intro v8 V8 ho8 hg8
      have hbk:∀ q,(Value.slice au un cu).ownBlock=some q→w2.heap.size+1≤q:=fun q hq=>(World.ownsRow.lt OI1.out q hq).1
      have ZB8:Hid (BoxTr V8 w2.heap.size (.slice am mn cm) (.slice ay yn cy) (.slice ao on co) seq4 (.slice au un cu)):=(hg8.block w2.heap.size (by have:=SZ1.out;omega) (fun e=>by have:=hbk _ e.symm;omega)).trans ZB1.out
      have BB8:Hid (Below w2.heap.size w2 V8):=BB1.out.grown hg8 BB1.out.size (fun q hq=>by have:=hbk q hq;omega)
      have SZ8:Hid (w2.heap.size+1≤V8.heap.size):=Nat.le_trans SZ1.out hg8.size
      obtain ⟨a8,c8,hv8,-⟩:=id ho8.rd
      have HO8:Hid (OwnI V8 (w2.heap.size+1) v8 (ys++[y])):=ho8
      generalize (ys++[y]).length=n8 at hv8
      subst hv8
      refine hK.out _ _ ⟨HQ4.out _ BB8.out,HCK.out _ BB8.out⟩ (fun hH5=>?_)
      clear hK K hH3 ho8 hg8 hbk ZB1 OI1 BB1 SZ1 RY1
      try simp only [Act.put,sA,sZ,sS]
      refine kA 9 39 hH5 ?_
      obtain ⟨-,-,-,-,x4,-,-,-,-,f4⟩:=ZB8.out.facts
      have ZB9:Hid (BoxTr (V8.setCell ⟨w2.heap.size,4,none⟩ (.slice a8 n8 c8)) w2.heap.size (.slice am mn cm) (.slice ay yn cy) (.slice ao on co) seq4 (.slice a8 n8 c8)):=boxTr_set4 ZB8.out _
      have OI9:Hid (OwnI (V8.setCell ⟨w2.heap.size,4,none⟩ (.slice a8 n8 c8)) (w2.heap.size+1) (.slice a8 n8 c8) (ys++[y])):=row_base HO8.out (by omega)
      have BB9:Hid (Below w2.heap.size w2 (V8.setCell ⟨w2.heap.size,4,none⟩ (.slice a8 n8 c8))):=BB8.out.setCell (p:=⟨w2.heap.size,4,none⟩) (Nat.le_refl _) _
      have SZ9:Hid (w2.heap.size+1≤(V8.setCell ⟨w2.heap.size,4,none⟩ (.slice a8 n8 c8)).heap.size):=by unfold Hid;have:=SZ8.out;simp;omega
      refine wpAnyH_ready (rs:=[10]) (by kernel_rfl) (by simp) ?_
      refine AllReadyH.cons rfl (fun K hK=>?_) AllReadyH.nil
      go_simp
      refine hK.out _ _ ⟨HQ4.out _ BB9.out,HCK.out _ BB9.out⟩ (fun hH6=>?_)
      clear hK K hH5 hH6 x4 f4 ZB8 HO8 BB8 SZ8
      refine wpAnyH_done (by kernel_rfl) ?_ _
      refine NoPanic.normal ?_
      generalize V8.setCell ⟨w2.heap.size,4,none⟩ (.slice a8 n8 c8)=V9 at ZB9 OI9 BB9 SZ9 ⊢
      go_wp2
      go_roundw
      case rel=>exact ⟨k+1,_,ys++[y],by omega,by go_num,ZB9,OI9,YS2,SZ9,BB9⟩
      case measure=>simp [intOf];omega
     ·refine AllReadyH.cons rfl (fun K hK=>?_) AllReadyH.nil
      refine step_row1 rfl 37 rfl (.int .i64 y) 2 (by go_simp;(try rfl)) ?_
      have bb1:=below1 V (.cells #[.int .i64 y] 2)
      have ZB1:Hid (BoxTr (V.alloc (.cells #[.int .i64 y] 2)) w2.heap.size (.slice am mn cm) (.slice ay yn cy) (.slice ao on co) seq4 (.slice au un cu)):=ZBV.out.on bb1
      have OI1:Hid (OwnI (V.alloc (.cells #[.int .i64 y] 2)) (w2.heap.size+1) (.slice au un cu) ys):=OIV.out.below bb1
      have BB1:Hid (Below w2.heap.size w2 (V.alloc (.cells #[.int .i64 y] 2))):=BBV.out.trans (bb1.mono BBV.out.size)
      have SZ1:Hid (w2.heap.size+1≤(V.alloc (.cells #[.int .i64 y] 2)).heap.size):=Nat.le_trans SZV.out bb1.size
      have RY1:Hid (RdI (V.alloc (.cells #[.int .i64 y] 2)) (.slice (some ⟨V.heap.size,0,none⟩) 1 1) [y]):=rdI_new V y
      refine hK.out _ _ ⟨HQ4.out _ BB1.out,HCK.out _ BB1.out⟩ (fun hH3=>?_)
      clear hK K y4 g4 bb1 ZBV OIV BBV SZV
      try simp only [Act.put,sA,sZ,sS]
      generalize V.heap.size=vz at RY1 ⊢
      generalize V.alloc (.cells #[.int .i64 y] 2)=V1 at ZB1 OI1 BB1 SZ1 RY1 hH3 ⊢
      obtain ⟨-,-,-,-,y4,-,-,-,-,g4⟩:=ZB1.out.facts
      refine wpAnyH_ready (rs:=[1]) (by kernel_rfl) (by simp) ?_
      refine AllReadyH.cons rfl (fun K hK=>?_) AllReadyH.nil
      go_simp
      refine hK.out _ _ hH3 (fun hH4=>?_)
      clear hK K hH3
      have hH3:=hH4
      clear hH4
      try simp only [Act.put,sA,sZ,sS]
      refine wpAnyH_ready (rs:=[8]) (by kernel_rfl) (by simp) ?_
      refine AllReadyH.cons rfl (fun K hK=>?_) AllReadyH.nil
      refine step_append_ints rfl 38 rfl _ _ rfl (w2.heap.size+1) (.slice au un cu) (.slice (some ⟨vz,0,none⟩) 1 1) ys [y] rfl rfl OI1.out RY1.out (by have:=HYL.out;simp;omega) SZ1.out ?_
      intro v8 V8 ho8 hg8
      have hbk:∀ q,(Value.slice au un cu).ownBlock=some q→w2.heap.size+1≤q:=fun q hq=>(World.ownsRow.lt OI1.out q hq).1
      have ZB8:Hid (BoxTr V8 w2.heap.size (.slice am mn cm) (.slice ay yn cy) (.slice ao on co) seq4 (.slice au un cu)):=(hg8.block w2.heap.size (by have:=SZ1.out;omega) (fun e=>by have:=hbk _ e.symm;omega)).trans ZB1.out
      have BB8:Hid (Below w2.heap.size w2 V8):=BB1.out.grown hg8 BB1.out.size (fun q hq=>by have:=hbk q hq;omega)
      have SZ8:Hid (w2.heap.size+1≤V8.heap.size):=Nat.le_trans SZ1.out hg8.size
      obtain ⟨a8,c8,hv8,-⟩:=id ho8.rd
      have HO8:Hid (OwnI V8 (w2.heap.size+1) v8 (ys++[y])):=ho8
      generalize (ys++[y]).length=n8 at hv8
      subst hv8
      refine hK.out _ _ ⟨HQ4.out _ BB8.out,HCK.out _ BB8.out⟩ (fun hH5=>?_)
      clear hK K hH3 ho8 hg8 hbk ZB1 OI1 BB1 SZ1 RY1
      try simp only [Act.put,sA,sZ,sS]
      refine kA 9 39 hH5 ?_
      obtain ⟨-,-,-,-,x4,-,-,-,-,f4⟩:=ZB8.out.facts
      have ZB9:Hid (BoxTr (V8.setCell ⟨w2.heap.size,4,none⟩ (.slice a8 n8 c8)) w2.heap.size (.slice am mn cm) (.slice ay yn cy) (.slice ao on co) seq4 (.slice a8 n8 c8)):=boxTr_set4 ZB8.out _
      have OI9:Hid (OwnI (V8.setCell ⟨w2.heap.size,4,none⟩ (.slice a8 n8 c8)) (w2.heap.size+1) (.slice a8 n8 c8) (ys++[y])):=row_base HO8.out (by omega)
      have BB9:Hid (Below w2.heap.size w2 (V8.setCell ⟨w2.heap.size,4,none⟩ (.slice a8 n8 c8))):=BB8.out.setCell (p:=⟨w2.heap.size,4,none⟩) (Nat.le_refl _) _
      have SZ9:Hid (w2.heap.size+1≤(V8.setCell ⟨w2.heap.size,4,none⟩ (.slice a8 n8 c8)).heap.size):=by unfold Hid;have:=SZ8.out;simp;omega
      refine wpAnyH_ready (rs:=[10]) (by kernel_rfl) (by simp) ?_
      refine AllReadyH.cons rfl (fun K hK=>?_) AllReadyH.nil
      go_simp
      refine hK.out _ _ ⟨HQ4.out _ BB9.out,HCK.out _ BB9.out⟩ (fun hH6=>?_)
      clear hK K hH5 hH6 x4 f4 ZB8 HO8 BB8 SZ8
      refine wpAnyH_done (by kernel_rfl) ?_ _
      refine NoPanic.normal ?_
      generalize V8.setCell ⟨w2.heap.size,4,none⟩ (.slice a8 n8 c8)=V9 at ZB9 OI9 BB9 SZ9 ⊢
      go_wp2
      go_roundw
      case rel=>exact ⟨k+1,_,ys++[y],by omega,by go_num,ZB9,OI9,YS2,SZ9,BB9⟩
      case measure=>simp [intOf];omega
   ·have hke:k=xn:=by omega
    have HSN:Hid (ys=X.snaps.filter (fun x=>decide (x≠s))):=by unfold Hid;rw [YS.out,hke,HXN.out,List.take_length]
    clear hke HXC YS
    obtain ⟨y0,y1,y2,y3,y4,-,-,-,-,-⟩:=ZB.out.facts
    obtain ⟨m0,m1,m2,m3,m4,n0,n1,n2,n3,n4⟩:=(z3.on BB.out).facts
    go_wp2_with fail
    refine wp_region_noPanic ?_
    refine wp_region_held_drew (S:=fun w'=>(w'.cell? ⟨w2.heap.size,0,none⟩=some (.slice am mn cm)∧w'.cell? ⟨w2.heap.size,1,none⟩=some (.slice ay yn cy)∧w'.cell? ⟨w2.heap.size,2,none⟩=some (.slice ao on co)∧w'.cell? ⟨w2.heap.size,3,none⟩=some (.int .i64 seq4)∧w'.cell? ⟨w2.heap.size,4,none⟩=some (.slice au un cu))∧w'.cell? ⟨w.heap.size,4,none⟩=some (.slice xa xn xc)) (by kernel_rfl) ⟨⟨y0,y1,y2,y3,y4⟩,q4⟩ (fun hH=>?_)
    have ZBV:Hid (BoxTr wr.drew w2.heap.size (.slice am mn cm) (.slice ay yn cy) (.slice ao on co) seq4 (.slice au un cu)):=ZB.out
    have OIV:Hid (OwnI wr.drew (w2.heap.size+1) (.slice au un cu) ys):=OI.out.drewN 1
    have BBV:Hid (Below w2.heap.size w2 wr.drew):=BB.out.drew
    clear ZB OI SZ BB y0 y1 y2 y3 y4 q4 m0 m1 m2 m3 m4 n0 n1 n2 n3 n4
    revert hH ZBV OIV BBV
    generalize wr.drew=V
    intro hH ZBV OIV BBV
    have zV:=z3.on BBV.out
    obtain ⟨m0,m1,m2,m3,m4,n0,n1,n2,n3,n4⟩:=zV.facts
    refine kA 0 40 hH ?_
    refine kA 1 41 hH ?_
    refine kA 2 42 hH ?_
    refine kA 3 43 hH ?_
    refine kA 4 44 hH ?_
    refine kA 5 45 hH ?_
    refine kA 6 46 hH ?_
    refine kA 7 47 hH ?_
    have hneb:w2.heap.size≠w.heap.size+1:=by omega
    have zb7:BoxTr (put5 V (w.heap.size+1) (.slice am mn cm) (.slice ay yn cy) (.slice ao on co) (.int .i64 seq4) (.slice au un cu)) w2.heap.size (.slice am mn cm) (.slice ay yn cy) (.slice ao on co) seq4 (.slice au un cu):=boxTr_other (boxTr_other (boxTr_other (boxTr_other (boxTr_other ZBV.out hneb) hneb) hneb) hneb) hneb
    have hzF:=boxTr_put5 zV (.slice am mn cm) (.slice ay yn cy) (.slice ao on co) (.slice au un cu) seq4
    obtain ⟨f0,f1,f2,f3,f4,-⟩:=hzF.facts
    have q7:(put5 V (w.heap.size+1) (.slice am mn cm) (.slice ay yn cy) (.slice ao on co) (.int .i64 seq4) (.slice au un cu)).cell? ⟨w.heap.size,4,none⟩=some (.slice xa xn xc):=by
     have hh:TreAt V w.heap.size X:=t3.below BBV.out
     have:=(treAt_put5 (c:=w.heap.size+1) (u0:=.slice am mn cm) (u1:=.slice ay yn cy) (u2:=.slice ao on co) (u3:=.int .i64 seq4) (u4:=.slice au un cu) hh (by omega)).2.2.2.2
     rw [hvs] at this
     exact this
    obtain ⟨k0,k1,k2,k3,k4,-⟩:=zb7.facts
    have END:Hid (SFreePost w X s (.returned (.tuple #[.agg #[.slice am mn cm,.slice ay yn cy,.slice ao on co,.int .i64 seq4,.slice au un cu],.bool (decide ((un:Int) < (xn:Int)))])) (put5 V (w.heap.size+1) (.slice am mn cm) (.slice ay yn cy) (.slice ao on co) (.int .i64 seq4) (.slice au un cu))):=by
     have hr:=HRW.out.below BBV.out
     have hr2:RowsTr V w1.heap.size ⟨.slice am mn cm,.slice ay yn cy,.slice ao on co,.slice au un cu,mem4,ys4,os4,seq4,ys⟩:=⟨hr.mem,hr.young,hr.youngs,hr.old,hr.olds,OIV.out.mono (by omega)⟩
     have hc:w.heap.size+1 < w1.heap.size:=by omega
     refine ⟨⟨.slice am mn cm,.slice ay yn cy,.slice ao on co,.slice au un cu,mem4,ys4,os4,seq4,ys⟩,?_,?_,RowsTr.mono (lo:=w1.heap.size) ⟨row_put5 hr2.mem hc,row_put5 hr2.young hc,hr2.youngs.put5 hc,row_put5 hr2.old hc,hr2.olds.put5 hc,row_put5 hr2.snaps hc⟩ (by omega),below_put5 (bw2.trans (BBV.out.mono bw2.size)) (by omega),⟨fun b hb=>⟨fun t ht k hk e=>?_,fun t ht k hk e=>?_⟩,HTW.out⟩⟩
     ·have e:decide ((un:Int) < (xn:Int))=freeO X.tre s:=by
       unfold freeO
       rw [htk,Bool.true_and]
       have:=filt_less (s:=s) X.snaps
       rw [← HSN.out,← HUN.out,← HXN.out] at this
       rw [show decide (s∈X.tre.snaps)=decide (s∈X.snaps) from rfl,← this]
       simp
      rw [e]
     ·unfold freeR
      rw [if_pos htk]
      unfold freeT
      rw [show X.tre.snaps.filter (fun x=>decide (x≠s))=ys from HSN.out.symm]
      have:=congrArg (fun T:Tre=>(⟨T.mem,T.young,T.old,T.seq,ys⟩:Tre)) heY
      exact this
     ·have h1:=(World.ownsRow.lt OIV.out b hb).1
      have h2:=(World.ownsRow.lt (HRW.out.youngs t ht).1 k hk).2
      omega
     ·have h1:=(World.ownsRow.lt OIV.out b hb).1
      have h2:=(World.ownsRow.lt (HRW.out.olds t ht).1 k hk).2
      omega
    refine wpAnyH_ready (rs:=[8]) (by kernel_rfl) (by simp) ?_
    refine AllReadyH.cons rfl (fun K hK=>?_) AllReadyH.nil
    go_simp
    refine hK.out _ _ ⟨⟨k0,k1,k2,k3,k4⟩,q7⟩ (fun h9=>?_)
    clear hK K hH
    try simp only [Act.put,sA,sZ,sS]
    refine kA 9 5 h9 ?_
    refine wpAnyH_done (by kernel_rfl) ?_ _
    refine NoPanic.normal ?_
    unfold put5 at f0 f1 f2 f3 f4
    clear h9 zb7 hzF q7 k0 k1 k2 k3 k4 m0 m1 m2 m3 m4 n0 n1 n2 n3 n4 zV ZBV OIV BBV
    go_wp2
    exact bodyPost_ret (v:=.tuple #[.agg #[.slice am mn cm,.slice ay yn cy,.slice ao on co,.int .i64 seq4,.slice au un cu],.bool (decide ((un:Int) < (xn:Int)))]) (by simp [results,Tryz.results31,go_sem,f0,f1,f2,f3,f4]) rfl END.out
end Go.Proofs.YtmlmlemiidedcaaGreat
