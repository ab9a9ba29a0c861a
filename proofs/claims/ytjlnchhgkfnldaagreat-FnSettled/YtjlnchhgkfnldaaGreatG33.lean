import Derived.Test.YtjlnchhgkfnldaaGreatG32
namespace Go.Proofs.YtjlnchhgkfnldaaGreat
set_option maxHeartbeats 16000000
set_option maxRecDepth 100000
open Go.RowKit
def zbY(T:Tre):Bool:=decide (0<T.snaps.length)&&decide (T.snaps.getD (T.snaps.length-1) 0=T.seq)
def snapO(T:Tre):Int:=if zI T=true then (if zbY T=true then T.seq else if T.snaps.length=10 then -1 else T.seq) else -1
def snapR(T:Tre):Tre:=if zI T=true then (if zbY T=true∨T.snaps.length=10 then T else snapT T) else zjD
def zcs(w:World)(X:TrX)(e:Ending)(w':World):Prop :=
 ∃ Y:TrX,e=.returned (.tuple #[.agg #[Y.vm,Y.vy,Y.vo,.int .i64 Y.seq,Y.vs],.int .i64 (snapO X.tre)])∧Y.tre=snapR X.tre∧RowsTr w' w.heap.size Y∧Below w.heap.size w w'∧ApTr Y
theorem zei{w:World}{ops:Array Oper}{rest:List Oper}{o:Oper}{a:Act}{Q:Exit→Act→World→Prop}(hgd:o.guard=none)(s x:Operand)
 (ho:o.op=.call { callee:=.builtin .append,args:=#[s,x],argTypes:=#[26,26] }) (base:Nat) (v u:Value) (ys zs:List Int) (hs:a.eval s=v) (hx:a.eval x=u) (hown:OwnI w base v ys) (hr:RdI w u zs) (hl:ys.length+zs.length≤1000000000) (hbase:base≤w.heap.size)
 (h:∀ v' w',OwnI w' base v' (ys++zs)→w.grownBy w' v.ownBlock→(v'.ownBlock=v.ownBlock∨v'.ownBlock=some w.heap.size)→wpList Tryz.prog ops Q rest (a.put o.dst v') w'):wpList Tryz.prog ops Q (o::rest) a w:=by
 refine wpList_plain hgd fun K hK=>?_
 obtain⟨v',w',hrun,r1,r2,r3⟩:=zgp o.type hown hr hl hbase;unfold Oper.wp;simp[execOp,ho,resolve,invoke,builtin,hs,hx,hrun,Result.andThen];exact hK _ _ (h v' w' r1 r2 r3)
theorem zao{w:World}{B b t s n:Nat}{vm vy vo vs v:Value}{q:Int}{xs:List Value}(h:BoxTr w b vm vy vo q vs)(ho:w.ownsRow B t s v n xs)(ht:t≠28):∀ k,v.ownBlock=some k→b≠k:=by
 intro k hk e;subst e;rcases ho.2 with ⟨hv,_⟩ | ⟨g,cap,cur,hv,_,hg,_⟩
 ·rw[hv] at hk;cases hk
 ·rw[hv] at hk;obtain rfl:=Option.some.inj hk;rw[h] at hg;injection hg with e2
  injection e2 with _ e3
  exact ht e3.symm
theorem zn7{w:World}{b lo:Nat}{vm vy vo vs:Value}{q:Int}{Y:TrX}(h:BoxTr w b vm vy vo q vs)(hr:RowsTr w lo Y){k:Nat}(hk:k∈trB Y):b≠k:=by
 have inT:∀ ts:List TV,InT w lo ts→k∈tblks ts→b≠k:=fun ts hts hk=>by
  obtain⟨t,ht,e | e⟩:=zj9 hk
  ·exact zao h (hts t ht).1 (by decide) k e
  ·exact zao h (hts t ht).2 (by decide) k e
 unfold trB at hk;rcases List.mem_append.1 hk with hk | hk
 ·exact zao h hr.mem (by decide) k (mem_oneB.1 hk)
 rcases List.mem_append.1 hk with hk | hk
 ·rcases List.mem_append.1 hk with hk | hk
  ·exact zao h hr.young (by decide) k (mem_oneB.1 hk)
  ·exact inT _ hr.youngs hk
 rcases List.mem_append.1 hk with hk | hk
 ·rcases List.mem_append.1 hk with hk | hk
  ·exact zao h hr.old (by decide) k (mem_oneB.1 hk)
  ·exact inT _ hr.olds hk
 ·exact zao h hr.snaps (by decide) k (mem_oneB.1 hk)
theorem zi2(X:TrX)(w:World)(hx:RdTr w X)(hf:FitTr X)(hs:zI X.tre=true→SizTr X) :
 Calls Tryz.prog 25 #[.agg #[X.vm,X.vy,X.vo,.int .i64 X.seq,X.vs]] w fun e w'=>zcs w X e w':=by
 have HTK:Hid (∀ W,RdTr W X→Calls Tryz.prog 17 #[.agg #[X.vm,X.vy,X.vo,.int .i64 X.seq,X.vs]] W fun e w'=>e=.returned (.bool (zI X.tre))∧Below W.heap.size W w'):=fun W h=>zaI X W h hf
 have HCP:Hid (zI X.tre=true→∀ W,RdTr W X→Calls Tryz.prog 37 #[.agg #[X.vm,X.vy,X.vo,.int .i64 X.seq,X.vs]] W fun e w'=>zbO W X e w'):=fun ht W h=>zdV X W h (hs ht)
 clear hs hf;have t0:=zam w X 28;obtain⟨V0,hV0⟩:∃ V0,V0=w.alloc (.cells #[X.vm,X.vy,X.vo,.int .i64 X.seq,X.vs] 28):=⟨_,rfl⟩;have b0:Below w.heap.size w V0:=by rw[hV0];exact ze w _
 have s0:V0.heap.size=w.heap.size+1:=by rw[hV0];simp
 rw[← hV0] at t0;have z1:=zag V0 (.slice none 0 0) (.slice none 0 0) (.slice none 0 0) (.slice none 0 0) 0;obtain⟨W0,hW0⟩:∃ W0,W0=V0.alloc (.cells #[.slice none 0 0,.slice none 0 0,.slice none 0 0,.int .i64 0,.slice none 0 0] 28):=⟨_,rfl⟩;have b1:Below V0.heap.size V0 W0:=by rw[hW0];exact ze V0 _
 have s1:W0.heap.size=w.heap.size+2:=by rw[hW0];simp;omega
 rw[← hW0,s0] at z1;have t1:=t0.below b1;have bw:Below w.heap.size w W0:=b0.trans (b1.mono (by omega));have HW0:Hid ((w.alloc (.cells #[X.vm,X.vy,X.vo,.int .i64 X.seq,X.vs] 28)).alloc (.cells #[.slice none 0 0,.slice none 0 0,.slice none 0 0,.int .i64 0,.slice none 0 0] 28)=W0):=by unfold Hid;rw[hW0,hV0]
 obtain⟨q0,q1,q2,q3,q4⟩:=id t1;rw[hW0,hV0] at q0 q1 q2 q3 q4;clear t0 b0 b1 s0 hV0 hW0;go_enter Tryz.func25,Tryz.ntmps25
 go_wp2_with fail
 rw[HW0.out];clear q0 q1 q2 q3 q4;refine(HTK.out _ (hx.below bw)).mono ?_;rintro e w1 ⟨rfl,hb1⟩;have t2:=t1.below hb1;have z2:=z1.on hb1;have bw1:=bw.trans (hb1.mono bw.size);have s2:w.heap.size+2≤w1.heap.size:=by rw[← s1];exact hb1.size
 clear t1 z1 bw hb1 s1 HTK HW0;cases htk:zI X.tre with
 | false =>
  obtain⟨y0,y1,y2,y3,y4,g0,g1,g2,g3,g4⟩:=z2.facts;have hzF:=zF z2 (.slice none 0 0) (.slice none 0 0) (.slice none 0 0) (.slice none 0 0) 0;obtain⟨f0,f1,f2,f3,f4,-⟩:=hzF.facts;have END:Hid (zcs w X (.returned (.tuple #[.agg #[.slice none 0 0,.slice none 0 0,.slice none 0 0,.int .i64 0,.slice none 0 0],.int .i64 (-1)])) (put5 w1 (w.heap.size+1) (.slice none 0 0) (.slice none 0 0) (.slice none 0 0) (.int .i64 0) (.slice none 0 0))):=by
   have h0:=zaW (put5 w1 (w.heap.size+1) (.slice none 0 0) (.slice none 0 0) (.slice none 0 0) (.int .i64 0) (.slice none 0 0)) w.heap.size;refine⟨⟨.slice none 0 0,.slice none 0 0,.slice none 0 0,.slice none 0 0,[],[],[],0,[]⟩,by unfold snapO;rw[if_neg (by rw[htk];simp)],by unfold snapR;rw[if_neg (by rw[htk];simp)];rfl,⟨h0.mem,h0.young,h0.youngs,h0.old,h0.olds,h0.snaps⟩,zR bw1 (by omega),apTr_zero⟩
  unfold put5 at f0 f1 f2 f3 f4;clear z2 t2 hzF bw1 htk;go_wp2;exact bodyPost_ret (v:=.tuple #[.agg #[.slice none 0 0,.slice none 0 0,.slice none 0 0,.int .i64 0,.slice none 0 0],.int .i64 (-1)]) (by simp[results,Tryz.results25,go_sem,f0,f1,f2,f3,f4]) rfl END.out
 | true =>
  obtain⟨q0,q1,q2,q3,q4⟩:=id t2;have hfew:X.snaps.length≤10:=((zQ X.tre).1 htk).few;go_wp2_with fail
  refine(HCP.out htk _ (hx.below bw1)).mono ?_;rintro e w2 ⟨Y,rfl,heY,hoY,hb2⟩;have t3:=t2.below hb2;have z3:=z2.on hb2;have bw2:=bw1.trans (hb2.mono bw1.size);have s3:=hb2.size;have HTW:Hid (∀ k,Y.vy.ownBlock=some k→Y.vo.ownBlock≠some k):=hoY.two;have HAP:Hid (∀ b,Y.vs.ownBlock=some b→Off b Y.ys∧Off b Y.os):=hoY.apart;have HRW:Hid (RowsTr w2 w1.heap.size Y):=⟨hoY.mem,hoY.young,hoY.youngs,hoY.old,hoY.olds,hoY.snaps⟩;have HVB:Hid (∀ k,Y.vs.ownBlock=some k→w1.heap.size≤k∧k<w2.heap.size):=fun k hk=>oL HRW.out.snaps k hk
  clear q0 q1 q2 q3 q4 t2 z2 hb2 bw1 HCP;obtain⟨am,ay,ao,an,mn,yn,on,nn,cm,cy,co,cn,v0,v1,v2,v3⟩:=HRW.out.rd.slices;obtain⟨vm4,vy4,vo4,vs4,mem4,ys4,os4,seq4,snaps4⟩:=Y;simp only at v0 v1 v2 v3;subst v0;subst v1;subst v2;subst v3;clear hoY;have hxs:=(hx.below bw2).snaps;obtain⟨xa,xc,hvs,hxl,hxm,-,hxc⟩:=id hxs;unfold maxLen at hxm;obtain⟨xn,hxn⟩:∃ xn,xn=X.snaps.length:=⟨_,rfl⟩;have HXN:Hid (xn=X.snaps.length):=hxn;rw[← hxn] at hvs hxl hfew;have HXC:Hid (X.snaps=[]∨∃ b off,xa=some ⟨b,off,none⟩∧∀ i (h:i<X.snaps.length),w2.cell? ⟨b,off+i,none⟩=some (.int .i64 X.snaps[i])):=hxc;have HQ4:Hid (∀ W,Below w2.heap.size w2 W→W.cell? ⟨w.heap.size,4,none⟩=some (.slice xa xn xc)):=fun W hb=>by rw[← hvs];exact(t3.below hb).2.2.2.2
  clear hxc hxs hxn;have HQ3:Hid (∀ W,Below w2.heap.size w2 W→W.cell? ⟨w.heap.size,3,none⟩=some (.int .i64 X.seq)):=fun W hb=>(t3.below hb).2.2.2.1
  have HEY:Hid (_=_):=heY;have hq0:seq4=X.seq:=congrArg Tre.seq heY;subst hq0;obtain⟨W3,hW3⟩:∃ W3,W3=w2.alloc (.cells #[.slice am mn cm,.slice ay yn cy,.slice ao on co,.int .i64 X.seq,.slice an nn cn] 28):=⟨_,rfl⟩;have zb3:BoxTr W3 w2.heap.size (.slice am mn cm) (.slice ay yn cy) (.slice ao on co) X.seq (.slice an nn cn):=by rw[hW3];exact zag w2 _ _ _ _ _
  have bb3:Below w2.heap.size w2 W3:=by rw[hW3];exact ze w2 _
  have s4:W3.heap.size=w2.heap.size+1:=by rw[hW3];simp
  have HW3:Hid (w2.alloc (.cells #[.slice am mn cm,.slice ay yn cy,.slice ao on co,.int .i64 X.seq,.slice an nn cn] 28)=W3):=hW3.symm;have hr3:=HRW.out.below bb3;have z4:=z3.on bb3;have bw3:=bw2.trans (bb3.mono bw2.size);have q3:=HQ3.out _ bb3;have q4:=HQ4.out _ bb3;clear hW3 z3 heY HRW bw2;have hq10:¬ ((xn:Int)==11)=true:=by simp;omega
  have FIN:Hid (∀ (W:World) (vs':Value) (sn':List Int) (n:Int),BoxTr W (w.heap.size+1) (.slice none 0 0) (.slice none 0 0) (.slice none 0 0) 0 (.slice none 0 0)→RowsTr W w1.heap.size ⟨.slice am mn cm,.slice ay yn cy,.slice ao on co,vs',mem4,ys4,os4,X.seq,sn'⟩→Below w.heap.size w W→n=snapO X.tre→(∀ b,vs'.ownBlock=some b→Off b ys4∧Off b os4)→(⟨mem4,ys4.map (·.T),os4.map (·.T),X.seq,sn'⟩:Tre)=snapR X.tre →
   zcs w X (.returned (.tuple #[.agg #[.slice am mn cm,.slice ay yn cy,.slice ao on co,.int .i64 X.seq,vs'],.int .i64 n])) (put5 W (w.heap.size+1) (.slice am mn cm) (.slice ay yn cy) (.slice ao on co) (.int .i64 X.seq) vs')):=fun W vs' sn' n _ hr hb hn ha ht=>by
   have hc:w.heap.size+1<w1.heap.size:=(by omega);exact⟨⟨.slice am mn cm,.slice ay yn cy,.slice ao on co,vs',mem4,ys4,os4,X.seq,sn'⟩,by rw[hn],ht,RowsTr.mono (lo:=w1.heap.size) ⟨zt hr.mem hc,zt hr.young hc,hr.youngs.put5 hc,zt hr.old hc,hr.olds.put5 hc,zt hr.snaps hc⟩ (by omega),zR hb (by omega),ha,HTW.out⟩
  by_cases hlast:zbY X.tre=true
  ·have HL:=hlast;unfold zbY at HL;rw[Bool.and_eq_true,decide_eq_true_eq,decide_eq_true_eq] at HL;obtain⟨hl0,hl1⟩:=HL;have hl0':0<X.snaps.length:=hl0;have hl1':X.snaps.getD (X.snaps.length-1) 0=X.seq:=hl1;obtain⟨j,hj⟩:∃ j,j=X.snaps.length-1:=⟨_,rfl⟩;rw[← hj] at hl1';obtain⟨b,off,rfl,hck⟩:∃ b off,xa=some ⟨b,off,none⟩∧W3.cell? ⟨b,off+j,none⟩=some (.int .i64 (X.snaps.getD j 0)):=by
    rcases HXC.out with e | ⟨b,off,ha,hcc⟩
    ·rw[e] at hl0';simp at hl0'
    ·refine⟨b,off,ha,?_⟩;have h:=hcc j (by omega);rw[bb3.cell (World.block_lt_of_cell? w2 _ h),h];simp[List.getD,List.getElem?_eq_getElem (show j<X.snaps.length by omega)]
   have hxp:0<xn:=(by rw[HXN.out];exact hl0');have hjx:j<xn:=(by rw[HXN.out];omega);have hji:(xn:Int)-1=(j:Int):=(by rw[HXN.out];omega);have hxi:(0:Int)<(xn:Int):=(by omega);have hj0:(0:Int)≤(j:Int):=(by omega);have hwj:IntKind.i64.wrap (j:Int)=(j:Int):=(by rw[IntKind.wrap_i64];omega);have heq:(X.seq==X.seq)=true:=(by simp);have HSO:Hid (X.seq=snapO X.tre):=(by unfold Hid snapO;rw[if_pos htk,if_pos hlast];rfl);have HSR:Hid ((⟨mem4,ys4.map (·.T),os4.map (·.T),X.seq,snaps4⟩:Tre)=snapR X.tre):=(by unfold Hid snapR;rw[if_pos htk,if_pos (.inl hlast)];exact HEY.out);rw[hl1'] at hck;clear hl0 hl1 hl0' hl1' hj hlast htk hq10;have q4':=q4;rw[← HW3.out] at q4';go_wp2_with fail
   rw[HW3.out];clear q4';refine brg (S:=fun W=>(W.cell? ⟨w.heap.size,3,none⟩=some (.int .i64 X.seq)∧W.cell? ⟨w.heap.size,4,none⟩=some (.slice (some ⟨b,off,none⟩) xn xc))∧W.cell? ⟨b,off+j,none⟩=some (.int .i64 X.seq)) ⟨⟨q3,q4⟩,hck⟩ (fun hH=>?_);have ZB:Hid (BoxTr W3.drew w2.heap.size (.slice am mn cm) (.slice ay yn cy) (.slice ao on co) X.seq (.slice an nn cn)):=zb3;have ZR:Hid (BoxTr W3.drew (w.heap.size+1) (.slice none 0 0) (.slice none 0 0) (.slice none 0 0) 0 (.slice none 0 0)):=z4;have RW:Hid (RowsTr W3.drew w1.heap.size ⟨.slice am mn cm,.slice ay yn cy,.slice ao on co,.slice an nn cn,mem4,ys4,os4,X.seq,snaps4⟩):=hr3.below ((Below.refl _ _).drew);have BW:Hid (Below w.heap.size w W3.drew):=bw3.drew;have TA:Hid (TreAt W3.drew w.heap.size X):=t3.below bb3.drew;have HS4:Hid (W3.drew.heap.size=w2.heap.size+1):=s4;clear zb3 z4 hr3 bw3 q3 q4 HW3 s4 hck;revert hH ZB ZR RW BW TA HS4;generalize W3.drew=V;intro hH ZB ZR RW BW TA HS4;refine kG 0 15 hH ?_;refine kG 1 16 hH ?_;refine kG 2 17 hH ?_;refine kG 3 18 hH ?_;refine kG 4 19 hH ?_;refine kG 5 20 hH ?_;refine kG 6 21 hH ?_;refine kG 7 22 hH ?_;refine kG 8 23 hH ?_;refine kG 9 24 hH ?_;refine kG 10 25 hH ?_;refine kG 11 26 hH ?_;refine kG 12 27 hH ?_;refine dne ?_;clear hH;obtain⟨y0,y1,y2,y3,y4,g0,g1,g2,g3,g4⟩:=ZB.out.facts;have hq3V:=TA.out.2.2.2.1;go_wp2_with fail
   refine brg (S:=fun W=>(W.cell? ⟨w2.heap.size,0,none⟩=some (.slice am mn cm)∧W.cell? ⟨w2.heap.size,1,none⟩=some (.slice ay yn cy)∧W.cell? ⟨w2.heap.size,2,none⟩=some (.slice ao on co)∧W.cell? ⟨w2.heap.size,3,none⟩=some (.int .i64 X.seq)∧W.cell? ⟨w2.heap.size,4,none⟩=some (.slice an nn cn))∧W.cell? ⟨w.heap.size,3,none⟩=some (.int .i64 X.seq)) ⟨⟨y0,y1,y2,y3,y4⟩,hq3V⟩ (fun hI=>?_);have ZBd:Hid (BoxTr V.drew w2.heap.size (.slice am mn cm) (.slice ay yn cy) (.slice ao on co) X.seq (.slice an nn cn)):=ZB.out;have ZRd:Hid (BoxTr V.drew (w.heap.size+1) (.slice none 0 0) (.slice none 0 0) (.slice none 0 0) 0 (.slice none 0 0)):=ZR.out;have RWd:Hid (RowsTr V.drew w1.heap.size ⟨.slice am mn cm,.slice ay yn cy,.slice ao on co,.slice an nn cn,mem4,ys4,os4,X.seq,snaps4⟩):=RW.out.below ((Below.refl _ _).drew);have BWd:Hid (Below w.heap.size w V.drew):=BW.out.drew;have TAd:Hid (TreAt V.drew w.heap.size X):=TA.out;clear ZB ZR RW BW TA y0 y1 y2 y3 y4 g0 g1 g2 g3 g4 hq3V;revert hI ZBd ZRd RWd BWd TAd;generalize V.drew=U;intro hI ZB ZR RW BW TA;have hneb:w2.heap.size≠w.heap.size+1:=(by omega);have hneq:w.heap.size≠w.heap.size+1:=(by omega);have zb7:BoxTr (put5 U (w.heap.size+1) (.slice am mn cm) (.slice ay yn cy) (.slice ao on co) (.int .i64 X.seq) (.slice an nn cn)) w2.heap.size (.slice am mn cm) (.slice ay yn cy) (.slice ao on co) X.seq (.slice an nn cn):=zD (zD (zD (zD (zD ZB.out hneb) hneb) hneb) hneb) hneb
   have q7:=(zaU (c:=w.heap.size+1) (u0:=.slice am mn cm) (u1:=.slice ay yn cy) (u2:=.slice ao on co) (u3:=.int .i64 X.seq) (u4:=.slice an nn cn) TA.out hneq).2.2.2.1;have END:Hid (zcs _ _ _ _):=FIN.out U (.slice an nn cn) (snaps4) X.seq ZR.out RW.out BW.out HSO.out HAP.out HSR.out;have hzF:=zF ZR.out (.slice am mn cm) (.slice ay yn cy) (.slice ao on co) (.slice an nn cn) X.seq;obtain⟨f0,f1,f2,f3,f4,-⟩:=hzF.facts;obtain⟨k0,k1,k2,k3,k4,-⟩:=zb7.facts;obtain⟨m0,m1,m2,m3,m4,n0,n1,n2,n3,n4⟩:=ZR.out.facts;refine kG 0 28 hI ?_;refine kG 1 29 hI ?_;refine kG 2 30 hI ?_;refine rdy 3 (fun K hK=>?_);go_simp;refine hK.out _ _ ⟨⟨k0,k1,k2,k3,k4⟩,q7⟩ (fun hJ=>?_);clear hK K;try simp only[Act.put,sA,sZ,sS]
   refine kG 4 3 hJ ?_;refine dne ?_;unfold put5 at f0 f1 f2 f3 f4 END;clear hI hJ zb7 hzF q7 k0 k1 k2 k3 k4 m0 m1 m2 m3 m4 n0 n1 n2 n3 n4;go_wp2;exact bodyPost_ret (v:=.tuple #[.agg #[.slice am mn cm,.slice ay yn cy,.slice ao on co,.int .i64 X.seq,.slice an nn cn],.int .i64 X.seq]) (by simp[results,Tryz.results25,go_sem,f0,f1,f2,f3,f4]) rfl END.out
  ·by_cases hx0:xn=0
   ·have hx10:¬ xn=10:=(by omega);have hxi:¬ (0:Int)<(xn:Int):=(by omega);have hxg:decide (0<xn)=false:=(by simp;omega);have q4':=q4;rw[← HW3.out] at q4';go_wp2_with fail
    rw[HW3.out];clear q4';refine brg (S:=fun _=>True) trivial (fun hH=>?_);have ZB:Hid (BoxTr W3.drew w2.heap.size (.slice am mn cm) (.slice ay yn cy) (.slice ao on co) X.seq (.slice an nn cn)):=zb3;have ZR:Hid (BoxTr W3.drew (w.heap.size+1) (.slice none 0 0) (.slice none 0 0) (.slice none 0 0) 0 (.slice none 0 0)):=z4;have RW:Hid (RowsTr W3.drew w1.heap.size ⟨.slice am mn cm,.slice ay yn cy,.slice ao on co,.slice an nn cn,mem4,ys4,os4,X.seq,snaps4⟩):=hr3.below ((Below.refl _ _).drew);have BW:Hid (Below w.heap.size w W3.drew):=bw3.drew;have TA:Hid (TreAt W3.drew w.heap.size X):=t3.below bb3.drew;have HS4:Hid (W3.drew.heap.size=w2.heap.size+1):=s4;clear zb3 z4 hr3 bw3 q3 q4 HW3 s4;revert hH ZB ZR RW BW TA HS4;generalize W3.drew=V;intro hH ZB ZR RW BW TA HS4;refine kG 0 15 hH ?_;refine kG 1 16 hH ?_;refine kG 2 17 hH ?_;refine kS 3 18 hH ?_;refine kS 4 19 hH ?_;refine kS 5 20 hH ?_;refine kS 6 21 hH ?_;refine kS 7 22 hH ?_;refine kS 8 23 hH ?_;refine kS 9 24 hH ?_;refine kS 10 25 hH ?_;refine kS 11 26 hH ?_;refine kG 12 27 hH ?_;refine dne ?_;clear hH;have HSO:Hid (X.seq=snapO X.tre):=(by unfold Hid snapO;rw[if_pos htk,if_neg hlast,if_neg (show ¬ X.tre.snaps.length=10 from fun e=>hx10 (HXN.out.trans e))];rfl);have HSR:Hid ((⟨mem4,ys4.map (·.T),os4.map (·.T),X.seq,snaps4++[X.seq]⟩:Tre)=snapR X.tre):=by
     unfold Hid snapR;rw[if_pos htk,if_neg (show ¬ (zbY X.tre=true∨X.tre.snaps.length=10) from fun e=>by rcases e with e | e;exact hlast e;exact hx10 (HXN.out.trans e))];exact congrArg snapT HEY.out
    have hs10:snaps4.length≤10:=(by have h1:snaps4=X.snaps:=congrArg Tre.snaps HEY.out;rw[h1,← HXN.out];exact hfew);have hq10:((xn:Int)==10)=false:=(by simp;omega);obtain⟨y0,y1,y2,y3,y4,g0,g1,g2,g3,g4⟩:=ZB.out.facts;have hq3V:=TA.out.2.2.2.1;have bb1:=ze V (.cells #[.int .i64 X.seq] 2);have RY1:=zft V X.seq;have OI1:=RW.out.snaps.below bb1;have SZ1:w1.heap.size≤(V.alloc (.cells #[.int .i64 X.seq] 2)).heap.size:=(by have:=HS4.out;simp;omega);simp only at OI1;clear hlast htk;go_wp2_with (at_builtin;(refine zei rfl _ _ rfl w1.heap.size _ _ snaps4 [X.seq] rfl rfl OI1 RY1 (by simp;omega) SZ1 ?_))
    intro v8 V8 ho8 hg8 hat8;have hrw1:=RW.out.below bb1;have ZB1:=ZB.out.on bb1;have ZR1:=ZR.out.on bb1;have TA1:=TA.out.below bb1;have BW1:=BW.out.trans (bb1.mono BW.out.size);have sV1:(V.alloc (.cells #[.int .i64 X.seq] 2)).heap.size=w2.heap.size+2:=(by have:=HS4.out;simp;omega);obtain⟨V1,hV1⟩:∃ V1,V1=V.alloc (.cells #[.int .i64 X.seq] 2):=⟨_,rfl⟩;rw[← hV1] at hrw1 ZB1 ZR1 TA1 BW1 sV1 hg8 OI1;clear hV1 bb1 RY1 SZ1 y0 y1 y2 y3 y4 g0 g1 g2 g3 g4 hq3V ZB ZR RW BW TA;have ZB8:BoxTr V8 w2.heap.size (.slice am mn cm) (.slice ay yn cy) (.slice ao on co) X.seq (.slice an nn cn):=(hg8.block w2.heap.size (by omega) (fun e=>by have:=(HVB.out _ e.symm).2;omega)).trans ZB1;have ZR8:BoxTr V8 (w.heap.size+1) (.slice none 0 0) (.slice none 0 0) (.slice none 0 0) 0 (.slice none 0 0):=(hg8.block _ (by omega) (fun e=>by have:=(HVB.out _ e.symm).1;omega)).trans ZR1;have TA8:TreAt V8 w.heap.size X:=TA1.of_block (hg8.block _ (by omega) (fun e=>by have:=(HVB.out _ e.symm).1;omega));have BW8:Below w.heap.size w V8:=BW1.grown hg8 BW1.size (fun k hk=>by have:=(HVB.out k hk).1;omega);have hAP8:∀ b,v8.ownBlock=some b→Off b ys4∧Off b os4:=fun b hb=>by
     rcases hat8 with h | h
     ·rw[h] at hb;exact HAP.out b hb
     ·rw[h] at hb;have hb:=Option.some.inj hb;exact⟨fun t ht k hk e=>by have:=(oL (hrw1.youngs t ht).1 k hk).2;have:=HS4.out;omega,fun t ht k hk e=>by have:=(oL (hrw1.olds t ht).1 k hk).2;have:=HS4.out;omega⟩
    have inT:∀ ts:List TV,InT V1 w1.heap.size ts→(∀ b,(Value.slice an nn cn).ownBlock=some b→Off b ts)→InT V8 w1.heap.size ts:=fun ts hts hoff t ht =>
     ⟨zl (hts t ht).1 hg8 (fun k hk e=>hoff k e t ht k hk rfl),zl (hts t ht).2 hg8 (fun k hk e=>zh (hts t ht).2 OI1 (by decide) k hk e)⟩
    have hr8:RowsTr V8 w1.heap.size ⟨.slice am mn cm,.slice ay yn cy,.slice ao on co,v8,mem4,ys4,os4,X.seq,snaps4++[X.seq]⟩ :=
     ⟨zl hrw1.mem hg8 (fun k hk e=>zh hrw1.mem OI1 (by decide) k hk e),zl hrw1.young hg8 (fun k hk e=>zh hrw1.young OI1 (by decide) k hk e),inT ys4 hrw1.youngs (fun b hb=>(HAP.out b hb).1),zl hrw1.old hg8 (fun k hk e=>zh hrw1.old OI1 (by decide) k hk e),inT os4 hrw1.olds (fun b hb=>(HAP.out b hb).2),ho8⟩
    obtain⟨a8,c8,hv8,-⟩:=id ho8.rd;generalize (snaps4++[X.seq]).length=n8 at hv8;subst hv8;obtain⟨-,-,-,-,x4,-,-,-,-,h4⟩:=ZB8.facts;have ne9:∀ k∈trB (⟨.slice am mn cm,.slice ay yn cy,.slice ao on co,.slice a8 n8 c8,mem4,ys4,os4,X.seq,snaps4++[X.seq]⟩:TrX),k ∉ [w2.heap.size]:=fun k hk e=>by
     have e:=List.mem_singleton.1 e;exact zn7 ZB8 hr8 hk e.symm
    have ZB9:Hid (BoxTr (V8.setCell ⟨w2.heap.size,4,none⟩ (.slice a8 n8 c8)) w2.heap.size (.slice am mn cm) (.slice ay yn cy) (.slice ao on co) X.seq (.slice a8 n8 c8)):=zcX ZB8 _;have ZR9:Hid (BoxTr (V8.setCell ⟨w2.heap.size,4,none⟩ (.slice a8 n8 c8)) (w.heap.size+1) (.slice none 0 0) (.slice none 0 0) (.slice none 0 0) 0 (.slice none 0 0)):=zD ZR8 (by omega);have RW9:Hid (RowsTr (V8.setCell ⟨w2.heap.size,4,none⟩ (.slice a8 n8 c8)) w1.heap.size ⟨.slice am mn cm,.slice ay yn cy,.slice ao on co,.slice a8 n8 c8,mem4,ys4,os4,X.seq,snaps4++[X.seq]⟩):=hr8.touch (Touch.set (by simp)) ne9;have BW9:Hid (Below w.heap.size w (V8.setCell ⟨w2.heap.size,4,none⟩ (.slice a8 n8 c8))):=(Touch.set (bs:=[w2.heap.size]) (by simp)).below BW8 (fun k hk=>by rw[List.mem_singleton.1 hk];omega);have TA9:Hid (TreAt (V8.setCell ⟨w2.heap.size,4,none⟩ (.slice a8 n8 c8)) w.heap.size X):=TA8.of_block (heap_setCell_other V8 ⟨w2.heap.size,4,none⟩ w.heap.size _ (by simp;omega));have HA8:Hid (∀ b,(Value.slice a8 n8 c8).ownBlock=some b→Off b ys4∧Off b os4):=hAP8;clear ho8 hg8 hat8 hrw1 ZB1 ZR1 TA1 BW1 OI1 ZR8 TA8 BW8 inT hr8 ne9 hAP8;go_wp2_with fail
    clear x4 h4 ZB8;revert ZB9 ZR9 RW9 BW9 TA9;generalize V8.setCell ⟨w2.heap.size,4,none⟩ (.slice a8 n8 c8)=V9;intro ZB ZR RW BW TA;obtain⟨y0,y1,y2,y3,y4,g0,g1,g2,g3,g4⟩:=ZB.out.facts;have hq3V:=TA.out.2.2.2.1;go_wp2_with fail
    refine brg (S:=fun W=>(W.cell? ⟨w2.heap.size,0,none⟩=some (.slice am mn cm)∧W.cell? ⟨w2.heap.size,1,none⟩=some (.slice ay yn cy)∧W.cell? ⟨w2.heap.size,2,none⟩=some (.slice ao on co)∧W.cell? ⟨w2.heap.size,3,none⟩=some (.int .i64 X.seq)∧W.cell? ⟨w2.heap.size,4,none⟩=some (.slice a8 n8 c8))∧W.cell? ⟨w.heap.size,3,none⟩=some (.int .i64 X.seq)) ⟨⟨y0,y1,y2,y3,y4⟩,hq3V⟩ (fun hI=>?_);have ZBd:Hid (BoxTr V9.drew w2.heap.size (.slice am mn cm) (.slice ay yn cy) (.slice ao on co) X.seq (.slice a8 n8 c8)):=ZB.out;have ZRd:Hid (BoxTr V9.drew (w.heap.size+1) (.slice none 0 0) (.slice none 0 0) (.slice none 0 0) 0 (.slice none 0 0)):=ZR.out;have RWd:Hid (RowsTr V9.drew w1.heap.size ⟨.slice am mn cm,.slice ay yn cy,.slice ao on co,.slice a8 n8 c8,mem4,ys4,os4,X.seq,snaps4++[X.seq]⟩):=RW.out.below ((Below.refl _ _).drew);have BWd:Hid (Below w.heap.size w V9.drew):=BW.out.drew;have TAd:Hid (TreAt V9.drew w.heap.size X):=TA.out;clear ZB ZR RW BW TA y0 y1 y2 y3 y4 g0 g1 g2 g3 g4 hq3V;revert hI ZBd ZRd RWd BWd TAd;generalize V9.drew=U;intro hI ZB ZR RW BW TA;have hneb:w2.heap.size≠w.heap.size+1:=(by omega);have hneq:w.heap.size≠w.heap.size+1:=(by omega);have zb7:BoxTr (put5 U (w.heap.size+1) (.slice am mn cm) (.slice ay yn cy) (.slice ao on co) (.int .i64 X.seq) (.slice a8 n8 c8)) w2.heap.size (.slice am mn cm) (.slice ay yn cy) (.slice ao on co) X.seq (.slice a8 n8 c8):=zD (zD (zD (zD (zD ZB.out hneb) hneb) hneb) hneb) hneb
    have q7:=(zaU (c:=w.heap.size+1) (u0:=.slice am mn cm) (u1:=.slice ay yn cy) (u2:=.slice ao on co) (u3:=.int .i64 X.seq) (u4:=.slice a8 n8 c8) TA.out hneq).2.2.2.1;have END:Hid (zcs _ _ _ _):=FIN.out U (.slice a8 n8 c8) (snaps4++[X.seq]) X.seq ZR.out RW.out BW.out HSO.out HA8.out HSR.out;have hzF:=zF ZR.out (.slice am mn cm) (.slice ay yn cy) (.slice ao on co) (.slice a8 n8 c8) X.seq;obtain⟨f0,f1,f2,f3,f4,-⟩:=hzF.facts;obtain⟨k0,k1,k2,k3,k4,-⟩:=zb7.facts;obtain⟨m0,m1,m2,m3,m4,n0,n1,n2,n3,n4⟩:=ZR.out.facts;refine kG 0 41 hI ?_;refine kG 1 42 hI ?_;refine kG 2 43 hI ?_;refine rdy 3 (fun K hK=>?_);go_simp;refine hK.out _ _ ⟨⟨k0,k1,k2,k3,k4⟩,q7⟩ (fun hJ=>?_);clear hK K;try simp only[Act.put,sA,sZ,sS]
    refine kG 4 3 hJ ?_;refine dne ?_;unfold put5 at f0 f1 f2 f3 f4 END;clear hI hJ zb7 hzF q7 k0 k1 k2 k3 k4 m0 m1 m2 m3 m4 n0 n1 n2 n3 n4;go_wp2;exact bodyPost_ret (v:=.tuple #[.agg #[.slice am mn cm,.slice ay yn cy,.slice ao on co,.int .i64 X.seq,.slice a8 n8 c8],.int .i64 X.seq]) (by simp[results,Tryz.results25,go_sem,f0,f1,f2,f3,f4]) rfl END.out
   have hl0':0<X.snaps.length:=(by rw[← HXN.out];omega);have hl1':X.snaps.getD (X.snaps.length-1) 0≠X.seq:=fun e=>hlast (by
    unfold zbY;rw[Bool.and_eq_true,decide_eq_true_eq,decide_eq_true_eq];exact⟨hl0',e⟩)
   obtain⟨j,hj⟩:∃ j,j=X.snaps.length-1:=⟨_,rfl⟩;rw[← hj] at hl1';obtain⟨b,off,rfl,hck⟩:∃ b off,xa=some ⟨b,off,none⟩∧W3.cell? ⟨b,off+j,none⟩=some (.int .i64 (X.snaps.getD j 0)):=by
    rcases HXC.out with e | ⟨b,off,ha,hcc⟩
    ·rw[e] at hl0';simp at hl0'
    ·refine⟨b,off,ha,?_⟩;have h:=hcc j (by omega);rw[bb3.cell (World.block_lt_of_cell? w2 _ h),h];simp[List.getD,List.getElem?_eq_getElem (show j<X.snaps.length by omega)]
   have hxp:0<xn:=(by rw[HXN.out];exact hl0');have hjx:j<xn:=(by rw[HXN.out];omega);have hji:(xn:Int)-1=(j:Int):=(by rw[HXN.out];omega);have hxi:(0:Int)<(xn:Int):=(by omega);have hj0:(0:Int)≤(j:Int):=(by omega);have hwj:IntKind.i64.wrap (j:Int)=(j:Int):=(by rw[IntKind.wrap_i64];omega);obtain⟨z,hz⟩:∃ z,z=X.snaps.getD j 0:=⟨_,rfl⟩;rw[← hz] at hck hl1';have heq:(z==X.seq)=false:=(by simp[hl1']);clear hl0' hl1' hj hz hq10;have q4':=q4;rw[← HW3.out] at q4';go_wp2_with fail
   rw[HW3.out];clear q4';refine brg (S:=fun W=>(W.cell? ⟨w.heap.size,3,none⟩=some (.int .i64 X.seq)∧W.cell? ⟨w.heap.size,4,none⟩=some (.slice (some ⟨b,off,none⟩) xn xc))∧W.cell? ⟨b,off+j,none⟩=some (.int .i64 z)) ⟨⟨q3,q4⟩,hck⟩ (fun hH=>?_);have ZB:Hid (BoxTr W3.drew w2.heap.size (.slice am mn cm) (.slice ay yn cy) (.slice ao on co) X.seq (.slice an nn cn)):=zb3;have ZR:Hid (BoxTr W3.drew (w.heap.size+1) (.slice none 0 0) (.slice none 0 0) (.slice none 0 0) 0 (.slice none 0 0)):=z4;have RW:Hid (RowsTr W3.drew w1.heap.size ⟨.slice am mn cm,.slice ay yn cy,.slice ao on co,.slice an nn cn,mem4,ys4,os4,X.seq,snaps4⟩):=hr3.below ((Below.refl _ _).drew);have BW:Hid (Below w.heap.size w W3.drew):=bw3.drew;have TA:Hid (TreAt W3.drew w.heap.size X):=t3.below bb3.drew;have HS4:Hid (W3.drew.heap.size=w2.heap.size+1):=s4;clear zb3 z4 hr3 bw3 q3 q4 HW3 s4 hck;revert hH ZB ZR RW BW TA HS4;generalize W3.drew=V;intro hH ZB ZR RW BW TA HS4;refine kG 0 15 hH ?_;refine kG 1 16 hH ?_;refine kG 2 17 hH ?_;refine kG 3 18 hH ?_;refine kG 4 19 hH ?_;refine kG 5 20 hH ?_;refine kG 6 21 hH ?_;refine kG 7 22 hH ?_;refine kG 8 23 hH ?_;refine kG 9 24 hH ?_;refine kG 10 25 hH ?_;refine kG 11 26 hH ?_;refine kG 12 27 hH ?_;refine dne ?_;clear hH;by_cases hx10:xn=10
   ·skip
    have HSO:Hid ((-1:Int)=snapO X.tre):=(by unfold Hid snapO;rw[if_pos htk,if_neg hlast,if_pos (show X.tre.snaps.length=10 from HXN.out.symm.trans hx10)]);have HSR:Hid ((⟨mem4,ys4.map (·.T),os4.map (·.T),X.seq,snaps4⟩:Tre)=snapR X.tre):=(by unfold Hid snapR;rw[if_pos htk,if_pos (.inr (show X.tre.snaps.length=10 from HXN.out.symm.trans hx10))];exact HEY.out);have hq10:((xn:Int)==10)=true:=(by simp;omega);obtain⟨y0,y1,y2,y3,y4,g0,g1,g2,g3,g4⟩:=ZB.out.facts;obtain⟨m0,m1,m2,m3,m4,n0,n1,n2,n3,n4⟩:=ZR.out.facts;have END:Hid (zcs _ _ _ _):=FIN.out V (.slice an nn cn) snaps4 (-1) ZR.out RW.out BW.out HSO.out HAP.out HSR.out;have hzF:=zF ZR.out (.slice am mn cm) (.slice ay yn cy) (.slice ao on co) (.slice an nn cn) X.seq;obtain⟨f0,f1,f2,f3,f4,-⟩:=hzF.facts;unfold put5 at f0 f1 f2 f3 f4 END;clear hzF hlast htk hx10;go_wp2;exact bodyPost_ret (v:=.tuple #[.agg #[.slice am mn cm,.slice ay yn cy,.slice ao on co,.int .i64 X.seq,.slice an nn cn],.int .i64 (-1)]) (by simp[results,Tryz.results25,go_sem,f0,f1,f2,f3,f4]) rfl END.out
   ·skip
    have HSO:Hid (X.seq=snapO X.tre):=(by unfold Hid snapO;rw[if_pos htk,if_neg hlast,if_neg (show ¬ X.tre.snaps.length=10 from fun e=>hx10 (HXN.out.trans e))];rfl);have HSR:Hid ((⟨mem4,ys4.map (·.T),os4.map (·.T),X.seq,snaps4++[X.seq]⟩:Tre)=snapR X.tre):=by
     unfold Hid snapR;rw[if_pos htk,if_neg (show ¬ (zbY X.tre=true∨X.tre.snaps.length=10) from fun e=>by rcases e with e | e;exact hlast e;exact hx10 (HXN.out.trans e))];exact congrArg snapT HEY.out
    have hs10:snaps4.length≤10:=(by have h1:snaps4=X.snaps:=congrArg Tre.snaps HEY.out;rw[h1,← HXN.out];exact hfew);have hq10:((xn:Int)==10)=false:=(by simp;omega);obtain⟨y0,y1,y2,y3,y4,g0,g1,g2,g3,g4⟩:=ZB.out.facts;have hq3V:=TA.out.2.2.2.1;have bb1:=ze V (.cells #[.int .i64 X.seq] 2);have RY1:=zft V X.seq;have OI1:=RW.out.snaps.below bb1;have SZ1:w1.heap.size≤(V.alloc (.cells #[.int .i64 X.seq] 2)).heap.size:=(by have:=HS4.out;simp;omega);simp only at OI1;clear hlast htk;go_wp2_with (at_builtin;(refine zei rfl _ _ rfl w1.heap.size _ _ snaps4 [X.seq] rfl rfl OI1 RY1 (by simp;omega) SZ1 ?_))
    intro v8 V8 ho8 hg8 hat8;have hrw1:=RW.out.below bb1;have ZB1:=ZB.out.on bb1;have ZR1:=ZR.out.on bb1;have TA1:=TA.out.below bb1;have BW1:=BW.out.trans (bb1.mono BW.out.size);have sV1:(V.alloc (.cells #[.int .i64 X.seq] 2)).heap.size=w2.heap.size+2:=(by have:=HS4.out;simp;omega);obtain⟨V1,hV1⟩:∃ V1,V1=V.alloc (.cells #[.int .i64 X.seq] 2):=⟨_,rfl⟩;rw[← hV1] at hrw1 ZB1 ZR1 TA1 BW1 sV1 hg8 OI1;clear hV1 bb1 RY1 SZ1 y0 y1 y2 y3 y4 g0 g1 g2 g3 g4 hq3V ZB ZR RW BW TA;have ZB8:BoxTr V8 w2.heap.size (.slice am mn cm) (.slice ay yn cy) (.slice ao on co) X.seq (.slice an nn cn):=(hg8.block w2.heap.size (by omega) (fun e=>by have:=(HVB.out _ e.symm).2;omega)).trans ZB1;have ZR8:BoxTr V8 (w.heap.size+1) (.slice none 0 0) (.slice none 0 0) (.slice none 0 0) 0 (.slice none 0 0):=(hg8.block _ (by omega) (fun e=>by have:=(HVB.out _ e.symm).1;omega)).trans ZR1;have TA8:TreAt V8 w.heap.size X:=TA1.of_block (hg8.block _ (by omega) (fun e=>by have:=(HVB.out _ e.symm).1;omega));have BW8:Below w.heap.size w V8:=BW1.grown hg8 BW1.size (fun k hk=>by have:=(HVB.out k hk).1;omega);have hAP8:∀ b,v8.ownBlock=some b→Off b ys4∧Off b os4:=fun b hb=>by
     rcases hat8 with h | h
     ·rw[h] at hb;exact HAP.out b hb
     ·rw[h] at hb;have hb:=Option.some.inj hb;exact⟨fun t ht k hk e=>by have:=(oL (hrw1.youngs t ht).1 k hk).2;have:=HS4.out;omega,fun t ht k hk e=>by have:=(oL (hrw1.olds t ht).1 k hk).2;have:=HS4.out;omega⟩
    have inT:∀ ts:List TV,InT V1 w1.heap.size ts→(∀ b,(Value.slice an nn cn).ownBlock=some b→Off b ts)→InT V8 w1.heap.size ts:=fun ts hts hoff t ht =>
     ⟨zl (hts t ht).1 hg8 (fun k hk e=>hoff k e t ht k hk rfl),zl (hts t ht).2 hg8 (fun k hk e=>zh (hts t ht).2 OI1 (by decide) k hk e)⟩
    have hr8:RowsTr V8 w1.heap.size ⟨.slice am mn cm,.slice ay yn cy,.slice ao on co,v8,mem4,ys4,os4,X.seq,snaps4++[X.seq]⟩ :=
     ⟨zl hrw1.mem hg8 (fun k hk e=>zh hrw1.mem OI1 (by decide) k hk e),zl hrw1.young hg8 (fun k hk e=>zh hrw1.young OI1 (by decide) k hk e),inT ys4 hrw1.youngs (fun b hb=>(HAP.out b hb).1),zl hrw1.old hg8 (fun k hk e=>zh hrw1.old OI1 (by decide) k hk e),inT os4 hrw1.olds (fun b hb=>(HAP.out b hb).2),ho8⟩
    obtain⟨a8,c8,hv8,-⟩:=id ho8.rd;generalize (snaps4++[X.seq]).length=n8 at hv8;subst hv8;obtain⟨-,-,-,-,x4,-,-,-,-,h4⟩:=ZB8.facts;have ne9:∀ k∈trB (⟨.slice am mn cm,.slice ay yn cy,.slice ao on co,.slice a8 n8 c8,mem4,ys4,os4,X.seq,snaps4++[X.seq]⟩:TrX),k ∉ [w2.heap.size]:=fun k hk e=>by
     have e:=List.mem_singleton.1 e;exact zn7 ZB8 hr8 hk e.symm
    have ZB9:Hid (BoxTr (V8.setCell ⟨w2.heap.size,4,none⟩ (.slice a8 n8 c8)) w2.heap.size (.slice am mn cm) (.slice ay yn cy) (.slice ao on co) X.seq (.slice a8 n8 c8)):=zcX ZB8 _;have ZR9:Hid (BoxTr (V8.setCell ⟨w2.heap.size,4,none⟩ (.slice a8 n8 c8)) (w.heap.size+1) (.slice none 0 0) (.slice none 0 0) (.slice none 0 0) 0 (.slice none 0 0)):=zD ZR8 (by omega);have RW9:Hid (RowsTr (V8.setCell ⟨w2.heap.size,4,none⟩ (.slice a8 n8 c8)) w1.heap.size ⟨.slice am mn cm,.slice ay yn cy,.slice ao on co,.slice a8 n8 c8,mem4,ys4,os4,X.seq,snaps4++[X.seq]⟩):=hr8.touch (Touch.set (by simp)) ne9;have BW9:Hid (Below w.heap.size w (V8.setCell ⟨w2.heap.size,4,none⟩ (.slice a8 n8 c8))):=(Touch.set (bs:=[w2.heap.size]) (by simp)).below BW8 (fun k hk=>by rw[List.mem_singleton.1 hk];omega);have TA9:Hid (TreAt (V8.setCell ⟨w2.heap.size,4,none⟩ (.slice a8 n8 c8)) w.heap.size X):=TA8.of_block (heap_setCell_other V8 ⟨w2.heap.size,4,none⟩ w.heap.size _ (by simp;omega));have HA8:Hid (∀ b,(Value.slice a8 n8 c8).ownBlock=some b→Off b ys4∧Off b os4):=hAP8;clear ho8 hg8 hat8 hrw1 ZB1 ZR1 TA1 BW1 OI1 ZR8 TA8 BW8 inT hr8 ne9 hAP8;go_wp2_with fail
    clear x4 h4 ZB8;revert ZB9 ZR9 RW9 BW9 TA9;generalize V8.setCell ⟨w2.heap.size,4,none⟩ (.slice a8 n8 c8)=V9;intro ZB ZR RW BW TA;obtain⟨y0,y1,y2,y3,y4,g0,g1,g2,g3,g4⟩:=ZB.out.facts;have hq3V:=TA.out.2.2.2.1;go_wp2_with fail
    refine brg (S:=fun W=>(W.cell? ⟨w2.heap.size,0,none⟩=some (.slice am mn cm)∧W.cell? ⟨w2.heap.size,1,none⟩=some (.slice ay yn cy)∧W.cell? ⟨w2.heap.size,2,none⟩=some (.slice ao on co)∧W.cell? ⟨w2.heap.size,3,none⟩=some (.int .i64 X.seq)∧W.cell? ⟨w2.heap.size,4,none⟩=some (.slice a8 n8 c8))∧W.cell? ⟨w.heap.size,3,none⟩=some (.int .i64 X.seq)) ⟨⟨y0,y1,y2,y3,y4⟩,hq3V⟩ (fun hI=>?_);have ZBd:Hid (BoxTr V9.drew w2.heap.size (.slice am mn cm) (.slice ay yn cy) (.slice ao on co) X.seq (.slice a8 n8 c8)):=ZB.out;have ZRd:Hid (BoxTr V9.drew (w.heap.size+1) (.slice none 0 0) (.slice none 0 0) (.slice none 0 0) 0 (.slice none 0 0)):=ZR.out;have RWd:Hid (RowsTr V9.drew w1.heap.size ⟨.slice am mn cm,.slice ay yn cy,.slice ao on co,.slice a8 n8 c8,mem4,ys4,os4,X.seq,snaps4++[X.seq]⟩):=RW.out.below ((Below.refl _ _).drew);have BWd:Hid (Below w.heap.size w V9.drew):=BW.out.drew;have TAd:Hid (TreAt V9.drew w.heap.size X):=TA.out;clear ZB ZR RW BW TA y0 y1 y2 y3 y4 g0 g1 g2 g3 g4 hq3V;revert hI ZBd ZRd RWd BWd TAd;generalize V9.drew=U;intro hI ZB ZR RW BW TA;have hneb:w2.heap.size≠w.heap.size+1:=(by omega);have hneq:w.heap.size≠w.heap.size+1:=(by omega);have zb7:BoxTr (put5 U (w.heap.size+1) (.slice am mn cm) (.slice ay yn cy) (.slice ao on co) (.int .i64 X.seq) (.slice a8 n8 c8)) w2.heap.size (.slice am mn cm) (.slice ay yn cy) (.slice ao on co) X.seq (.slice a8 n8 c8):=zD (zD (zD (zD (zD ZB.out hneb) hneb) hneb) hneb) hneb
    have q7:=(zaU (c:=w.heap.size+1) (u0:=.slice am mn cm) (u1:=.slice ay yn cy) (u2:=.slice ao on co) (u3:=.int .i64 X.seq) (u4:=.slice a8 n8 c8) TA.out hneq).2.2.2.1;have END:Hid (zcs _ _ _ _):=FIN.out U (.slice a8 n8 c8) (snaps4++[X.seq]) X.seq ZR.out RW.out BW.out HSO.out HA8.out HSR.out;have hzF:=zF ZR.out (.slice am mn cm) (.slice ay yn cy) (.slice ao on co) (.slice a8 n8 c8) X.seq;obtain⟨f0,f1,f2,f3,f4,-⟩:=hzF.facts;obtain⟨k0,k1,k2,k3,k4,-⟩:=zb7.facts;obtain⟨m0,m1,m2,m3,m4,n0,n1,n2,n3,n4⟩:=ZR.out.facts;refine kG 0 41 hI ?_;refine kG 1 42 hI ?_;refine kG 2 43 hI ?_;refine rdy 3 (fun K hK=>?_);go_simp;refine hK.out _ _ ⟨⟨k0,k1,k2,k3,k4⟩,q7⟩ (fun hJ=>?_);clear hK K;try simp only[Act.put,sA,sZ,sS]
    refine kG 4 3 hJ ?_;refine dne ?_;unfold put5 at f0 f1 f2 f3 f4 END;clear hI hJ zb7 hzF q7 k0 k1 k2 k3 k4 m0 m1 m2 m3 m4 n0 n1 n2 n3 n4;go_wp2;exact bodyPost_ret (v:=.tuple #[.agg #[.slice am mn cm,.slice ay yn cy,.slice ao on co,.int .i64 X.seq,.slice a8 n8 c8],.int .i64 X.seq]) (by simp[results,Tryz.results25,go_sem,f0,f1,f2,f3,f4]) rfl END.out
open Go.RowKit
theorem ziZ:∀ (bs:List ByteArray) (acc es:List Ent),allF bs acc=some es→∀ b∈bs,(unpI b.data.toList).2=true
 | [],_,_,_,b,hb=>by cases hb
 | c::r,acc,es,h,b,hb=>by
  rw[allF] at h;split at h
  ·rename_i hc;rcases List.mem_cons.1 hb with rfl | hb
   ·exact hc.1
   ·exact ziZ r _ es h b hb
  ·cases h
theorem zcP{T:Tbl}(h:zT T=true):(∀ s∈T.blocks,s.size≤90009)∧T.bits.length≤1000∧T.blocks.length≤40:=by
 have hp:=zac h;have hlen:=zad hp.1;have hb:=zjA (zu T);rw[← hp.2.2.2.2] at hb;unfold zT at h;simp only[Bool.and_eq_true] at h;obtain⟨⟨⟨h1,_⟩,_⟩,_⟩:=h;unfold allL at h1;split at h1
 ·cases h1
 ·rename_i hn;split at h1
  ·cases h1
  ·rename_i es he;refine⟨fun s hs=>?_,by omega,by omega⟩;have h2:=ziZ _ _ _ he s hs;obtain⟨es',hes⟩:∃ es',unpI s.data.toList=(es',true):=⟨(unpI s.data.toList).1,by rw[← h2]⟩;obtain⟨k1,k2⟩:=zge hes;have k3:=zpu k1;rw[k2,zH] at k3;exact k3
theorem zdb{X:TrX}(h:TreeP X.tre):∀ t∈X.ys,zT t.T=true:=fun t ht=>h.full t.T (List.mem_append_left _ (List.mem_map_of_mem ht))
theorem ze9{X:TrX}(h:TreeP X.tre):∀ t∈X.os,zT t.T=true:=fun t ht=>h.full t.T (List.mem_append_right _ (List.mem_map_of_mem ht))
theorem za2{X:TrX}(h:TreeP X.tre):FitTr X :=
 ⟨fun e he=>by
  have:=((zaD _).1 h.mem).2.1 e he;simp only[okE,Bool.and_eq_true,decide_eq_true_eq] at this;exact⟨by omega,by omega,by omega,by omega⟩,
  fun t ht s hs=>by have:=(zcP (zdb h t ht)).1 s hs;omega,fun t ht s hs=>by have:=(zcP (ze9 h t ht)).1 s hs;omega⟩
theorem ziQ{X:TrX}{w:World}{lo:Nat}(h:TreeP X.tre)(hr:RowsTr w lo X):CpTr X:=by
 have hl:=zad h.mem;have h1:X.ys.length≤6:=by have:=h.young;rw[show X.tre.young=X.ys.map (·.T) from rfl,List.length_map] at this;exact this
 have h2:X.os.length≤1:=by have:=h.old;rw[show X.tre.old=X.os.map (·.T) from rfl,List.length_map] at this;exact this
 have h3:X.snaps.length≤10:=h.few;have h4:X.mem.length≤300:=hl;refine⟨⟨by omega,by omega,by omega,by omega,fun t ht=>?_,fun t ht=>?_⟩,by omega,zaB hr.young,zaB hr.old⟩
 ·have:=zcP (zdb h t ht);exact⟨by omega,by omega,zaB (hr.youngs t ht).2⟩
 ·have:=zcP (ze9 h t ht);exact⟨by omega,by omega,zaB (hr.olds t ht).2⟩
theorem zdN{b:Nat}{w w':World}(h:Touch [b] w w'):w.grownBy w' (some b):=⟨h.os,h.tape,h.output,h.size,fun i hi hr=>h.block i hi (fun e=>hr (by rw[List.mem_singleton.1 e]))⟩
theorem zer{b:Nat}{w w':World}(h:w.grownBy w' (some b)):Touch [b] w w':=⟨h.os,h.tape,h.output,h.size,fun i hi hn=>h.block i hi (fun e=>hn (by simp at e;simp[e]))⟩
def zhn(X:TrX):Prop:=(∀ b,X.vs.ownBlock=some b→Off b X.ys∧Off b X.os)∧((∀ k,X.vy.ownBlock=some k→X.vo.ownBlock≠some k)∨∃ x,X.vy=.slice x 0 0)
theorem ApTr.pair{X:TrX}(h:ApTr X):zhn X:=⟨h.1,.inl h.2⟩
structure TD (w0 w W:World) (g bx:Nat) (X:TrX):Prop where
 box:BoxTr W bx X.vm X.vy X.vo X.seq X.vs
 rows:RowsTr W (bx+1) X
 tree:TreeP X.tre
 dc:DCur w0 W g
 gr:w.grownBy W (some g)
 res:BoxTr W w.heap.size (.slice none 0 0) (.slice none 0 0) (.slice none 0 0) 0 (.slice none 0 0)
 ap:zhn X
theorem RowsTr.off{W:World}{bx:Nat}{X:TrX}(h:RowsTr W (bx+1) X){k:Nat}(hk:k≤bx):∀ j∈trB X,j ∉ [k]:=fun j hj e=>by
 have:=(h.bound hj).1;have:=List.mem_singleton.1 e;omega
theorem TD.draw{w0 w W W1:World}{g bx:Nat}{X:TrX}(h:TD w0 w W g bx X)(hg:W.grownBy W1 (some g))(hd:DCur w0 W1 g)(hgw:g<w.heap.size)(hbx:w.heap.size<bx):TD w0 w W1 g bx X :=
 ⟨(hg.block bx h.box.lt (fun e=>by simp at e;omega)).trans h.box,h.rows.touch (zer hg) (h.rows.off (by omega)),h.tree,hd,zq h.gr hg,(hg.block w.heap.size h.res.lt (fun e=>by simp at e;omega)).trans h.res,h.ap⟩
theorem TD.below{w0 w W W1:World}{g bx:Nat}{X:TrX}(h:TD w0 w W g bx X)(hb:Below W.heap.size W W1):TD w0 w W1 g bx X :=
 ⟨h.box.on hb,h.rows.below hb,h.tree,h.dc.below hb,zbg h.gr hb,h.res.on hb,h.ap⟩
theorem TD.touch{w0 w W W1:World}{g bx:Nat}{X Y:TrX}(h:TD w0 w W g bx X)(ht:Touch [bx] W W1)(hgw:g<w.heap.size)(hbx:w.heap.size<bx)(hbox:BoxTr W1 bx Y.vm Y.vy Y.vo Y.seq Y.vs)(hr:RowsTr W1 (bx+1) Y)(hp:TreeP Y.tre)(ha:zhn Y):TD w0 w W1 g bx Y :=
 ⟨hbox,hr,hp,h.dc.grow (zdN ht) (fun k hk=>by have:=Option.some.inj hk;omega),zaN h.gr (zdN ht) (fun k hk=>by have:=Option.some.inj hk;omega),(ht.block _ h.res.lt (by simp;omega)).trans h.res,ha⟩
def Few(T:Tre)(m:Nat):Prop:=2*T.snaps.length+m≤11+(if zbY T=true then 1 else 0)
theorem few_end{T:Tre}(h:Few T 0):T.snaps.length≤6:=by
 unfold Few at h;split at h<;>omega
theorem zd8{T R:Tre}{m:Nat}(h:Few T (m+1))(hs:R.snaps=T.snaps):Few R m:=by
 unfold Few at h ⊢;rw[hs];split at h<;>split<;>omega
theorem few_less{T R:Tre}{m:Nat}(h:Few T (m+1))(hs:R.snaps.length<T.snaps.length):Few R m:=by
 unfold Few at h ⊢;split at h<;>split<;>omega
theorem zj0(T:Tre):zbY (snapT T)=true:=by
 unfold zbY snapT;simp[List.getD]
theorem few_snap{T:Tre}{m:Nat}(hk:zI T=true)(h:Few T (m+1)):Few (snapR T) m:=by
 unfold snapR;rw[if_pos hk];split
 ·exact zd8 h rfl
 ·rename_i hn;have h1:¬ zbY T=true:=fun e=>hn (.inl e)
  unfold Few at h ⊢;rw[if_neg h1] at h;rw[zj0,if_pos rfl];show 2*(T.snaps++[T.seq]).length+m≤_;simp only[lA,List.length_singleton];omega
theorem zmm{T:Tre}(h:TreeP T):TreeP (snapR T):=by
 unfold snapR;rw[if_pos ((zQ T).2 h)];split
 ·exact h
 ·rename_i hn;have h1:=h.few;refine zn5 h (by omega) (fun s hs he=>hn (.inl ?_));have:=znh h hs he;unfold zbY;rw[this];have:0<T.snaps.length:=List.length_pos_of_mem hs;simp[this]
theorem zme{T:Tre}(h:TreeP T)(s:Int):TreeP (freeR T s):=by
 unfold freeR;rw[if_pos ((zQ T).2 h)];exact znS h s
theorem few_free{T:Tre}{m:Nat}{s:Int}(hk:zI T=true)(h:Few T (m+1))(hs:s∈T.snaps):Few (freeR T s) m:=by
 refine few_less h ?_;unfold freeR;rw[if_pos hk];show (T.snaps.filter fun x=>decide (x≠s)).length<_;rcases Nat.lt_or_ge (T.snaps.filter fun x=>decide (x≠s)).length T.snaps.length with h | h
 ·exact h
 ·have e:=List.filter_sublist.eq_of_length_le h;rw[← e] at hs;simp at hs
end Go.Proofs.YtjlnchhgkfnldaaGreat
