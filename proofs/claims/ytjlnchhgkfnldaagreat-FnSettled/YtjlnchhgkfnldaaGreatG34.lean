import Derived.Test.YtjlnchhgkfnldaaGreatG33
namespace Go.Proofs.YtjlnchhgkfnldaaGreat
set_option maxHeartbeats 16000000
set_option maxRecDepth 100000
open Go.RowKit
theorem touch_put5{w:World}{b:Nat}{u0 u1 u2 u3 u4:Value}:Touch [b] w (put5 w b u0 u1 u2 u3 u4) :=
 ((((Touch.set (by simp)).trans (Touch.set (by simp))).trans (Touch.set (by simp))).trans (Touch.set (by simp))).trans (Touch.set (by simp))
theorem TD.put{w0 w V V2:World}{g bx:Nat}{X:TrX}(Y:TrX)(h:TD w0 w V g bx X)(hb:Below V.heap.size V V2)(hr:RowsTr V2 V.heap.size Y)(hp:TreeP Y.tre)(ha:zhn Y)(hgw:g<w.heap.size)(hbx:w.heap.size<bx) :
 TD w0 w (put5 V2 bx Y.vm Y.vy Y.vo (.int .i64 Y.seq) Y.vs) g bx Y:=by
 have hlt:=h.box.lt;have h2:=h.below hb;refine h2.touch touch_put5 hgw hbx (zF h2.box _ _ _ _ _) ?_ hp ha;exact RowsTr.mono (lo:=V.heap.size) ⟨zt hr.mem hlt,zt hr.young hlt,hr.youngs.put5 hlt,zt hr.old hlt,hr.olds.put5 hlt,zt hr.snaps hlt⟩ (by omega)
def StepD(w0 w:World)(g bx:Nat)(X:TrX)(e:Ending)(V1:World):Prop:=∃ ok,e=.returned (.bool ok)∧∃ Y,TD w0 w V1 g bx Y∧Y.tre.snaps=X.tre.snaps
theorem zmi{w0 w V:World}{g bx:Nat}{X:TrX}(h:TD w0 w V g bx X)(hgw:g<w.heap.size)(hbx:w.heap.size<bx) :
 Calls Tryz.prog 38 #[.pointer (some ⟨bx,0,none⟩)] V fun e V1=>StepD w0 w g bx X e V1:=by
 have hY:X.ys.length=X.tre.young.length:=by show _=(X.ys.map (·.T)).length;rw[List.length_map]
 have hlt:=h.box.lt;refine(zgJ bx X.vm X.vy X.vo X.vs X.mem X.ys X.seq V h.box h.rows.mem.rd (h.rows.young.rd h.rows.youngs) (zaB h.rows.young) (fun e he=>zjo (((zaD _).1 h.tree.mem).2.1 e he)) (by have:X.mem.length≤300:=zad h.tree.mem;omega) (by rw[hY];exact h.tree.young)).mono ?_;rintro e V1 ⟨ok,rfl,hok,hno,hyes⟩;refine⟨ok,rfl,?_⟩;cases ok with
 | false=>exact⟨X,h.below (hno rfl),rfl⟩
 | true =>
  obtain⟨vm',vy',vb,vk,hb,om,oy,oi,os,ht⟩:=hyes rfl;have hk:=hok.symm;rw[Bool.and_eq_true,decide_eq_true_eq,decide_eq_true_eq] at hk;have hr:=h.rows.touch ht (h.rows.off (nR _));refine⟨⟨vm',vy',X.vo,X.vs,[],⟨zC X.mem,vb,vk⟩::X.ys,X.os,X.seq,X.snaps⟩,?_,rfl⟩;refine h.touch ht hgw hbx hb ⟨om.mono (by omega),oy.mono (by omega),?_,hr.old,hr.olds,hr.snaps⟩ ?_ ⟨fun b hb2=>⟨fun t ht2 k hk e=>?_,(h.ap.1 b hb2).2⟩,.inl fun k hk e=>?_⟩
  ·intro t ht2;rcases List.mem_cons.1 ht2 with rfl | ht2
   ·exact⟨oi.mono (by omega),os.mono (by omega)⟩
   ·exact hr.youngs t ht2
  ·have h1:=h.tree.young;exact zdT h.tree hk.1 (by rw[hY] at hk;omega)
  ·rcases List.mem_cons.1 ht2 with rfl | ht2
   ·have h1:=(oL oi k hk).1;have h2:=(oL h.rows.snaps b hb2).2;omega
   ·exact(h.ap.1 b hb2).1 t ht2 k hk e
  ·have h1:=(oL oy k hk).1;have h2:=(oL h.rows.old k e).2;omega
theorem zot{w0 w V:World}{g bx:Nat}{X:TrX}(h:TD w0 w V g bx X)(hgw:g<w.heap.size)(hbx:w.heap.size<bx) :
 Calls Tryz.prog 40 #[.pointer (some ⟨bx,0,none⟩)] V fun e V1=>StepD w0 w g bx X e V1:=by
 have hY:X.ys.length=X.tre.young.length:=by show _=(X.ys.map (·.T)).length;rw[List.length_map]
 have hO:X.os.length=X.tre.old.length:=by show _=(X.os.map (·.T)).length;rw[List.length_map]
 have hlt:=h.box.lt;have hTL:tl X.ys X.ys.length++tl X.os X.os.length=tabL X.tre:=zoY rfl rfl;have hFT:=za2 h.tree;have hcall:=zhM bx X.vm X.vy X.vo X.vs X.ys X.os X.seq X.snaps V h.box (h.rows.young.rd h.rows.youngs) (h.rows.old.rd h.rows.olds) h.rows.snaps.rd hFT.young hFT.old (by rw[hY];exact h.tree.young) (by rw[hO];exact h.tree.old) h.tree.few (fun hn=>by
  rw[hTL] at hn ⊢;have h0:sinkM (tabL X.tre) X.snaps X.seq=sinkL X.tre:=rfl;rw[h0];have hok:=zew h.tree hn;exact⟨fun e he=>zjo (((zaD _).1 hok).2.1 e he),by have:=zad hok;omega⟩)
 rw[hTL] at hcall;refine hcall.mono ?_;rintro e V1 ⟨ok,rfl,hok,hno,hyes⟩;refine⟨ok,rfl,?_⟩;cases ok with
 | false=>exact⟨X,h.below (hno rfl),rfl⟩
 | true =>
  obtain⟨vy',vo',ts,hb,oy,oo,oi,hts,ht,hx0⟩:=hyes rfl;have hk:=hok.symm;rw[Bool.and_eq_true,decide_eq_true_eq,decide_eq_true_eq] at hk;have hr:=h.rows.touch ht (h.rows.off (nR _));refine⟨⟨X.vm,vy',vo',X.vs,X.mem,[],ts,X.seq,X.snaps⟩,?_,rfl⟩;refine h.touch ht hgw hbx hb ⟨hr.mem,oy.mono (by omega),(fun t ht=>by cases ht),oo.mono (by omega),InT.mono oi (by omega),hr.snaps⟩ ?_ ⟨fun b hb2=>⟨(fun t ht2=>by cases ht2),fun t ht2 k hk e=>by have h1:=(oL (oi t ht2).1 k hk).1;have h2:=(oL h.rows.snaps b hb2).2;omega⟩,.inr hx0⟩;have e:(⟨X.mem,[],ts.map (·.T),X.seq,X.snaps⟩:Tre)=sinkT X.tre:=by rw[hts];rfl
  show TreeP (⟨X.mem,[],ts.map (·.T),X.seq,X.snaps⟩:Tre);rw[e];exact zgE h.tree hk.2
theorem zm0{w0 w V:World}{g bx B:Nat}{X:TrX}{v:Value}{xs:List Wri}(h:TD w0 w V g bx X)(hgw:g<w.heap.size)(hbx:w.heap.size<bx)(ho:OwnW V B v xs)(hB:bx<B)(hf:∀ x∈xs,FitsW x) :
 Calls Tryz.prog 118 #[.pointer (some ⟨bx,0,none⟩),v] V fun e V1=>StepD w0 w g bx X e V1:=by
 have hlt:=h.box.lt;refine(zkF X.tre X.vm X.vy X.vo X.vs bx (bx+1) v xs V h.box h.rows.mem (by omega) h.tree ho.rd (fun W ht=>OwnW.rd (base:=B) (ht.row ho (fun k hk e=>by have:=(oL ho k hk).1;have:=List.mem_singleton.1 e;omega))) hf).mono ?_;rintro e V1 ⟨rfl,⟨vm',hb,om⟩,ht⟩;refine⟨_,rfl,?_⟩;have hr:=h.rows.touch ht (h.rows.off (nR _));cases hroom:zaL X.tre xs with
 | false =>
  rw[hroom] at hb om;exact⟨⟨vm',X.vy,X.vo,X.vs,X.mem,X.ys,X.os,X.seq,X.snaps⟩,h.touch ht hgw hbx hb ⟨om,hr.young,hr.youngs,hr.old,hr.olds,hr.snaps⟩ h.tree h.ap,rfl⟩
 | true =>
  rw[hroom] at hb om;obtain⟨e1,e2,e3⟩:=zkE X.tre xs;have hT:(⟨(zan X.tre xs).mem,X.ys.map (·.T),X.os.map (·.T),(zan X.tre xs).seq,X.snaps⟩:Tre)=zan X.tre xs:=by
   have h1:X.ys.map (·.T)=(zan X.tre xs).young:=e1.symm;have h2:X.os.map (·.T)=(zan X.tre xs).old:=e2.symm;have h3:X.snaps=(zan X.tre xs).snaps:=e3.symm;rw[h1,h2,h3]
  refine⟨⟨vm',X.vy,X.vo,X.vs,(zan X.tre xs).mem,X.ys,X.os,(zan X.tre xs).seq,X.snaps⟩,h.touch ht hgw hbx hb ⟨om,hr.young,hr.youngs,hr.old,hr.olds,hr.snaps⟩ ?_ h.ap,rfl⟩;show TreeP (⟨(zan X.tre xs).mem,X.ys.map (·.T),X.os.map (·.T),(zan X.tre xs).seq,X.snaps⟩:Tre);rw[hT];unfold zaL zbt at hroom;simp only[Bool.and_eq_true,decide_eq_true_eq] at hroom;exact zld h.tree hroom.1.1.2 hroom.1.2 hroom.2
end Go.Proofs.YtjlnchhgkfnldaaGreat
namespace Go.Proofs.YtjlnchhgkfnldaaGreat
set_option maxHeartbeats 16000000
set_option maxRecDepth 100000
open Go.RowKit
theorem zfz{w w':World}(g:Nat)(h:Below w.heap.size w w'):w.grownBy w' (some g):=zbg (zaY w (some g)) h
theorem zx{P:Program}{md:Region.Mode}{ops:Array Oper}{Q:Exit→Act→World→Prop}{S:World→Prop}{fuel:Nat}{l l':Array Bool}{a:Act}{w:World}(hl:l=l')(h:wpAnyH P md ops Q S fuel l' a w):wpAnyH P md ops Q S fuel l a w:=by subst hl;exact h
theorem zff{w:World}{B gs n cap:Nat}{ns:List Int}(h:OwnI w B (.slice (some ⟨gs,0,none⟩) n cap) ns)(hn:n=ns.length)(i:Nat)(hi:i<n):w.cell? ⟨gs,i,none⟩=some (.int .i64 (ns.getD i 0)):=by
 unfold OwnI at h;rw[← hn] at h;have:=h.cellAt i (by omega);rw[this,zlt ns i (by omega)];simp[List.getD,List.getElem?_eq_getElem (show i<ns.length by omega)]
theorem zlS{ns:List Int}{i:Nat}(h:i<ns.length):ns.getD i 0∈ns:=by
 simp[List.getD,List.getElem?_eq_getElem h]
def TreD(w0 w:World)(g:Nat)(e:Ending)(w':World):Prop :=
 ∃ X:TrX,e=.returned (.agg #[X.vm,X.vy,X.vo,.int .i64 X.seq,X.vs])∧RowsTr w' w.heap.size X∧TreeP X.tre∧X.snaps.length≤6∧zhn X∧DCur w0 w' g∧w.grownBy w' (some g)
theorem zmZ(w0 w:World)(g:Nat)(sb:Bool)(h:DCur w0 w g) :
 Calls Tryz.prog 85 #[.pointer (some ⟨g,0,none⟩),.bool sb] w fun e w'=>TreD w0 w g e w':=by
 have hlt:=h.lt;have zr:=zag w (.slice none 0 0) (.slice none 0 0) (.slice none 0 0) (.slice none 0 0) 0;obtain⟨V0,hV0⟩:∃ V0,V0=w.alloc (.cells #[.slice none 0 0,.slice none 0 0,.slice none 0 0,.int .i64 0,.slice none 0 0] 28):=⟨_,rfl⟩;have b0:Below w.heap.size w V0:=by rw[hV0];exact ze w _
 have s0:V0.heap.size=w.heap.size+1:=by rw[hV0];simp
 rw[← hV0] at zr;have zb:=zag V0 (.slice none 0 0) (.slice none 0 0) (.slice none 0 0) (.slice none 0 0) 0;obtain⟨W0,hW0⟩:∃ W0,W0=V0.alloc (.cells #[.slice none 0 0,.slice none 0 0,.slice none 0 0,.int .i64 0,.slice none 0 0] 28):=⟨_,rfl⟩;have b1:Below V0.heap.size V0 W0:=by rw[hW0];exact ze V0 _
 rw[← hW0,s0] at zb;have zr1:=zr.on b1;have bw:Below w.heap.size w W0:=b0.trans (b1.mono (by omega));have HW0:Hid ((w.alloc (.cells #[.slice none 0 0,.slice none 0 0,.slice none 0 0,.int .i64 0,.slice none 0 0] 28)).alloc (.cells #[.slice none 0 0,.slice none 0 0,.slice none 0 0,.int .i64 0,.slice none 0 0] 28)=W0):=by unfold Hid;rw[hW0,hV0]
 obtain⟨bx,hbx⟩:∃ bx,bx=w.heap.size+1:=⟨_,rfl⟩;have hz:=zaW W0 (bx+1);have td0:TD w0 w W0 g bx ⟨.slice none 0 0,.slice none 0 0,.slice none 0 0,.slice none 0 0,[],[],[],0,[]⟩:=⟨by rw[hbx];exact zb,⟨hz.mem,hz.young,hz.youngs,hz.old,hz.olds,hz.snaps⟩,zpl,h.below bw,zfz g bw,zr1,apTr_zero.pair⟩;have HGW:Hid (g<w.heap.size):=hlt;have HBX:Hid (w.heap.size<bx):=by unfold Hid;omega
 have HBE:Hid (w.heap.size+1=bx):=hbx.symm;clear zr zb zr1 b0 b1 hV0 hW0 s0 bw hz h hbx;go_enter Tryz.func85,Tryz.ntmps85
 go_wp2_with fail
 rw[HW0.out,HBE.out];refine(zB w0 _ g 12 td0.dc (by omega) (by omega)).mono ?_;rintro e w1 ⟨x,rfl,hx0,hx1,dc1,hg1⟩;have td1:=td0.draw hg1 dc1 HGW.out HBX.out;obtain⟨m0,rfl⟩:=Int.eq_ofNat_of_zero_le hx0;have hm0:m0≤11:=by omega
 have HF0:Hid (Few (⟨.slice none 0 0,.slice none 0 0,.slice none 0 0,.slice none 0 0,[],[],[],0,[]⟩:TrX).tre m0):=by
  show 2*0+m0≤_;omega
 clear td0 dc1 hg1 hx0 hx1 HW0;go_wp2;go_loopw [6] (fun n wr=>∃ (m:Nat) (X:TrX),n=.int .i64 (m:Int)∧m≤11∧Hid (TD w0 w wr g bx X)∧Hid (Few X.tre m)) (fun n _=>(intOf n).toNat)
 case atStart=>exact⟨m0,_,rfl,hm0,td1,HF0⟩
 case round =>
  obtain⟨m1,X,rfl,hm1,HTD,HF1⟩:=hrel;clear td1 HF0 hm0;obtain⟨am,ay,ao,an,mn,yn,on,nn,cm,cy,co,cn,v0,v1,v2,v3⟩:=HTD.out.rows.rd.slices;have HNS0:Hid (X.vs=.slice an nn cn→nn=X.snaps.length):=fun e=>by
   obtain⟨a',c',e',_⟩:=HTD.out.rows.snaps.rd;rw[e] at e';injection e' with _ e2 _
  obtain⟨vm4,vy4,vo4,vs4,mem4,ys4,os4,seq4,snaps4⟩:=X;simp only at v0 v1 v2 v3;subst v0;subst v1;subst v2;subst v3;have HNS:Hid (nn=snaps4.length):=HNS0.out rfl;clear HNS0;by_cases hmp:0<m1
  ·obtain⟨m,rfl⟩:∃ m,m1=m+1:=⟨m1-1,by omega⟩;have hmi:(0:Int)<((m+1:Nat):Int):=(by omega);have hmw:((m+1:Nat):Int)-1=(m:Int):=(by omega);have HF:Hid (Few (⟨.slice am mn cm,.slice ay yn cy,.slice ao on co,.slice an nn cn,mem4,ys4,os4,seq4,snaps4⟩:TrX).tre (m+1)):=HF1.out;have hnn2:(nn:Int)≤4294967296:=(by have h1:=HTD.out.tree.few;have h2:snaps4.length≤10:=h1;rw[HNS.out];omega);clear HF1 hmp;go_wp2_with fail
   refine(zB w0 _ g 8 HTD.out.dc (by omega) (by omega)).mono ?_;rintro e w2 ⟨y,rfl,hy0,hy1,dc2,hg2⟩;have td:=HTD.out.draw hg2 dc2 HGW.out HBX.out;clear HTD dc2 hg2;by_cases h0:y=0
   ·subst h0;go_wp2_with fail
    refine(zmi td HGW.out HBX.out).mono ?_;rintro e w3 ⟨ok,rfl,Y,td3,hsn⟩;have HF3:Hid (Few Y.tre m):=zd8 HF.out hsn;clear hsn td;go_wp2;go_roundw
    case rel=>exact⟨m,Y,by go_num,by omega,td3,HF3⟩
    case measure=>simp[intOf]
   by_cases h1:y=1
   ·subst h1;go_wp2_with fail
    refine(zot td HGW.out HBX.out).mono ?_;rintro e w3 ⟨ok,rfl,Y,td3,hsn⟩;have HF3:Hid (Few Y.tre m):=zd8 HF.out hsn;clear hsn td;go_wp2;go_roundw
    case rel=>exact⟨m,Y,by go_num,by omega,td3,HF3⟩
    case measure=>simp[intOf]
   have q0:(y==0)=false:=(by simp[h0]);have q1:(y==1)=false:=(by simp[h1]);by_cases h2:y=2
   ·subst h2;cases sb with
    | false =>
     have HF3:Hid (Few (⟨.slice am mn cm,.slice ay yn cy,.slice ao on co,.slice an nn cn,mem4,ys4,os4,seq4,snaps4⟩:TrX).tre m):=zd8 HF.out rfl;have td3:Hid (TD _ _ _ _ _ _):=td;clear td;go_wp2;go_roundw
     case rel=>exact⟨m,_,by go_num,by omega,td3,HF3⟩
     case measure=>simp[intOf]
    | true =>
     obtain⟨y0,y1,y2,y3,y4,g0,g1,g2,g3,g4⟩:=td.box.facts;simp only at y0 y1 y2 y3 y4;go_wp2_with fail
     refine(zi2 ⟨.slice am mn cm,.slice ay yn cy,.slice ao on co,.slice an nn cn,mem4,ys4,os4,seq4,snaps4⟩ _ td.rows.rd (za2 td.tree) (fun _=>(ziQ td.tree td.rows).siz)).mono ?_;clear y0 y1 y2 y3 y4 g0 g1 g2 g3 g4;rintro e V2 ⟨Y,rfl,heY,hrY,hbY,haY⟩;obtain⟨am',ay',ao',an',mn',yn',on',nn',cm',cy',co',cn',v0',v1',v2',v3'⟩:=hrY.rd.slices;obtain⟨vm5,vy5,vo5,vs5,mem5,ys5,os5,seq5,snaps5⟩:=Y;simp only at v0' v1' v2' v3';subst v0';subst v1';subst v2';subst v3';have HFW:Hid (Few (snapR (⟨.slice am mn cm,.slice ay yn cy,.slice ao on co,.slice an nn cn,mem4,ys4,os4,seq4,snaps4⟩:TrX).tre) m):=few_snap ((zQ _).2 td.tree) HF.out;have td2:Hid (TD _ _ _ _ _ _):=td.put ⟨.slice am' mn' cm',.slice ay' yn' cy',.slice ao' on' co',.slice an' nn' cn',mem5,ys5,os5,seq5,snaps5⟩ hbY hrY (by rw[heY];exact zmm td.tree) haY.pair HGW.out HBX.out;rw[← heY] at HFW;obtain⟨y0,y1,y2,y3,y4,g0,g1,g2,g3,g4⟩:=(td.below hbY).box.facts;simp only at y0 y1 y2 y3 y4;clear heY hrY td hbY haY;go_wp2;go_roundw
     case rel=>exact⟨m,_,by go_num,by omega,td2,HFW⟩
     case measure=>simp[intOf]
   have q2:(y==2)=false:=(by simp[h2]);by_cases h3:y=3
   ·subst h3;have HF3:Hid (Few (⟨.slice am mn cm,.slice ay yn cy,.slice ao on co,.slice an nn cn,mem4,ys4,os4,seq4,snaps4⟩:TrX).tre m):=zd8 HF.out rfl;have td3:Hid (TD w0 w w2 g bx ⟨.slice am mn cm,.slice ay yn cy,.slice ao on co,.slice an nn cn,mem4,ys4,os4,seq4,snaps4⟩):=td;cases sb with
    | false =>
     clear td;go_wp2;go_roundw
     case rel=>exact⟨m,_,by go_num,by omega,td3,HF3⟩
     case measure=>simp[intOf]
    | true =>
     obtain⟨y0,y1,y2,y3,y4,g0,g1,g2,g3,g4⟩:=td.box.facts;simp only at y0 y1 y2 y3 y4;by_cases hn0:nn=0
     ·subst hn0;clear td;go_wp2;go_roundw
      case rel=>exact⟨m,_,by go_num,by omega,td3,HF3⟩
      case measure=>simp[intOf]
     have hnn1:(0:Int)<(nn:Int):=(by omega);obtain⟨gs,rfl⟩:∃ gs,an=some ⟨gs,0,none⟩:=by
      have hne:snaps4≠[]:=fun e=>hn0 (by rw[HNS.out,e];rfl)
      obtain⟨gs,cap',e⟩:=zgV td.rows.snaps hne;injection e with e1 _ _
      exact⟨gs,e1⟩
     clear td3 HF3 hn0;go_wp2_with fail
     refine brg (S:=fun _=>True) trivial (fun hS=>?_);replace td:TD w0 w w2.drew g bx ⟨.slice am mn cm,.slice ay yn cy,.slice ao on co,.slice (some ⟨gs,0,none⟩) nn cn,mem4,ys4,os4,seq4,snaps4⟩:=td.below ((Below.refl _ _).drew);clear y0 y1 y2 y3 y4 g0 g1 g2 g3 g4;revert hS td;generalize w2.drew=V;intro hS td;clear w2 wr;refine kG 1 44 hS ?_;refine kG 3 46 hS ?_;refine kG 4 47 hS ?_;refine wpAnyH_ready (rs:=[0,2,5]) (by kernel_rfl) (by simp) ?_;refine arc (fun K hK=>?_) ?_;obtain⟨y0,y1,y2,y3,y4,g0,g1,g2,g3,g4⟩:=td.box.facts;simp only at y0 y1 y2 y3 y4;go_simp;clear y0 y1 y2 y3 y4 g0 g1 g2 g3 g4 hS;refine hK.out _ _ trivial (fun hS=>?_);clear hK K;try simp only[sA,sZ,sS]
     clear hS;refine zx (l':=#[true,true,false,true,true,false,false,false,false,false,false,false,false,false,false]) (by kernel_rfl) ?_;revert td;revert V;refine ?tk0;rotate_left 1;refine arc (fun K hK=>?_) ?_;obtain⟨y0,y1,y2,y3,y4,g0,g1,g2,g3,g4⟩:=td.box.facts;simp only at y0 y1 y2 y3 y4;go_simp;clear y0 y1 y2 y3 y4 g0 g1 g2 g3 g4 hS;refine hK.out _ _ trivial (fun hS=>?_);clear hK K;try simp only[sA,sZ,sS]
     clear hS;refine zx (l':=#[false,true,true,true,true,false,false,false,false,false,false,false,false,false,false]) (by kernel_rfl) ?_;revert td;revert V;refine ?tk2;rotate_left 1;refine AllReadyH.cons rfl (fun K hK=>?_) AllReadyH.nil;obtain⟨y0,y1,y2,y3,y4,g0,g1,g2,g3,g4⟩:=td.box.facts;simp only at y0 y1 y2 y3 y4;go_simp;clear y0 y1 y2 y3 y4 g0 g1 g2 g3 g4 hS;refine hK.out _ _ trivial (fun hS=>?_);clear hK K;try simp only[sA,sZ,sS]
     refine kG 6 49 hS ?_;clear hS;refine zx (l':=#[false,true,false,true,true,true,true,false,false,false,false,false,false,false,false]) (by kernel_rfl) ?_;revert td;revert V;refine ?tk5;rotate_left 1;intro V0 td;have hS:(fun _:World=>True) V0:=trivial;refine wpAnyH_ready (rs:=[2,5]) (by kernel_rfl) (by simp) ?_;refine arc (fun K hK=>?_) ?_;obtain⟨y0,y1,y2,y3,y4,g0,g1,g2,g3,g4⟩:=td.box.facts;simp only at y0 y1 y2 y3 y4;go_simp;clear y0 y1 y2 y3 y4 g0 g1 g2 g3 g4 hS;refine hK.out _ _ trivial (fun hS=>?_);clear hK K;try simp only[sA,sZ,sS]
     clear hS;refine zx (l':=#[true,true,true,true,true,false,false,false,false,false,false,false,false,false,false]) (by kernel_rfl) ?_;revert td;revert V0;refine ?tk02;rotate_left 1;refine AllReadyH.cons rfl (fun K hK=>?_) AllReadyH.nil;obtain⟨y0,y1,y2,y3,y4,g0,g1,g2,g3,g4⟩:=td.box.facts;simp only at y0 y1 y2 y3 y4;go_simp;clear y0 y1 y2 y3 y4 g0 g1 g2 g3 g4 hS;refine hK.out _ _ trivial (fun hS=>?_);clear hK K;try simp only[sA,sZ,sS]
     refine kG 6 49 hS ?_;clear hS;refine zx (l':=#[true,true,false,true,true,true,true,false,false,false,false,false,false,false,false]) (by kernel_rfl) ?_;revert td;revert V0;refine ?tk05;rotate_left 1;intro V0 td;have hS:(fun _:World=>True) V0:=trivial;refine wpAnyH_ready (rs:=[0,5]) (by kernel_rfl) (by simp) ?_;refine arc (fun K hK=>?_) ?_;obtain⟨y0,y1,y2,y3,y4,g0,g1,g2,g3,g4⟩:=td.box.facts;simp only at y0 y1 y2 y3 y4;go_simp;clear y0 y1 y2 y3 y4 g0 g1 g2 g3 g4 hS;refine hK.out _ _ trivial (fun hS=>?_);clear hK K;try simp only[List.setIfInBounds_toArray,List.set_cons_zero]
     clear hS;refine zx (l':=#[true,true,true,true,true,false,false,false,false,false,false,false,false,false,false]) (by kernel_rfl) ?_;revert td;revert V0;exact ?tk02;refine AllReadyH.cons rfl (fun K hK=>?_) AllReadyH.nil;obtain⟨y0,y1,y2,y3,y4,g0,g1,g2,g3,g4⟩:=td.box.facts;simp only at y0 y1 y2 y3 y4;go_simp;clear y0 y1 y2 y3 y4 g0 g1 g2 g3 g4 hS;refine hK.out _ _ trivial (fun hS=>?_);clear hK K;try simp only[sA,sZ,sS]
     refine kG 6 49 hS ?_;clear hS;refine zx (l':=#[false,true,true,true,true,true,true,false,false,false,false,false,false,false,false]) (by kernel_rfl) ?_;revert td;revert V0;refine ?tk25;rotate_left 1;intro V0 td;have hS:(fun _:World=>True) V0:=trivial;refine wpAnyH_ready (rs:=[0,2,7]) (by kernel_rfl) (by simp) ?_;refine arc (fun K hK=>?_) ?_;obtain⟨y0,y1,y2,y3,y4,g0,g1,g2,g3,g4⟩:=td.box.facts;simp only at y0 y1 y2 y3 y4;go_simp;clear y0 y1 y2 y3 y4 g0 g1 g2 g3 g4 hS;refine hK.out _ _ trivial (fun hS=>?_);clear hK K;try simp only[List.setIfInBounds_toArray,List.set_cons_zero]
     clear hS;refine zx (l':=#[true,true,false,true,true,true,true,false,false,false,false,false,false,false,false]) (by kernel_rfl) ?_;revert td;revert V0;exact ?tk05;refine arc (fun K hK=>?_) ?_;obtain⟨y0,y1,y2,y3,y4,g0,g1,g2,g3,g4⟩:=td.box.facts;simp only at y0 y1 y2 y3 y4;go_simp;clear y0 y1 y2 y3 y4 g0 g1 g2 g3 g4 hS;refine hK.out _ _ trivial (fun hS=>?_);clear hK K;try simp only[sA,sZ,sS]
     clear hS;refine zx (l':=#[false,true,true,true,true,true,true,false,false,false,false,false,false,false,false]) (by kernel_rfl) ?_;revert td;revert V0;exact ?tk25;refine AllReadyH.cons rfl (fun K hK=>?_) AllReadyH.nil;go_simp;refine(zB w0 _ g _ td.dc hnn1 hnn2).mono ?_;rintro e V1 ⟨x,rfl,hx0,hx1,dc1,hg⟩;obtain⟨j,rfl⟩:=Int.eq_ofNat_of_zero_le hx0;have hj:j<nn:=(by omega);replace td:=td.draw hg dc1 HGW.out HBX.out;clear hg dc1 hS hx0 hx1;refine hK.out _ _ trivial (fun hS=>?_);clear hK K;try simp only[sA,sZ,sS]
     clear hS;refine zx (l':=#[false,true,false,true,true,true,true,true,false,false,false,false,false,false,false]) (by kernel_rfl) ?_;revert hj;revert td;revert j;revert V1;clear V0;refine ?tk57;rotate_left 1;intro V0 td;have hS:(fun _:World=>True) V0:=trivial;refine rdy 5 (fun K hK=>?_);obtain⟨y0,y1,y2,y3,y4,g0,g1,g2,g3,g4⟩:=td.box.facts;simp only at y0 y1 y2 y3 y4;go_simp;clear y0 y1 y2 y3 y4 g0 g1 g2 g3 g4 hS;refine hK.out _ _ trivial (fun hS=>?_);clear hK K;try simp only[sA,sZ,sS]
     refine kG 6 49 hS ?_;clear hS;refine zx (l':=#[true,true,true,true,true,true,true,false,false,false,false,false,false,false,false]) (by kernel_rfl) ?_;revert td;revert V0;refine ?tk025;rotate_left 1;intro V0 td;have hS:(fun _:World=>True) V0:=trivial;refine wpAnyH_ready (rs:=[2,7]) (by kernel_rfl) (by simp) ?_;refine arc (fun K hK=>?_) ?_;obtain⟨y0,y1,y2,y3,y4,g0,g1,g2,g3,g4⟩:=td.box.facts;simp only at y0 y1 y2 y3 y4;go_simp;clear y0 y1 y2 y3 y4 g0 g1 g2 g3 g4 hS;refine hK.out _ _ trivial (fun hS=>?_);clear hK K;try simp only[sA,sZ,sS]
     clear hS;refine zx (l':=#[true,true,true,true,true,true,true,false,false,false,false,false,false,false,false]) (by kernel_rfl) ?_;revert td;revert V0;exact ?tk025;refine AllReadyH.cons rfl (fun K hK=>?_) AllReadyH.nil;go_simp;refine(zB w0 _ g _ td.dc hnn1 hnn2).mono ?_;rintro e V1 ⟨x,rfl,hx0,hx1,dc1,hg⟩;obtain⟨j,rfl⟩:=Int.eq_ofNat_of_zero_le hx0;have hj:j<nn:=(by omega);replace td:=td.draw hg dc1 HGW.out HBX.out;clear hg dc1 hS hx0 hx1;refine hK.out _ _ trivial (fun hS=>?_);clear hK K;try simp only[sA,sZ,sS]
     clear hS;refine zx (l':=#[true,true,false,true,true,true,true,true,false,false,false,false,false,false,false]) (by kernel_rfl) ?_;revert hj;revert td;revert j;revert V1;clear V0;refine ?tk057;rotate_left 1;intro V0 td;have hS:(fun _:World=>True) V0:=trivial;refine wpAnyH_ready (rs:=[0,7]) (by kernel_rfl) (by simp) ?_;refine arc (fun K hK=>?_) ?_;obtain⟨y0,y1,y2,y3,y4,g0,g1,g2,g3,g4⟩:=td.box.facts;simp only at y0 y1 y2 y3 y4;go_simp;clear y0 y1 y2 y3 y4 g0 g1 g2 g3 g4 hS;refine hK.out _ _ trivial (fun hS=>?_);clear hK K;try simp only[List.setIfInBounds_toArray,List.set_cons_zero]
     clear hS;refine zx (l':=#[true,true,true,true,true,true,true,false,false,false,false,false,false,false,false]) (by kernel_rfl) ?_;revert td;revert V0;exact ?tk025;refine AllReadyH.cons rfl (fun K hK=>?_) AllReadyH.nil;go_simp;refine(zB w0 _ g _ td.dc hnn1 hnn2).mono ?_;rintro e V1 ⟨x,rfl,hx0,hx1,dc1,hg⟩;obtain⟨j,rfl⟩:=Int.eq_ofNat_of_zero_le hx0;have hj:j<nn:=(by omega);replace td:=td.draw hg dc1 HGW.out HBX.out;clear hg dc1 hS hx0 hx1;refine hK.out _ _ trivial (fun hS=>?_);clear hK K;try simp only[sA,sZ,sS]
     refine kG 8 51 hS ?_;clear hS;refine zx (l':=#[false,true,true,true,true,true,true,true,true,false,false,false,false,false,false]) (by kernel_rfl) ?_;revert hj;revert td;revert j;revert V1;clear V0;refine ?tk257;rotate_left 1;intro V0 j td hj;have hS:(fun _:World=>True) V0:=trivial;refine wpAnyH_ready (rs:=[0,2]) (by kernel_rfl) (by simp) ?_;refine arc (fun K hK=>?_) ?_;obtain⟨y0,y1,y2,y3,y4,g0,g1,g2,g3,g4⟩:=td.box.facts;simp only at y0 y1 y2 y3 y4;go_simp;clear y0 y1 y2 y3 y4 g0 g1 g2 g3 g4 hS;refine hK.out _ _ trivial (fun hS=>?_);clear hK K;try simp only[List.setIfInBounds_toArray,List.set_cons_zero]
     clear hS;refine zx (l':=#[true,true,false,true,true,true,true,true,false,false,false,false,false,false,false]) (by kernel_rfl) ?_;revert hj;revert td;revert j;revert V0;exact ?tk057;refine AllReadyH.cons rfl (fun K hK=>?_) AllReadyH.nil;obtain⟨y0,y1,y2,y3,y4,g0,g1,g2,g3,g4⟩:=td.box.facts;simp only at y0 y1 y2 y3 y4;go_simp;clear y0 y1 y2 y3 y4 g0 g1 g2 g3 g4 hS;refine hK.out _ _ trivial (fun hS=>?_);clear hK K;try simp only[sA,sZ,sS]
     refine kG 8 51 hS ?_;clear hS;refine zx (l':=#[false,true,true,true,true,true,true,true,true,false,false,false,false,false,false]) (by kernel_rfl) ?_;revert hj;revert td;revert j;revert V0;exact ?tk257;intro V0 td;have hS:(fun _:World=>True) V0:=trivial;refine rdy 7 (fun K hK=>?_);go_simp;refine(zB w0 _ g _ td.dc hnn1 hnn2).mono ?_;rintro e V1 ⟨x,rfl,hx0,hx1,dc1,hg⟩;obtain⟨j,rfl⟩:=Int.eq_ofNat_of_zero_le hx0;have hj:j<nn:=(by omega);replace td:=td.draw hg dc1 HGW.out HBX.out;clear hg dc1 hS hx0 hx1;refine hK.out _ _ trivial (fun hS=>?_);clear hK K;try simp only[sA,sZ,sS]
     refine kG 8 51 hS ?_;clear hS;refine zx (l':=#[true,true,true,true,true,true,true,true,true,false,false,false,false,false,false]) (by kernel_rfl) ?_;revert hj;revert td;revert j;revert V1;clear V0;refine ?tk0257;rotate_left 1;intro V0 j td hj;have hS:(fun _:World=>True) V0:=trivial;refine rdy 2 (fun K hK=>?_);obtain⟨y0,y1,y2,y3,y4,g0,g1,g2,g3,g4⟩:=td.box.facts;simp only at y0 y1 y2 y3 y4;go_simp;clear y0 y1 y2 y3 y4 g0 g1 g2 g3 g4 hS;refine hK.out _ _ trivial (fun hS=>?_);clear hK K;try simp only[sA,sZ,sS]
     refine kG 8 51 hS ?_;clear hS;refine zx (l':=#[true,true,true,true,true,true,true,true,true,false,false,false,false,false,false]) (by kernel_rfl) ?_;revert hj;revert td;revert j;revert V0;exact ?tk0257;intro V0 j td hj;have hS:(fun _:World=>True) V0:=trivial;refine wpAnyH_ready (rs:=[0,9]) (by kernel_rfl) (by simp) ?_;refine arc (fun K hK=>?_) ?_;obtain⟨y0,y1,y2,y3,y4,g0,g1,g2,g3,g4⟩:=td.box.facts;simp only at y0 y1 y2 y3 y4;go_simp;clear y0 y1 y2 y3 y4 g0 g1 g2 g3 g4 hS;refine hK.out _ _ trivial (fun hS=>?_);clear hK K;try simp only[List.setIfInBounds_toArray,List.set_cons_zero]
     clear hS;refine zx (l':=#[true,true,true,true,true,true,true,true,true,false,false,false,false,false,false]) (by kernel_rfl) ?_;revert hj;revert td;revert j;revert V0;exact ?tk0257;refine AllReadyH.cons rfl (fun K hK=>?_) AllReadyH.nil;obtain⟨s9,HS9⟩:∃ s9,Hid (s9=snaps4.getD j 0):=⟨_,rfl⟩;have hcl:=zff td.rows.snaps HNS.out j hj;rw[← HS9.out] at hcl;have hs9:Hid (s9∈snaps4):=(by unfold Hid;rw[HS9.out];exact zlS (by have:=HNS.out;omega));go_simp;clear hcl HS9 hS;refine hK.out _ _ trivial (fun hS=>?_);clear hK K;try simp only[sA,sZ,sS]
     clear hS;refine zx (l':=#[false,true,true,true,true,true,true,true,true,true,false,false,false,false,false]) (by kernel_rfl) ?_;revert hs9;revert hj;revert td;revert s9;revert j;revert V0;refine ?tk2579;rotate_left 1;intro V0 j td hj;have hS:(fun _:World=>True) V0:=trivial;refine rdy 9 (fun K hK=>?_);obtain⟨s9,HS9⟩:∃ s9,Hid (s9=snaps4.getD j 0):=⟨_,rfl⟩;have hcl:=zff td.rows.snaps HNS.out j hj;rw[← HS9.out] at hcl;have hs9:Hid (s9∈snaps4):=(by unfold Hid;rw[HS9.out];exact zlS (by have:=HNS.out;omega));go_simp;clear hcl HS9 hS;refine hK.out _ _ trivial (fun hS=>?_);clear hK K;try simp only[sA,sZ,sS]
     clear hS;refine zx (l':=#[true,true,true,true,true,true,true,true,true,true,false,false,false,false,false]) (by kernel_rfl) ?_;revert hs9;revert hj;revert td;revert s9;revert j;revert V0;refine ?tk02579;rotate_left 1;intro V0 j s9 td hj hs9;have hS:(fun _:World=>True) V0:=trivial;refine rdy 0 (fun K hK=>?_);obtain⟨y0,y1,y2,y3,y4,g0,g1,g2,g3,g4⟩:=td.box.facts;simp only at y0 y1 y2 y3 y4;go_simp;clear y0 y1 y2 y3 y4 g0 g1 g2 g3 g4 hS;refine hK.out _ _ trivial (fun hS=>?_);clear hK K;try simp only[List.setIfInBounds_toArray,List.set_cons_zero]
     clear hS;refine zx (l':=#[true,true,true,true,true,true,true,true,true,true,false,false,false,false,false]) (by kernel_rfl) ?_;revert hs9;revert hj;revert td;revert s9;revert j;revert V0;exact ?tk02579;intro V0 j s9 td hj hs9;have hS:(fun _:World=>True) V0:=trivial;refine rdy 10 (fun K hK=>?_);go_simp;refine(zj4 ⟨.slice am mn cm,.slice ay yn cy,.slice ao on co,.slice (some ⟨gs,0,none⟩) nn cn,mem4,ys4,os4,seq4,snaps4⟩ s9 _ td.rows.rd (za2 td.tree) (fun _=>(ziQ td.tree td.rows).siz)).mono ?_;rintro e V2 ⟨Y,rfl,heY,hrY,hbY,haY⟩;obtain⟨am',ay',ao',an',mn',yn',on',nn',cm',cy',co',cn',v0',v1',v2',v3'⟩:=hrY.rd.slices;obtain⟨vm5,vy5,vo5,vs5,mem5,ys5,os5,seq5,snaps5⟩:=Y;simp only at v0' v1' v2' v3';subst v0';subst v1';subst v2';subst v3';have HFW:Hid (Few (freeR (⟨.slice am mn cm,.slice ay yn cy,.slice ao on co,.slice (some ⟨gs,0,none⟩) nn cn,mem4,ys4,os4,seq4,snaps4⟩:TrX).tre s9) m):=few_free ((zQ _).2 td.tree) HF.out hs9.out;have td2:=td.put ⟨.slice am' mn' cm',.slice ay' yn' cy',.slice ao' on' co',.slice an' nn' cn',mem5,ys5,os5,seq5,snaps5⟩ hbY hrY (by rw[heY];exact zme td.tree s9) haY.pair HGW.out HBX.out;rw[← heY] at HFW;obtain⟨y0,y1,y2,y3,y4,g0,g1,g2,g3,g4⟩:=(td.below hbY).box.facts;simp only at y0 y1 y2 y3 y4;clear heY hrY td hS haY;refine hK.out _ _ trivial (fun hS=>?_);clear hK K;refine kG 11 42 hS ?_;refine kG 12 54 hS ?_;refine kG 13 55 hS ?_;refine rdy 14 (fun K hK=>?_);go_simp;refine hK.out _ _ trivial (fun hS=>?_);clear hK K hS y0 y1 y2 y3 y4 g0 g1 g2 g3 g4 hbY
     refine dne ?_;unfold put5 at td2;revert td2;generalize ((((V2.setCell ⟨bx,0,none⟩ (.slice am' mn' cm')).setCell ⟨bx,1,none⟩ (.slice ay' yn' cy')).setCell ⟨bx,2,none⟩ (.slice ao' on' co')).setCell ⟨bx,3,none⟩ (.int .i64 seq5)).setCell ⟨bx,4,none⟩ (.slice an' nn' cn')=P;intro td2;go_wp2;go_roundw
     case rel=>exact⟨m,_,by go_num,by omega,td2,HFW⟩
     case measure=>simp[intOf]
   have q3:(y==3)=false:=(by simp[h3]);go_wp2_with fail
   refine(zgQ w0 _ g td.dc).mono ?_;rintro e w3 ⟨v,xs,rfl,how,hxl,hsm,dc3,hg3⟩;have td3:=td.draw hg3 dc3 HGW.out HBX.out;have hbl:=td.box.lt;clear td dc3 hg3;go_wp2_with fail
   refine(zm0 td3 HGW.out HBX.out how hbl (fun x hx=>⟨by have:=(hsm x hx).1;omega,by have:=(hsm x hx).2;omega⟩)).mono ?_;rintro e w4 ⟨ok,rfl,Y,td4,hsn⟩;have HF4:Hid (Few Y.tre m):=zd8 HF.out hsn;clear hsn td3 how hsm hbl;go_wp2;go_roundw
   case rel=>exact⟨m,Y,by go_num,by omega,td4,HF4⟩
   case measure=>simp[intOf]
  ·have hm0:m1=0:=(by omega);subst hm0;have HEND:Hid (TreD w0 w g (.returned (.agg #[.slice am mn cm,.slice ay yn cy,.slice ao on co,.int .i64 seq4,.slice an nn cn])) (put5 wr w.heap.size (.slice am mn cm) (.slice ay yn cy) (.slice ao on co) (.int .i64 seq4) (.slice an nn cn))):=by
    have td:=HTD.out;have hc:w.heap.size<bx+1:=(by have:=HBX.out;omega);refine⟨⟨.slice am mn cm,.slice ay yn cy,.slice ao on co,.slice an nn cn,mem4,ys4,os4,seq4,snaps4⟩,rfl,RowsTr.mono (lo:=bx+1) ⟨zt td.rows.mem hc,zt td.rows.young hc,td.rows.youngs.put5 hc,zt td.rows.old hc,td.rows.olds.put5 hc,zt td.rows.snaps hc⟩ (by omega),td.tree,few_end HF1.out,td.ap,?_,?_⟩
    ·exact td.dc.grow (zdN touch_put5) (fun k hk=>by have:=Option.some.inj hk;have:=HGW.out;omega)
    ·exact zaN td.gr (zdN touch_put5) (fun k hk=>by have:=Option.some.inj hk;omega)
   obtain⟨y0,y1,y2,y3,y4,g0,g1,g2,g3,g4⟩:=HTD.out.box.facts;obtain⟨m0,m1,m2,m3,m4,n0,n1,n2,n3,n4⟩:=HTD.out.res.facts;have hzF:=zF HTD.out.res (.slice am mn cm) (.slice ay yn cy) (.slice ao on co) (.slice an nn cn) seq4;obtain⟨f0,f1,f2,f3,f4,-⟩:=hzF.facts;unfold put5 at f0 f1 f2 f3 f4;simp only at y0 y1 y2 y3 y4;clear HTD HF1 hzF;go_wp2;exact bodyPost_ret (v:=.agg #[.slice am mn cm,.slice ay yn cy,.slice ao on co,.int .i64 seq4,.slice an nn cn]) (by simp[results,Tryz.results85,go_sem,f0,f1,f2,f3,f4]) rfl HEND.out
open Go.RowKit
theorem zm9{last:ByteArray}{e:Ent}(h:PkE e):(packE last e).length≤2036:=by
 have hs:=zkr h;obtain⟨p1,p2,p3,p4⟩:=h;have hc:=zhc last e.key;have h1:=zak (com last e.key) (by omega);have h2:=zak (e.key.size-com last e.key) (by omega);have h3:=zak (stp e) (by omega);have h4:=zak e.val.size (by omega);unfold packE;simp only[lA,List.length_drop,zH];omega
theorem zhP:∀ (es:List Ent) (i:Nat) (last:ByteArray),(∀ e∈es,PkE e)→(packF i last es).length≤2036*es.length
 | [],_,_,_=>by simp[packF]
 | e::r,i,last,h=>by
  have h1:=zm9 (last:=ahead i last) (h e List.mem_cons_self);have h2:=zhP r (i+1) e.key (fun x hx=>h x (List.mem_cons_of_mem _ hx));rw[packF,lA,List.length_cons];omega
theorem zmg{es:List Ent}(h:∀ e∈es,PkE e)(hn:es.length≤8):(packA es).length≤20000:=by
 have h1:=zhP es 0 ⟨#[]⟩ h;have h3:=zak es.length (by omega);unfold packA;rw[lA];omega
theorem ziV{es:List Ent}(h:∀ e∈es,PkE e):∀ (n i:Nat),∀ s∈blkF es n i,s.size≤20000
 | 0,_,s,hs=>by simp[blkF] at hs
 | n+1,i,s,hs=>by
  rw[blkF,List.mem_cons] at hs;rcases hs with rfl | hs
  ·have:=zmg (es:=chunk es i) (fun e he=>h e (List.mem_of_mem_drop (List.mem_of_mem_take he))) (by unfold chunk;rw[List.length_take];omega);simpa [ByteArray.size] using this
  ·exact ziV h n (i+8) s hs
theorem zmO{es:List Ent}(h:∀ e∈es,PkE e):∀ s∈blksL es,s.size≤20000:=ziV h _ _
theorem zpf{es:List Ent}(h:0<es.length):0<(blksL es).length:=by unfold blksL;rw[zim];omega
theorem zpg{es:List Ent}(h:0<es.length):0<(bitsL es).length:=by
 have hm:mk1 es[0].key∈bitsL es:=(ze4 es _).2 ⟨es[0],List.getElem_mem h,(zdP _ _).2 (.inr rfl)⟩;exact List.length_pos_of_mem hm
def YS(w:World)(B:Nat)(v:Value)(ss:List ByteArray):Prop :=
 ∃ a cap,v=.slice a ss.length cap∧ss.length≤cap∧cap≤maxLen ∧
  (ss=[]∨∃ b off,B≤b∧a=some ⟨b,off,none⟩∧∀ i (h:i<ss.length),w.cell? ⟨b,off+i,none⟩=some (.string ss[i]))
theorem YS.rd{w:World}{B:Nat}{v:Value}{ss:List ByteArray}(h:YS w B v ss):RdS w v ss:=by
 obtain⟨a,cap,hv,h1,h2,h3⟩:=h;refine⟨a,cap,hv,h1,h2,?_⟩;rcases h3 with h3 | ⟨b,off,_,ha,hc⟩
 ·exact .inl h3
 ·exact .inr ⟨b,off,ha,hc⟩
theorem OwnS.young{w:World}{B:Nat}{v:Value}{ss:List ByteArray}(h:OwnS w B v ss):YS w B v ss:=by
 have h':=h;rcases h.2 with ⟨rfl,h0⟩ | ⟨g,cap,cur,rfl,hb,hg,hn,hc,hs,ht⟩
 ·have:ss=[]:=List.length_eq_zero_iff.1 h0;subst this;exact⟨none,0,rfl,nR _,Nat.zero_le _,.inl rfl⟩
 ·refine⟨some ⟨g,0,none⟩,cap,rfl,hn,hc,.inr ⟨g,0,hb,rfl,fun i hi=>?_⟩⟩;have:=h'.cellAt i (by omega);rw[zjw ss i hi] at this;simpa using this
theorem YS.blocks{w w':World}{B:Nat}{v:Value}{ss:List ByteArray}(h:YS w B v ss)(hb:∀ b,B≤b→b<w.heap.size→w'.heap[b]? = w.heap[b]?):YS w' B v ss:=by
 obtain⟨a,cap,hv,h1,h2,h3⟩:=h;refine⟨a,cap,hv,h1,h2,?_⟩;rcases h3 with h3 | ⟨b,off,hB,ha,hc⟩
 ·exact .inl h3
 ·exact .inr ⟨b,off,hB,ha,fun i hi=>(World.cell?_of_block (a:=⟨b,off+i,none⟩) (hb b hB (World.block_lt_of_cell? w _ (hc i hi)))).trans (hc i hi)⟩
theorem YS.g{w w':World}{B g:Nat}{v:Value}{ss:List ByteArray}(h:YS w B v ss)(hg:w.grownBy w' (some g))(hB:g<B):YS w' B v ss :=
 h.blocks (fun b hb hl=>hg.block b hl (by simp;omega))
theorem YS.below{w w':World}{B:Nat}{v:Value}{ss:List ByteArray}(h:YS w B v ss)(hb:Below w.heap.size w w'):YS w' B v ss :=
 h.blocks (fun b _ hl=>hb.block b hl)
theorem YS.mono{w:World}{B B':Nat}{v:Value}{ss:List ByteArray}(h:YS w B v ss)(hB:B'≤B):YS w B' v ss:=by
 obtain⟨a,cap,hv,h1,h2,h3⟩:=h;refine⟨a,cap,hv,h1,h2,?_⟩;rcases h3 with h3 | ⟨b,off,hb,r⟩
 ·exact .inl h3
 ·exact .inr ⟨b,off,nT hB hb,r⟩
theorem YS.tail{w:World}{B b off cap:Nat}{ss:List ByteArray}(h:YS w B (.slice (some ⟨b,off,none⟩) ss.length cap) ss)(h0:0<ss.length)(hc:1<cap):YS w B (.slice (some ⟨b,off+1,none⟩) (ss.length-1) (cap-1)) (ss.drop 1):=by
 obtain⟨a',cap',hv,h1,h2,h3⟩:=h;simp only[Value.slice.injEq] at hv;obtain⟨rfl,_,rfl⟩:=hv;rcases h3 with rfl | ⟨b',off',hB,ha,hcell⟩
 ·simp at h0
 ·simp only[Option.some.injEq,Addr.mk.injEq] at ha;obtain⟨rfl,rfl,_⟩:=ha;refine⟨_,_,by rw[List.length_drop],by rw[List.length_drop];omega,by omega,.inr ⟨b,off+1,hB,rfl,fun i hi=>?_⟩⟩;rw[List.length_drop] at hi;have:=hcell (i+1) (by omega);rw[show off+1+i=off+(i+1) by omega,this];simp
theorem zhC{w w':World}{B g:Nat}{v:Value}{ns:List Int}(h:OwnI w B v ns)(hg:w.grownBy w' (some g))(hB:g<B):OwnI w' B v ns :=
 zl h hg (fun k hk e=>by have:=(oL h k hk).1;simp at e;omega)
theorem zhE{w w':World}{B g:Nat}{v:Value}{ss:List ByteArray}(h:OwnS w B v ss)(hg:w.grownBy w' (some g))(hB:g<B):OwnS w' B v ss :=
 zl h hg (fun k hk e=>by have:=(oL h k hk).1;simp at e;omega)
def TabD(w0 w:World)(g:Nat)(e:Ending)(w':World):Prop :=
 ∃ (T:Tbl) (vb vk:Value),e=.returned (.agg #[.string T.first,.string T.last,vb,vk])∧OwnI w' w.heap.size vb T.bits∧YS w' w.heap.size vk T.blocks∧(∀ s∈T.blocks,s.size≤1000000)∧DCur w0 w' g∧w.grownBy w' (some g)
theorem YS.set{w:World}{B c j:Nat}{v u:Value}{ss:List ByteArray}(h:YS w B v ss)(hc:c<B):YS (w.setCell ⟨c,j,none⟩ u) B v ss :=
 h.blocks (fun b hb _=>heap_setCell_other w ⟨c,j,none⟩ b u (by intro e;simp at e;omega))
theorem zoI{w:World}{b:Nat}{f f' l:ByteArray}{vb vk:Value}(h:BoxT w b f l vb vk):BoxT (w.setCell ⟨b,0,none⟩ (.string f')) b f' l vb vk:=by
 unfold BoxT;rw[heap_setCell_same w b 0 _ _ _ h];rfl
theorem YS.tail2{w:World}{B b cap:Nat}{ss:List ByteArray}(h:YS w B (.slice (some ⟨b,0,none⟩) ss.length cap) ss)(h0:0<ss.length)(hc:1<cap):YS w B (.slice (some ⟨b,1,none⟩) (ss.drop 1).length (cap-1)) (ss.drop 1):=by
 have:=h.tail h0 hc;rwa [List.length_drop]
theorem zkM{w:World}{B g cap:Nat}{ss:List ByteArray}(h:OwnS w B (.slice (some ⟨g,0,none⟩) ss.length cap) ss)(j:Nat)(s:ByteArray):OwnS (w.setCell ⟨g,j,none⟩ (.string s)) B (.slice (some ⟨g,0,none⟩) (ss.set j s).length cap) (ss.set j s):=by
 have h2:=(World.ownsRow.stored h j (.string s)).1;rw[← SV_set] at h2;unfold OwnS;rw[List.length_set];exact h2
theorem znJ{ss:List ByteArray}{j:Nat}{s:ByteArray}{n:Nat}(h:∀ x∈ss,x.size≤n)(hs:s.size≤n):∀ x∈ss.set j s,x.size≤n:=fun x hx=>by
 rcases List.mem_or_eq_of_mem_set hx with h1 | rfl
 ·exact h x h1
 ·exact hs
theorem Small.pk{x:Ent}(h:Small x):PkE x:=h
end Go.Proofs.YtjlnchhgkfnldaaGreat
