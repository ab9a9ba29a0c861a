import Derived.Test.YtannfbpohhnnkaaGreatDoorG36
namespace Go.Proofs.YtannfbpohhnnkaaGreatDoor
set_option maxHeartbeats 16000000
set_option maxRecDepth 100000
open Go.RowKit
theorem arr_allW{A:Array Value}{n:Nat}(h:A.size=n):A=((List.range n).map fun i=>A.getD i undef).toArray:=by
 apply Array.ext
 ·simp[h]
 ·intro i h1 h2;simp[h1]
theorem fr_wrs{a:Act}{x0 x3 x4:Value}(hs:a.tmps.size=37)(hd:a.defers=[])(h0:a.tmps.getD 0 undef=x0)(h3:a.tmps.getD 3 undef=x3)(h4:a.tmps.getD 4 undef=x4) :
 ∃ f:Nat→Value,a = { tmps:=#[x0,f 1,f 2,x3,x4,f 5,f 6,f 7,f 8,f 9,f 10,f 11,f 12,f 13,f 14,f 15,f 16,f 17,f 18,f 19,f 20,f 21,f 22,f 23,f 24,f 25,f 26,f 27,f 28,f 29,f 30,f 31,f 32,f 33,f 34,f 35,f 36],defers:=[] }:=by
 obtain⟨A,ds⟩:=a;refine⟨fun i=>A.getD i undef,?_⟩;have e:=arr_allW hs;have e2:((List.range 37).map fun i=>A.getD i undef).toArray = #[A.getD 0 undef,A.getD 1 undef,A.getD 2 undef,A.getD 3 undef,A.getD 4 undef,A.getD 5 undef,A.getD 6 undef,A.getD 7 undef,A.getD 8 undef,A.getD 9 undef,A.getD 10 undef,A.getD 11 undef,A.getD 12 undef,A.getD 13 undef,A.getD 14 undef,A.getD 15 undef,A.getD 16 undef,A.getD 17 undef,A.getD 18 undef,A.getD 19 undef,A.getD 20 undef,A.getD 21 undef,A.getD 22 undef,A.getD 23 undef,A.getD 24 undef,A.getD 25 undef,A.getD 26 undef,A.getD 27 undef,A.getD 28 undef,A.getD 29 undef,A.getD 30 undef,A.getD 31 undef,A.getD 32 undef,A.getD 33 undef,A.getD 34 undef,A.getD 35 undef,A.getD 36 undef]:=rfl;subst hd;show Act.mk A []=_;rw[← h0,← h3,← h4];exact congrArg (fun T=>Act.mk T []) (e.trans e2)
def BxW(w:World)(b:Nat)(x:Wri):Prop:=w.heap[b]? = some (.cells #[.string x.key,.string x.val,.bool x.gone] 77 (0,0))
theorem BxW.lt{w:World}{b:Nat}{x:Wri}(h:BxW w b x):b<w.heap.size:=(Array.getElem?_eq_some_iff.1 h).1
theorem boxFW{w:World}{b:Nat}{x:Wri}(h:BxW w b x):w.cell? ⟨b,0,none⟩=some (.string x.key)∧w.cell? ⟨b,1,none⟩=some (.string x.val)∧w.cell? ⟨b,2,none⟩=some (.bool x.gone)∧w.frozen? ⟨b,0,none⟩=false∧w.frozen? ⟨b,1,none⟩=false∧w.frozen? ⟨b,2,none⟩=false:=by
 unfold BxW at h;refine⟨?_,?_,?_,?_,?_,?_⟩<;>simp[World.cell?,World.frozen?,h]
theorem bxW_new(w:World)(x:Wri):BxW (w.alloc (.cells #[.string x.key,.string x.val,.bool x.gone] 77)) w.heap.size x:=heap_alloc_new w _
def put3(w:World)(b:Nat)(u0 u1 u2:Value):World:=((w.setCell ⟨b,0,none⟩ u0).setCell ⟨b,1,none⟩ u1).setCell ⟨b,2,none⟩ u2
theorem bxW_put3{w:World}{b:Nat}{x:Wri}(h:BxW w b x)(y:Wri):BxW (put3 w b (.string y.key) (.string y.val) (.bool y.gone)) b y:=by
 unfold BxW at h ⊢;have h0:=heap_setCell_same w b 0 _ _ (.string y.key) h;have h1:=heap_setCell_same _ b 1 _ _ (.string y.val) h0;exact heap_setCell_same _ b 2 _ _ (.bool y.gone) h1
theorem bxW_gone{w:World}{b:Nat}{x:Wri}(h:BxW w b x)(g:Bool):BxW (w.setCell ⟨b,2,none⟩ (.bool g)) b ⟨x.key,x.val,g⟩:=by
 unfold BxW at h ⊢;exact heap_setCell_same _ b 2 _ _ (.bool g) h
theorem zqP{w:World}{B t s n c:Nat}{v u0 u1 u2:Value}{xs:List Value}(ho:w.ownsRow B t s v n xs)(hc:∀ k,v.ownBlock=some k→k≠c):(put3 w c u0 u1 u2).ownsRow B t s v n xs:=zg (zg (zg ho (fun k hk e=>hc k hk e.symm)) (fun k hk e=>hc k hk e.symm)) (fun k hk e=>hc k hk e.symm)
theorem zdO{w0 w:World}{c j:Nat}{u:Value}(hb:Below w0.heap.size w0 w)(hc:w0.heap.size≤c):Below w0.heap.size w0 (w.setCell ⟨c,j,none⟩ u):=(Touch.set (bs:=[c]) (by simp)).below hb (fun k hk=>by rw[List.mem_singleton.1 hk];exact hc)
theorem znp{w0 w:World}{c:Nat}{u0 u1 u2:Value}(hb:Below w0.heap.size w0 w)(hc:w0.heap.size≤c):Below w0.heap.size w0 (put3 w c u0 u1 u2):=zdO (zdO (zdO hb hc) hc) hc
theorem zin{w:World}{B:Nat}{v:Value}{es:List Wri}(h:OwnW w B v es):∃ a n c,v=.slice a n c:=by
 obtain⟨a,c,e,_⟩:=h.rd;exact⟨a,_,c,e⟩
theorem zcC{w:World}{ops:Array Oper}{rest:List Oper}{o:Oper}{a:Act}{Q:Exit→Act→World→Prop}(hgd:o.guard=none)(s x:Operand)
 (ho:o.op=.call { callee:=.builtin .append,args:=#[s,x],argTypes:=#[47,47] }) (base:Nat) (v:Value) (b:Nat) (ys:List Wri) (z:Wri) (hs:a.eval s=v) (hx:a.eval x=.slice (some ⟨b,0,none⟩) 1 1) (hown:OwnW w base v ys) (hr:WriAt w b 0 z) (hl:ys.length+1≤1000000000) (hbase:base≤w.heap.size)
 (h:∀ v' w',OwnW w' base v' (ys++[z])→w.grownBy w' v.ownBlock→(v'.ownBlock=v.ownBlock∨v'.ownBlock=some w.heap.size)→wpList Tryz.prog ops Q rest (a.put o.dst v') w'):wpList Tryz.prog ops Q (o::rest) a w:=by
 obtain⟨i0,hi,hz0,hz1,hz2⟩:=info_parts Tryz.infoW77;refine wpList_append_own_at w hgd s x 47 ho base 77 i0 _ 3 40 Tryz.underlying47 hi hz0 hz1 hz2 rfl (by decide) v ys.length (WV ys) hs hown ⟨b,0,none⟩ 1 1 (WC z) hx rfl ?_ ?_ (by unfold maxLen;omega) (by omega) hbase ?_
 ·intro j u hj;refine zfW (es:=[z]) (off:=0) (fun i hi=>?_) j u (by rw[WV_one];exact hj);have:i=0:=by simpa using hi
  subst this;exact hr
 ·intro u hu;simp only[WC,List.mem_cons,List.not_mem_nil,or_false] at hu;rcases hu with rfl | rfl | rfl<;>rfl
 ·intro v' w' h1 h2 _ h3;refine h v' w' (zkp (zs:=[z]) ?_) h2 h3;rw[WV_one];exact h1
def zm3:Value→Nat
 | .slice _ n _=>n
 | _=>0
def WS(ss:List ByteArray)(l:Nat)(w:World)(c:Nat)(done:List Wri)(rest:List ByteArray):Prop :=
 (l=0∧(∃ y,BxW w c y)∧wrs ss=(wrs rest).map fun t=>done++t)∨(l=1∧wrs ss=none) ∨
 (l=2∧∃ a b g r,rest=a::b::g::r∧BxW w c ⟨a,b,false⟩∧wrs ss=(wrs r).map fun t=>(done++[⟨a,b,true⟩])++t) ∨
 (l=3∧∃ a b g r,rest=a::b::g::r∧BxW w c ⟨a,b,false⟩∧wrs ss=(wrs r).map fun t=>(done++[⟨a,b,false⟩])++t)
def WJ(w0:World)(ss:List ByteArray)(l:Nat)(a:Act)(w:World):Prop :=
 a.tmps.size=37∧a.defers=[]∧Below w0.heap.size w0 w∧∃ (av:Option Addr) (cap:Nat) (u:Value) (done:List Wri) (rest:List ByteArray) (c:Nat),
  a.tmps.getD 0 undef=.slice av rest.length cap∧a.tmps.getD 3 undef=u∧a.tmps.getD 4 undef=.pointer (some ⟨c,0,none⟩)∧w0.heap.size≤c∧c<w.heap.size∧RdS w0 (.slice av rest.length cap) rest∧OwnW w w0.heap.size u done∧(∀ k,u.ownBlock=some k→k≠c)∧done.length+rest.length≤200∧Hid (WS ss l w c done rest)
def wm(l:Nat)(a:Act)(_:World):Nat:=if l=0 then 2*zm3 (a.tmps.getD 0 undef)+1 else if l=1 then 0 else 2*zm3 (a.tmps.getD 0 undef)
theorem wj{w0 w:World}{ss:List ByteArray}{l M:Nat}{a:Act}{av:Option Addr}{cap:Nat}{u:Value}{done:List Wri}{rest:List ByteArray}{c:Nat}(h1:a.tmps.size=37)(h2:a.defers=[])(hb:Below w0.heap.size w0 w)(h3:a.tmps.getD 0 undef=.slice av rest.length cap)(h4:a.tmps.getD 3 undef=u)(h5:a.tmps.getD 4 undef=.pointer (some ⟨c,0,none⟩))(hc:w0.heap.size≤c)(hc2:c<w.heap.size)(hr:RdS w0 (.slice av rest.length cap) rest)(ho:OwnW w w0.heap.size u done)(ha:∀ k,u.ownBlock=some k→k≠c)(hl:done.length+rest.length≤200)(hf:WS ss l w c done rest)
 (hm:(if l=0 then 2*rest.length+1 else if l=1 then 0 else 2*rest.length)<M):WJ w0 ss l a w∧wm l a w<M:=by
 refine⟨⟨h1,h2,hb,av,cap,u,done,rest,c,h3,h4,h5,hc,hc2,hr,ho,ha,hl,hf⟩,?_⟩;unfold wm;rw[h3];exact hm
theorem rdS_dims{w:World}{a:Option Addr}{n cap:Nat}{ss:List ByteArray}(h:RdS w (.slice a n cap) ss):n≤cap∧cap≤maxLen:=by
 obtain⟨a',c',e,h1,h2,h3⟩:=h;injection e with e1 e2 e3
 subst e2;subst e3;exact⟨h1,h2⟩
theorem zpj{w:World}{av:Option Addr}{n cap:Nat}{a b c:ByteArray}{r:List ByteArray}(h:RdS w (.slice av n cap) (a::b::c::r)):∃ bt off,av=some ⟨bt,off,none⟩∧RdS w (.slice (some ⟨bt,off+3,none⟩) r.length (cap-3)) r:=by
 obtain⟨a',c',e,h1,h2,h3⟩:=h;injection e with e1 e2 e3
 subst e1;subst e3;simp only[List.length_cons] at h1;rcases h3 with h | ⟨bt,off,ha,hc⟩
 ·cases h
 ·refine⟨bt,off,ha,_,_,rfl,by omega,by unfold maxLen at *;omega,.inr ⟨bt,off+3,rfl,fun i hi=>?_⟩⟩;have:=hc (i+3) (by simp;omega);rw[show off+3+i=off+(i+3) by omega];exact this
theorem zov{ss:List ByteArray}(h0:ss≠[])(h:ss.length<3):wrs ss=none:=by
 match ss,h0,h with
 | [_],_,_=>rfl
 | [_,_],_,_=>rfl
theorem zj5(v:Value)(ss:List ByteArray)(w:World)(hr:RdS w v ss)(hl:ss.length≤200) :
 Calls Tryz.prog 117 #[v] w fun e w'=>∃ u,e=.returned u∧OwnW w' w.heap.size u ((wrs ss).getD [])∧Below w.heap.size w w':=by
 obtain⟨a0,cap0,hv,hl0,hm0,_⟩:=id hr;subst hv;have HSS:Hid (ss.length≤200):=hl;have HR0:Hid (RdS w (.slice a0 ss.length cap0) ss):=hr;clear hl hr;unfold maxLen at hm0;go_enter Tryz.func117,Tryz.ntmps117
 go_wp2;refine zjX (WJ w ss) wm ?pass ?first
 case pass =>
  rintro l a wr ⟨hs,hdf,hb,av,cap,u,done,rest,c,h0,h3,h4,hc0,hc1,hrd,ho,ha,hlen,HS⟩;have HM:Hid (wm l a wr=if l=0 then 2*rest.length+1 else if l=1 then 0 else 2*rest.length):=by unfold Hid wm;rw[h0];rfl
  generalize wm l a wr=M at HM;obtain⟨f,rfl⟩:=fr_wrs hs hdf h0 h3 h4;clear hs hdf h0 h3 h4;obtain⟨hcl,hcm⟩:=rdS_dims hrd;unfold maxLen at hcm;rcases HS.out with ⟨rfl,⟨y,hy⟩,hw⟩ | ⟨rfl,hw⟩ | ⟨rfl,ta,tb,tg,r,rfl,hy,hw⟩ | ⟨rfl,ta,tb,tg,r,rfl,hy,hw⟩
  ·-- a key
   have HMM:Hid (M=2*rest.length+1):=HM.out;have HWW:Hid (wrs ss=(wrs rest).map fun t=>done++t):=hw;clear HM HS hw;refine⟨_,rfl,?_⟩;by_cases hz:rest=[]
   ·subst hz;have HE:Hid ((wrs ss).getD []=done):=by unfold Hid;rw[HWW.out];simp[wrs]
    clear HWW HMM;go_wp2;rw[zeD];go_ret;exact⟨_,rfl,by rw[HE.out];exact ho,hb⟩
   obtain⟨n,hn⟩:∃ n,n=rest.length:=⟨_,rfl⟩;have hnp:n≠0:=fun e=>hz (List.length_eq_zero_iff.1 (by omega))
   have hq0:((n:Int)==0)=false:=by simp;omega
   have HNN:Hid (n=rest.length):=hn;by_cases hsh:n<3
   ·have HE:Hid (wrs ss=none):=by unfold Hid;rw[HWW.out,zov hz (by omega)];rfl
    have hsi:(n:Int)<3:=by omega
    rw[← hn];clear hn hz hnp;go_wp2;go_step3
    exact wj rfl rfl hb (by rw[← HNN.out];rfl) rfl rfl hc0 hc1 hrd ho ha hlen (.inr (.inl ⟨rfl,HE.out⟩)) (by rw[HMM.out];simp)
   obtain⟨ta,tb,tg,r,hrest⟩:∃ ta tb tg r,rest=ta::tb::tg::r:=by
    match rest,hn,hsh with
    | ta::tb::tg::r,_,_=>exact⟨ta,tb,tg,r,rfl⟩
    | [],h,h2=>simp at h;omega
    | [_],h,h2=>simp at h;omega
    | [_,_],h,h2=>simp at h;omega
   have hq3:¬ (n:Int)<3:=by omega
   have n0:(0:Int)<(n:Int):=by omega
   have n1:(1:Int)<(n:Int):=by omega
   have n2:(2:Int)<(n:Int):=by omega
   have m0:0<n:=by omega
   have m1:1<n:=by omega
   have m2:2<n:=by omega
   obtain⟨bt,off,hav,hcells⟩:∃ bt off,av=some ⟨bt,off,none⟩∧∀ W,Below w.heap.size w W→W.cell? ⟨bt,off,none⟩=some (.string ta)∧W.cell? ⟨bt,off+1,none⟩=some (.string tb)∧W.cell? ⟨bt,off+2,none⟩=some (.string tg):=by
    obtain⟨av',cap',e,-,-,hA⟩:=id hrd;cases e
    rcases hA with h | ⟨bt,off,ha,hc⟩
    ·exact absurd h hz
    ·refine⟨bt,off,ha,fun W hW=>?_⟩;have g0:=hc 0 (by omega);have g1:=hc 1 (by omega);have g2:=hc 2 (by omega);subst hrest;refine⟨?_,?_,?_⟩
     ·rw[hW.cell (World.block_lt_of_cell? w ⟨bt,off,none⟩ g0)];exact g0
     ·rw[hW.cell (World.block_lt_of_cell? w _ g1)];exact g1
     ·rw[hW.cell (World.block_lt_of_cell? w _ g2)];exact g2
   have HCL:Hid (∀ W,Below w.heap.size w W→W.cell? ⟨bt,off,none⟩=some (.string ta)∧W.cell? ⟨bt,off+1,none⟩=some (.string tb)∧W.cell? ⟨bt,off+2,none⟩=some (.string tg)):=hcells;have HRD:Hid (RdS w (.slice av rest.length cap) rest):=hrd;have HRE:Hid (rest=ta::tb::tg::r):=hrest;have HAV:Hid (av=some ⟨bt,off,none⟩):=hav;have HLN:Hid (done.length+rest.length≤200):=hlen;have hcap3:3≤cap:=by omega
   rw[← hn,hav];obtain⟨e0,e1,e2⟩:=hcells _ hb;obtain⟨f0,f1,f2,z0,z1,z2⟩:=boxFW hy;clear hn hz hnp hrd hrest hav hlen hcells;go_wp2_with fail
   refine wp_region_noPanic ?_;refine wp_region_held_drew (S:=fun W=>W.cell? ⟨bt,off,none⟩=some (.string ta)∧W.cell? ⟨bt,off+1,none⟩=some (.string tb)) (by kernel_rfl) ⟨e0,e1⟩ (fun hH=>?_);have qy:BxW wr.drew c y:=hy;have qo:OwnW wr.drew _ u done:=ho.drewN 1;have qb:=hb.drew;obtain⟨p0,p1,p2,y0,y1,y2⟩:=boxFW qy;clear hy ho hb f0 f1 f2 z0 z1 z2 e0 e1 e2 hc1;revert hH qy qo qb p0 p1 p2 y0 y1 y2;generalize wr.drew=W0;intro hH qy qo qb p0 p1 p2 y0 y1 y2;have ry:BxW (put3 W0 c (.string ta) (.string tb) (.bool false)) c ⟨ta,tb,false⟩:=bxW_put3 qy ⟨ta,tb,false⟩;have ro:OwnW (put3 W0 c (.string ta) (.string tb) (.bool false)) w.heap.size u done:=zqP qo ha;have rb:Below w.heap.size w (put3 W0 c (.string ta) (.string tb) (.bool false)):=znp qb hc0;obtain⟨e0,e1,e2⟩:=HCL.out _ rb;refine kG 0 14 hH ?_;refine kG 1 15 hH ?_;refine kG 2 16 hH ?_;refine kG 3 17 hH ?_;refine kG 4 18 hH ?_;refine kG 5 19 hH ?_;refine kG 6 20 hH ?_;refine rdy 7 (fun K hK=>?_);go_simp;refine hK.out _ _ ⟨e0,e1⟩ (fun hA=>?_);clear hK K;try simp only[Act.put,sA,sZ,sS]
   refine dne ?_;rw[show ((W0.setCell ⟨c,0,none⟩ (.string ta)).setCell ⟨c,1,none⟩ (.string tb)).setCell ⟨c,2,none⟩ (.bool false)=put3 W0 c (.string ta) (.string tb) (.bool false) from rfl];clear hH hA qy qo qb p0 p1 p2 y0 y1 y2;revert ry ro rb e0 e1 e2;generalize put3 W0 c (.string ta) (.string tb) (.bool false)=W1;intro ry ro rb e0 e1 e2;have hcl1:=ry.lt;by_cases hg1:tg=oneT
   ·have HE:Hid (wrs ss=(wrs r).map fun t=>(done++[⟨ta,tb,true⟩])++t):=by
     unfold Hid;rw[HWW.out,HRE.out,wrs,if_pos hg1];cases wrs r<;>simp
    have heq:(tg.toList == [49])=true:=by rw[hg1,zce];rfl
    clear hg1;go_wp2;go_step3
    exact wj rfl rfl rb (by rw[← HNN.out,HAV.out];rfl) rfl rfl hc0 hcl1 HRD.out ro ha HLN.out (.inr (.inr (.inl ⟨rfl,ta,tb,tg,r,HRE.out,ry,HE.out⟩))) (by rw[HMM.out];simp)
   have heq1:(tg.toList == [49])=false:=by
    rw[beq_eq_false_iff_ne,zce];exact fun e=>hg1 (ziD e)
   by_cases hg0:tg=nilT
   ·have HE:Hid (wrs ss=(wrs r).map fun t=>(done++[⟨ta,tb,false⟩])++t):=by
     unfold Hid;rw[HWW.out,HRE.out,wrs,if_neg hg1,if_pos hg0];cases wrs r<;>simp
    have heq:(tg.toList == [48])=true:=by rw[hg0,zce];rfl
    clear hg1 hg0;go_wp2;go_step3
    exact wj rfl rfl rb (by rw[← HNN.out,HAV.out];rfl) rfl rfl hc0 hcl1 HRD.out ro ha HLN.out (.inr (.inr (.inr ⟨rfl,ta,tb,tg,r,HRE.out,ry,HE.out⟩))) (by rw[HMM.out];simp)
   ·have HE:Hid (wrs ss=none):=by
     unfold Hid;rw[HWW.out,HRE.out,wrs,if_neg hg1,if_neg hg0];rfl
    have heq:(tg.toList == [48])=false:=by
     rw[beq_eq_false_iff_ne,zce];exact fun e=>hg0 (ziD e)
    clear hg1 hg0;go_wp2;go_step3
    exact wj rfl rfl rb (by rw[← HNN.out,HAV.out];rfl) rfl rfl hc0 hcl1 HRD.out ro ha HLN.out (.inr (.inl ⟨rfl,HE.out⟩)) (by rw[HMM.out];simp)
  ·have HE:Hid ((wrs ss).getD []=[]):=by unfold Hid;rw[hw];rfl
   have hn1:=zdz wr;have hb1:=hb.alloc hb.size (.cells #[] 77);have hs1:=hb.size;clear hw HS HM;refine⟨_,rfl,?_⟩;go_wp2;rw[zeD];go_ret;exact⟨_,rfl,by rw[HE.out];exact hn1.mono hs1,hb1⟩
  ·-- gone
   have hcap3:3≤cap:=by simp at hcl;omega
   obtain⟨bt,off,hav,hrr⟩:=zpj hrd;have HLN:Hid (done.length+r.length≤197):=by unfold Hid;simp at hlen;omega
   have HMM:Hid (M=2*(r.length+3)):=HM.out;have HW2:Hid (wrs ss=(wrs r).map fun t=>(done++[⟨ta,tb,true⟩])++t):=hw;have HRR:Hid (RdS w (.slice (some ⟨bt,off+3,none⟩) r.length (cap-3)) r):=hrr;have HAP:Hid (∀ k,u.ownBlock=some k→k≠c):=ha;have hn3:(ta::tb::tg::r).length=r.length+3:=rfl;have hcl2:r.length+3≤cap:=hcl;have hdl:done.length≤197:=by have:=HLN.out;omega
   obtain⟨n,hn⟩:∃ n,n=r.length:=⟨_,rfl⟩;obtain⟨q,hq⟩:∃ q,q=r.length+3:=⟨_,rfl⟩;have HNN:Hid (n=r.length):=hn;have HQ:Hid (q=r.length+3):=hq;rw[hn3,hav,← hq];have q1:(3:Int)≤(q:Int):=by omega
   have q2:q≤cap:=by omega
   have q3:q-3=n:=by omega
   clear hw hrr ha hrd hlen HS HM hav hn3 hcl2 hcl hn hq hcap3;refine⟨_,rfl,?_⟩;have hB:BxW (wr.setCell ⟨c,2,none⟩ (.bool true)) c ⟨ta,tb,true⟩:=bxW_gone hy true;have ro:OwnW (wr.setCell ⟨c,2,none⟩ (.bool true)) w.heap.size u done:=zg ho (fun k hk e=>HAP.out k hk e.symm);have rb:Below w.heap.size w (wr.setCell ⟨c,2,none⟩ (.bool true)):=zdO hb hc0;obtain⟨g0,g1,g2,z0,z1,z2⟩:=boxFW hy;go_wp2;clear g0 g1 g2 z0 z1 z2 hy ho hb hc1;revert hB ro rb;generalize wr.setCell ⟨c,2,none⟩ (.bool true)=WW;intro hB ro rb;go_step3
   obtain⟨f0,f1,f2,-⟩:=boxFW hB;have bz:=za WW (.cells #[.string ta,.string tb,.bool true] 77);have hx4:=zhg WW ⟨ta,tb,true⟩ 77;have o4:=ro.below bz;have hb4:=rb.trans (bz.mono rb.size);have s4:=hb4.size;have hB4:BxW (WW.alloc (.cells #[.string ta,.string tb,.bool true] 77)) c ⟨ta,tb,true⟩:=(bz.block c hB.lt).trans hB;have hlt6:c<WW.heap.size:=hB.lt;clear bz;go_wp2_with (at_builtin;(refine zcC rfl _ _ rfl w.heap.size _ _ done ⟨ta,tb,true⟩ rfl rfl o4 hx4 (by omega) s4 ?_))
   intro v6 w6 ho6 hg6 hp6;have b6:Below w.heap.size w w6:=hb4.grown hg6 s4 (fun k hk=>(World.ownsRow.lt o4 k hk).1);have hB6:BxW w6 c ⟨ta,tb,true⟩:=(hg6.block c (by simp;omega) (fun e=>HAP.out c e.symm rfl)).trans hB4;have hA6:∀ k,v6.ownBlock=some k→k≠c:=fun k hk e=>by
    rcases hp6 with h | h
    ·rw[h] at hk;exact HAP.out k hk e
    ·rw[h] at hk;simp at hk;omega
   clear o4 hx4 hb4 s4 hB4 hg6 hp6 f0 f1 f2 hlt6 hB ro rb;obtain⟨av6,vn,cv,hv6⟩:=zin ho6;subst hv6;by_cases hcq:cap=3
   ·have hr0:r=[]:=List.length_eq_zero_iff.1 (by have:=HQ.out;omega);have q4:n=0:=by omega
    subst hcq;go_wp2;go_step3
    exact wj (rest:=[]) rfl rfl b6 rfl rfl rfl hc0 hB6.lt ⟨_,_,rfl,Nat.zero_le _,by unfold maxLen;omega,.inl rfl⟩ ho6 hA6 (by simp;omega) (.inl ⟨rfl,⟨_,hB6⟩,by rw[HW2.out,hr0]⟩) (by rw[HMM.out];simp;omega)
   have q5:3<cap:=by omega
   go_wp2;go_step3
   exact wj rfl rfl b6 (by rw[← HNN.out];rfl) rfl rfl hc0 hB6.lt HRR.out ho6 hA6 (by have:=HLN.out;simp;omega) (.inl ⟨rfl,⟨_,hB6⟩,HW2.out⟩) (by rw[HMM.out];simp;omega)
  ·-- there
   have hcap3:3≤cap:=by simp at hcl;omega
   obtain⟨bt,off,hav,hrr⟩:=zpj hrd;have HLN:Hid (done.length+r.length≤197):=by unfold Hid;simp at hlen;omega
   have HMM:Hid (M=2*(r.length+3)):=HM.out;have HW2:Hid (wrs ss=(wrs r).map fun t=>(done++[⟨ta,tb,false⟩])++t):=hw;have HRR:Hid (RdS w (.slice (some ⟨bt,off+3,none⟩) r.length (cap-3)) r):=hrr;have HAP:Hid (∀ k,u.ownBlock=some k→k≠c):=ha;have hn3:(ta::tb::tg::r).length=r.length+3:=rfl;have hcl2:r.length+3≤cap:=hcl;have hdl:done.length≤197:=by have:=HLN.out;omega
   obtain⟨n,hn⟩:∃ n,n=r.length:=⟨_,rfl⟩;obtain⟨q,hq⟩:∃ q,q=r.length+3:=⟨_,rfl⟩;have HNN:Hid (n=r.length):=hn;have HQ:Hid (q=r.length+3):=hq;rw[hn3,hav,← hq];have q1:(3:Int)≤(q:Int):=by omega
   have q2:q≤cap:=by omega
   have q3:q-3=n:=by omega
   clear hw hrr ha hrd hlen HS HM hav hn3 hcl2 hcl hn hq hcap3;refine⟨_,rfl,?_⟩;have hB:BxW wr c ⟨ta,tb,false⟩:=hy;have ro:OwnW wr w.heap.size u done:=ho;have rb:Below w.heap.size w wr:=hb;clear hy ho hb hc1;revert hB ro rb;generalize wr=WW;intro hB ro rb;obtain⟨f0,f1,f2,-⟩:=boxFW hB;have bz:=za WW (.cells #[.string ta,.string tb,.bool false] 77);have hx4:=zhg WW ⟨ta,tb,false⟩ 77;have o4:=ro.below bz;have hb4:=rb.trans (bz.mono rb.size);have s4:=hb4.size;have hB4:BxW (WW.alloc (.cells #[.string ta,.string tb,.bool false] 77)) c ⟨ta,tb,false⟩:=(bz.block c hB.lt).trans hB;have hlt6:c<WW.heap.size:=hB.lt;clear bz;go_wp2_with (at_builtin;(refine zcC rfl _ _ rfl w.heap.size _ _ done ⟨ta,tb,false⟩ rfl rfl o4 hx4 (by omega) s4 ?_))
   intro v6 w6 ho6 hg6 hp6;have b6:Below w.heap.size w w6:=hb4.grown hg6 s4 (fun k hk=>(World.ownsRow.lt o4 k hk).1);have hB6:BxW w6 c ⟨ta,tb,false⟩:=(hg6.block c (by simp;omega) (fun e=>HAP.out c e.symm rfl)).trans hB4;have hA6:∀ k,v6.ownBlock=some k→k≠c:=fun k hk e=>by
    rcases hp6 with h | h
    ·rw[h] at hk;exact HAP.out k hk e
    ·rw[h] at hk;simp at hk;omega
   clear o4 hx4 hb4 s4 hB4 hg6 hp6 f0 f1 f2 hlt6 hB ro rb;obtain⟨av6,vn,cv,hv6⟩:=zin ho6;subst hv6;by_cases hcq:cap=3
   ·have hr0:r=[]:=List.length_eq_zero_iff.1 (by have:=HQ.out;omega);have q4:n=0:=by omega
    subst hcq;go_wp2;go_step3
    exact wj (rest:=[]) rfl rfl b6 rfl rfl rfl hc0 hB6.lt ⟨_,_,rfl,Nat.zero_le _,by unfold maxLen;omega,.inl rfl⟩ ho6 hA6 (by simp;omega) (.inl ⟨rfl,⟨_,hB6⟩,by rw[HW2.out,hr0]⟩) (by rw[HMM.out];simp;omega)
   have q5:3<cap:=by omega
   go_wp2;go_step3
   exact wj rfl rfl b6 (by rw[← HNN.out];rfl) rfl rfl hc0 hB6.lt HRR.out ho6 hA6 (by have:=HLN.out;simp;omega) (.inl ⟨rfl,⟨_,hB6⟩,HW2.out⟩) (by rw[HMM.out];simp;omega)
 case first =>
  intro hp;have y0:=bxW_new (w.alloc (.cells #[] 77)) ⟨⟨#[]⟩,⟨#[]⟩,false⟩;have o0:=(zdz w).below (za (w.alloc (.cells #[] 77)) (.cells #[.string ⟨#[]⟩,.string ⟨#[]⟩,.bool false] 77));have b0:=zbp w (.cells #[] 77) (.cells #[.string ⟨#[]⟩,.string ⟨#[]⟩,.bool false] 77);rw[show (w.alloc (.cells #[] 77)).heap.size=w.heap.size+1 by simp] at y0;go_wp2;go_step3
  rename_i K hK;refine hK _ _ ?_;exact hop (l:=0) hp rfl ⟨rfl,rfl,b0,a0,cap0,_,[],ss,w.heap.size+1,rfl,rfl,rfl,by omega,y0.lt,HR0.out,o0,(fun k hk e=>by simp[Value.ownBlock] at hk;omega),by simpa using HSS.out,.inl ⟨rfl,⟨_,y0⟩,by simp⟩⟩
open Go.RowKit
theorem zhF(v:Value)(bs:List UInt8)(w:World)(hr:Rd w v bs) :
 Calls Tryz.prog 147 #[v] w fun e w'=>zgt w (rdAll bs) e w':=by
 have hlen:=zag bs;obtain⟨i0,hi,hz0,hz1,hz2⟩:=info_parts Tryz.info9;obtain⟨res,hres⟩:∃ res,res=rdAll bs:=⟨_,rfl⟩;rw[← hres];have HN:=zD v bs w hr;unfold rdAll at hres;obtain⟨n,hn⟩:∃ n,n=(rdNum bs).1:=⟨_,rfl⟩;obtain⟨k,hk⟩:∃ k,k=(rdNum bs).2:=⟨_,rfl⟩;rw[← hn,← hk] at hlen HN hres;clear hn hk;have HR:Hid (res=if k=0∨200<n then none else rdAcc bs n k []):=hres;have HC:Hid (Calls _ _ _ _ _):=HN;clear HN hres;obtain⟨a,cap,hv,hl,hm,hA⟩:=hr;subst hv;by_cases h0:k=0
 ·have HF:Hid (res=none):=by rw[if_pos (.inl h0)] at HR;exact HR
  have hk0:((k:Int)==0)=true:=by simp;omega
  clear hA h0 HR hm;go_enter Tryz.func147,Tryz.ntmps147
  go_wp2_with fail
  refine HC.out.mono ?_;rintro e w1 ⟨rfl,rfl⟩;go_wp2;go_ret2
  exact zcO HF.out (zR _) (Nat.le_refl _) ((Below.refl _ _).alloc (Nat.le_refl _) _)
 have hk0:((k:Int)==0)=false:=by simp;omega
 by_cases h1:200<n
 ·have HF:Hid (res=none):=by rw[if_pos (.inr h1)] at HR;exact HR
  clear hA HR hm;go_enter Tryz.func147,Tryz.ntmps147
  go_wp2_with fail
  refine HC.out.mono ?_;rintro e w1 ⟨rfl,rfl⟩;go_wp2;go_ret2
  exact zcO HF.out (zR _) (Nat.le_refl _) ((Below.refl _ _).alloc (Nat.le_refl _) _)
 have HF:Hid (res=rdAcc bs n k []):=by rw[if_neg (by omega)] at HR;exact HR
 clear HR;rcases hA with h | ⟨b,off,rfl,hc⟩
 ·subst h;simp at hlen;omega
 have Hm:Hid (cap≤maxLen):=hm;have HA:Hid (∀ i (h:i<bs.length),w.cell? ⟨b,off+i,none⟩=some (.int .u8 (bs[i].toNat:Int))):=hc;unfold maxLen at hm;clear hc;go_enter Tryz.func147,Tryz.ntmps147
 go_wp2_with fail
 refine HC.out.mono ?_;rintro e w1 ⟨rfl,rfl⟩;clear HC;go_wp2;go_loopw [4,5,6] (fun nn aa oo wr=>∃ (m p:Nat) (ss:List ByteArray),nn=.int .i64 m∧aa=.int .i64 p∧m+ss.length≤200∧p≤bs.length∧OwnS wr w1.heap.size oo ss∧Below w1.heap.size w1 wr∧Hid (res=rdAcc bs m p ss)) (fun nn _ _ _=>(intOf nn).toNat)
 case atStart=>exact⟨n,k,[],rfl,rfl,by simp;omega,by omega,zR _,(Below.refl _ _).alloc (Nat.le_refl _) _,HF⟩
 case round =>
  obtain⟨m,p,ss,rfl,rfl,hms,hp,hown,hb,HR⟩:=hrel;have hs:=hb.size;by_cases hlt:0<m
  ·obtain⟨m',rfl⟩:∃ m',m=m'+1:=⟨m-1,by omega⟩;have hcr:∀ i (h:i<bs.length),wr.cell? ⟨b,off+i,none⟩=some (.int .u8 (bs[i].toNat:Int)):=fun i hi=>by rw[hb.cell (World.block_lt_of_cell? w1 _ (HA.out i hi))];exact HA.out i hi
   have HRd:Hid (Rd wr (.slice (some ⟨b,off+p,none⟩) (bs.length-p) (cap-p)) (bs.drop p)):=rd_drop hl Hm.out hcr;have hTl:=zhr bs p;clear hcr HF;by_cases hcap:cap=p
   ·subst hcap;have hT0:(zr (bs.drop cap)).2=0:=by omega
    have HF2:Hid (res=none):=HR.out.trans (zgl bs m' cap ss hT0);have HRe:∀ a,Rd wr (.slice a 0 0) (bs.drop cap):=fun a=>by
     rw[List.drop_eq_nil_of_le hl];exact rd_empty wr a 0 (Nat.zero_le _)
    have HT0:Hid ((zr (bs.drop cap)).2=0):=hT0;have HRh:Hid (∀ a,Rd wr (.slice a 0 0) (bs.drop cap)):=HRe;clear hT0 HRe HRd hTl HR;go_wp2_with fail
    refine(zv _ (bs.drop cap) _ (HRh.out _)).mono ?_;rw[HT0.out];rintro e w2 ⟨rfl,rfl⟩;go_wp2;go_ret2
    exact zcO HF2.out (zR _) hs (hb.alloc hs _)
   ·go_wp2_with fail
    refine(zv _ (bs.drop p) _ HRd.out).mono ?_;obtain⟨t,ht⟩:∃ t,t=(zr (bs.drop p)).1:=⟨_,rfl⟩;obtain⟨c,hc⟩:∃ c,c=(zr (bs.drop p)).2:=⟨_,rfl⟩;have H0:Hid (c=0→res=none):=fun h=>HR.out.trans (zgl bs m' p ss (by rw[← hc];exact h))
    have H1:Hid (c≠0→res=rdAcc bs m' (p+c) (ss++[⟨t.toArray⟩])):=fun h=>HR.out.trans ((zgm bs m' p ss (by rw[← hc];exact h)).trans (by rw[← hc,← ht]))
    rw[← hc] at hTl;rw[← ht,← hc];clear ht hc HR HRd;rintro e w2 ⟨rfl,rfl⟩;by_cases hc0:c=0
    ·have HF2:Hid (res=none):=H0.out hc0;have hcz:((c:Int)==0)=true:=by simp;omega
     clear hc0;go_wp2;go_ret2
     exact zcO HF2.out (zR _) hs (hb.alloc hs _)
    ·have HF2:Hid (res=rdAcc bs m' (p+c) (ss++[⟨t.toArray⟩])):=H1.out hc0;have hcz:((c:Int)==0)=false:=by simp;omega
     clear hc0 H0 H1;go_wp2_with (at_builtin;(refine wpList_append_own _ rfl _ _ 96 rfl w1.heap.size 9 i0 (.string ⟨#[]⟩) 1 16 Tryz.underlying96 hi hz0 hz1 hz2 rfl (by decide) _ _ _ rfl (World.ownsRow.alloc hown _) ⟨w2.heap.size,0,none⟩ 1 1 [.string ⟨t.toArray⟩] rfl rfl ?c1 ?c2 ?c3 ?c4 ?c5 ?_))
     case c1=>exact zmA _ _ _
     case c2=>intro u hu;simp at hu;subst hu;rfl
     case c3=>unfold maxLen;omega
     case c4=>omega
     case c5=>simp;omega
     intro v' w3 hown' hgrow _;have R1:=zgP hown';have R2:=zaV hown (Nat.le_refl _) hb hs hgrow;clear hown' hgrow hown hb;go_wp2;go_roundw
     case rel=>exact⟨m',p+c,_,by go_num,by go_num,by rw[List.length_append];simp;omega,by omega,R1,R2,HF2⟩
     case measure=>simp[intOf]
  ·have hm0:m=0:=by omega
   subst hm0;have HF2:Hid (res=some (ss,p)):=HR;go_wp2;go_ret2
   exact zkV HF2.out hown hb
open Go.RowKit
theorem Cur.lt{w0 w:World}{g:Nat}{v:Value}{bs:List UInt8}{p:Nat}(h:Cur w0 w g v bs p):g<w.heap.size:=(Array.getElem?_eq_some_iff.1 h.blk).1
theorem Cur.alloc{w0 w:World}{g:Nat}{v:Value}{bs:List UInt8}{p:Nat}(h:Cur w0 w g v bs p)(o:Obj):Cur w0 (w.alloc o) g v bs p :=
 ⟨h.rd,h.ge,by rw[Below.heap_alloc w o g h.lt];exact h.blk,h.bel.alloc (by have:=h.ge;have:=h.lt;omega) o,h.le⟩
theorem Cur.grow{w0 w w':World}{g:Nat}{v:Value}{bs:List UInt8}{p:Nat}{row:Option Nat}(h:Cur w0 w g v bs p)(hg:w.grownBy w' row)(hr:∀ k,row=some k→g<k):Cur w0 w' g v bs p :=
 ⟨h.rd,h.ge,by rw[hg.block g h.lt (fun e=>by have:=hr g e.symm;omega)];exact h.blk,h.bel.grown hg (by have:=h.ge;have:=h.lt;omega) (fun k hk=>by have:=hr k hk;have:=h.ge;omega),h.le⟩
def ManyI(w0 w:World)(g:Nat)(v:Value)(bs:List UInt8)(res:Option (List ByteArray×Nat))(e:Ending)(w':World):Prop :=
 ∃ u p',e=.returned (.tuple #[u,.bool res.isSome])∧OwnS w' w.heap.size u (res.elim [] Prod.fst)∧Cur w0 w' g v bs p'∧∀ r,res=some r→p'=r.2
theorem ziO{w0 w wr:World}{B g:Nat}{v:Value}{bs:List UInt8}{p:Nat}{res:Option (List ByteArray×Nat)}{u:Value}(h:res=none)(ho:OwnS wr B u [])(hB:w.heap.size≤B)(hc:Cur w0 wr g v bs p):ManyI w0 w g v bs res (.returned (.tuple #[u,.bool false])) wr:=by
 subst h;exact⟨u,p,rfl,ho.mono hB,hc,fun r hr=>by cases hr⟩
theorem zpk{w0 w wr:World}{g:Nat}{v:Value}{bs:List UInt8}{p:Nat}{res:Option (List ByteArray×Nat)}{u:Value}{ss:List ByteArray}(h:res=some (ss,p))(ho:OwnS wr w.heap.size u ss)(hc:Cur w0 wr g v bs p):ManyI w0 w g v bs res (.returned (.tuple #[u,.bool true])) wr:=by
 subst h;exact⟨u,p,rfl,ho,hc,fun r hr=>by cases hr;rfl⟩
theorem zqk{w w':World}{B g:Nat}{u:Value}{ss:List ByteArray}(h:OwnS w B u ss)(hg:w.grownBy w' (some g))(hB:g<B):OwnS w' B u ss:=by
 refine World.ownsRow.kept h hg ?_;cases hu:u.ownBlock with
 | none=>exact .inl rfl
 | some k=>exact .inr fun e=>by have:=(World.ownsRow.lt h k hu).1;simp at e;omega
theorem zkw(w0 w:World)(g:Nat)(v:Value)(bs:List UInt8)(h:Cur w0 w g v bs 0) :
 Calls Tryz.prog 160 #[.func (.func 161) #[.pointer (some ⟨g,0,none⟩)] #[],.int .i64 200,.func (.func 162) #[.pointer (some ⟨g,0,none⟩)] #[]] w fun e w'=>ManyI w0 w g v bs (rdAll bs) e w':=by
 have hlen:=zag bs;obtain⟨i0,hi,hz0,hz1,hz2⟩:=info_parts Tryz.info9;obtain⟨res,hres⟩:∃ res,res=rdAll bs:=⟨_,rfl⟩;rw[← hres];have HN:=zcz w0 w g v bs 0 h;rw[List.drop_zero] at HN;unfold rdAll at hres;obtain⟨R,hR⟩:∃ R,R=rdNum bs:=⟨_,rfl⟩;rw[← hR] at hlen HN hres;clear hR;obtain⟨n,k⟩:=R;have HR:Hid (res=if k=0∨200<n then none else rdAcc bs n k []):=hres;have HC:Hid (Calls _ _ _ _ _):=HN;have hgl:=h.lt;clear HN hres;simp only at hlen;by_cases h0:k=0
 ·have HF:Hid (res=none):=by rw[if_pos (.inl h0)] at HR;exact HR
  clear HR;go_enter Tryz.func160,Tryz.ntmps160
  go_wp2_with fail
  refine HC.out.mono ?_;rintro e w1 ⟨p1,rfl,hc,hp,hg⟩;have hb:decide ((n,k).2≠0)=false:=by simp[h0]
  rw[hb];have hgs:=hg.size;clear hb hp h0 hg h;go_wp2;go_ret2
  exact ziO HF.out (zR _) hgs (hc.alloc _)
 have hb:decide ((n,k).2≠0)=true:=by simp[h0]
 by_cases h1:200<n
 ·have HF:Hid (res=none):=by rw[if_pos (.inr h1)] at HR;exact HR
  clear HR;go_enter Tryz.func160,Tryz.ntmps160
  go_wp2_with fail
  refine HC.out.mono ?_;rintro e w1 ⟨p1,rfl,hc,hp,hg⟩;rw[hb];have hgs:=hg.size;clear hb hp hg h;go_wp2;go_ret2
  exact ziO HF.out (zR _) hgs (hc.alloc _)
 have HF:Hid (res=rdAcc bs n k []):=by rw[if_neg (by omega)] at HR;exact HR
 clear HR;go_enter Tryz.func160,Tryz.ntmps160
 go_wp2_with fail
 refine HC.out.mono ?_;rintro e w1 ⟨p1,rfl,hc,hp,hg⟩;rw[hb];have hp1:p1=k:=by rw[hp h0];simp
 subst hp1;have hgs:=hg.size;have hst:=(zR w1).mono hgs;have hcst:=hc.alloc (.cells #[] 9);clear hb hp hg h HC hc;go_wp2;go_loopw [10,28] (fun oo ii wr=>∃ (j p:Nat) (ss:List ByteArray),ii=.int .i64 j∧j≤n∧ss.length=j∧OwnS wr w.heap.size oo ss∧Cur w0 wr g v bs p∧w.heap.size≤wr.heap.size∧Hid (res=rdAcc bs (n-j) p ss)) (fun _ ii _=>n-(intOf ii).toNat)
 case atStart=>exact⟨0,p1,[],rfl,by omega,rfl,hst,hcst,by simp;omega,HF⟩
 case round =>
  obtain⟨j,p,ss,rfl,hj,hsl,hown,hc,hs,HR⟩:=hrel;have Hsl:Hid (ss.length=j):=hsl;clear hst hcst hsl HF;by_cases hlt:j<n
  ·go_wp2_with fail
   refine(ziH w0 _ g v bs p hc).mono ?_;obtain⟨T,hT⟩:∃ T,T=zr (bs.drop p):=⟨_,rfl⟩;have hRg:=HR.out;rw[show n-j=(n-(j+1))+1 by omega] at hRg;have H0:Hid (T.2=0→res=none):=fun h=>hRg.trans (zgl bs _ p ss (by rw[← hT];exact h))
   have H1:Hid (T.2≠0→res=rdAcc bs (n-(j+1)) (p+T.2) (ss++[⟨T.1.toArray⟩])):=fun h=>hRg.trans ((zgm bs _ p ss (by rw[← hT];exact h)).trans (by rw[← hT]))
   rw[← hT];clear hT HR hRg;rintro e w2 ⟨p2,rfl,hc2,hp2,hg2⟩;have hown2:=zqk hown hg2 hgl;have hs2:=hg2.size;by_cases hT0:T.2=0
   ·have hb:decide (T.2≠0)=false:=by simp[hT0]
    rw[hb];have HF2:Hid (res=none):=H0.out hT0;clear hb hT0 hp2 hg2 hown hc H0 H1;go_wp2;go_ret2
    exact ziO HF2.out (zR _) (by omega) (hc2.alloc _)
   ·have hb:decide (T.2≠0)=true:=by simp[hT0]
    rw[hb];have HF2:Hid (res=rdAcc bs (n-(j+1)) (p+T.2) (ss++[⟨T.1.toArray⟩])):=H1.out hT0;have hpp:=hp2 hT0;subst hpp;have hLs:ss.length≤200:=by have:=Hsl.out;omega
    clear hb hT0 hp2 hg2 hown hc H0 H1;go_wp2_with (at_builtin;(refine wpList_append_own _ rfl _ _ 96 rfl w.heap.size 9 i0 (.string ⟨#[]⟩) 1 16 Tryz.underlying96 hi hz0 hz1 hz2 rfl (by decide) _ _ _ rfl (World.ownsRow.alloc hown2 _) ⟨w2.heap.size,0,none⟩ 1 1 [.string ⟨T.1.toArray⟩] rfl rfl ?c1 ?c2 ?c3 ?c4 ?c5 ?_))
    case c1=>exact zmA _ _ _
    case c2=>intro u hu;simp at hu;subst hu;rfl
    case c3=>unfold maxLen;omega
    case c4=>omega
    case c5=>simp;omega
    intro v' w3 hown' hgrow _;have R1:=zgP hown';have R2:=(hc2.alloc _).grow hgrow (fun k hk=>by have:=(World.ownsRow.lt hown2 k hk).1;omega);have R3:w.heap.size≤w3.heap.size:=by have:=hgrow.size;simp at this;omega
    clear hown' hgrow hown2 hc2;go_wp2;go_roundw
    case rel=>exact⟨j+1,p+T.2,_,by go_num,by omega,by rw[List.length_append,Hsl.out];simp,R1,R2,R3,HF2⟩
    case measure=>simp[intOf];omega
  ·have hje:j=n:=by omega
   subst hje;have HF2:Hid (res=some (ss,p)):=by have h:=HR.out;rw[Nat.sub_self] at h;exact h
   go_wp2;go_ret2
   exact zpk HF2.out hown hc
open Go.RowKit
def zcG(w:World)(F:List ByteArray×Bool)(e:Ending)(w':World):Prop :=
 ∃ u,e=.returned (.tuple #[u,.bool F.2])∧OwnS w' w.heap.size u F.1∧Below w.heap.size w w'
theorem zb9{w wr:World}{B:Nat}{F:List ByteArray×Bool}{u:Value}(h:F=([],false))(ho:OwnS wr B u [])(hB:w.heap.size≤B)(hb:Below w.heap.size w wr):zcG w F (.returned (.tuple #[u,.bool false])) wr:=by
 subst h;exact⟨u,rfl,ho.mono hB,hb⟩
theorem zeU{w wr:World}{B:Nat}{F:List ByteArray×Bool}{u:Value}{ss:List ByteArray}(h:F=(ss,true))(ho:OwnS wr B u ss)(hB:w.heap.size≤B)(hb:Below w.heap.size w wr):zcG w F (.returned (.tuple #[u,.bool true])) wr:=by
 subst h;exact⟨u,rfl,ho.mono hB,hb⟩
theorem zoJ(bs:List UInt8):∀ (m p:Nat) (acc:List ByteArray) (r:List ByteArray×Nat),rdAcc bs m p acc=some r→p≤bs.length→p≤r.2∧r.2≤bs.length:=by
 intro m;induction m with
 | zero=>intro p acc r h hp;rw[rdAcc] at h;cases h;exact⟨Nat.le_refl _,hp⟩
 | succ m ih =>
  intro p acc r h hp;rw[rdAcc] at h;split at h
  ·cases h
  ·have hd:=zhr bs p;have:=ih _ _ r h (by omega);omega
theorem zky(bs:List UInt8)(r:List ByteArray×Nat)(h:rdAll bs=some r):0<r.2∧r.2≤bs.length:=by
 have hl:=zag bs;unfold rdAll at h;split at h
 ·cases h
 ·have:=zoJ bs _ _ _ r h (by omega);omega
theorem zfl(v:Value)(bs:List UInt8)(w:World)(hr:Rd w v bs) :
 Calls Tryz.prog 104 #[v] w fun e w'=>zcG w (fin bs (rdAll bs)) e w':=by
 have HC:Hid (Calls Tryz.prog 147 #[v] w fun e w'=>zgt w (rdAll bs) e w'):=zhF v bs w hr;have hpos:=zky bs;obtain⟨a,cap,hv,hl,hm,_⟩:=hr;unfold maxLen at hm;subst hv;obtain⟨F,hF⟩:∃ F,F=fin bs (rdAll bs):=⟨_,rfl⟩;rw[← hF];generalize rdAll bs=res at HC hpos hF;cases res with
 | none =>
  have HF:Hid (F=([],false)):=hF;clear hF hpos;go_enter Tryz.func104,Tryz.ntmps104
  go_wp2_with fail
  refine HC.out.mono ?_;rintro e w1 ⟨u,rfl,ho,hb⟩;have hs:=hb.size;simp only[Option.elim];clear HC;go_wp2;go_ret2
  exact zb9 HF.out (zR _) hs (hb.alloc hs _)
 | some r =>
  obtain⟨ss,p⟩:=r;have hp:=hpos _ rfl;simp only at hp;have hp0:((p:Int)==0)=false:=by simp;omega
  by_cases hpl:p=bs.length
  ·have HF:Hid (F=(ss,true)):=by show _=_;rw[hF];simp[fin,hpl]
   clear hF hpos;have hpe:((p:Int) != (bs.length:Int))=false:=by simp;omega
   clear hpl;go_enter Tryz.func104,Tryz.ntmps104
   go_wp2_with fail
   refine HC.out.mono ?_;rintro e w1 ⟨u,rfl,ho,hb⟩;simp only[Option.elim] at ho ⊢;clear HC;go_wp2;go_ret2
   exact zeU HF.out ho (Nat.le_refl _) hb
  ·have HF:Hid (F=([],false)):=by show _=_;rw[hF];simp[fin,hpl]
   clear hF hpos;have hpe:((p:Int) != (bs.length:Int))=true:=by simp;omega
   clear hpl;go_enter Tryz.func104,Tryz.ntmps104
   go_wp2_with fail
   refine HC.out.mono ?_;rintro e w1 ⟨u,rfl,ho,hb⟩;have hs:=hb.size;simp only[Option.elim] at ho ⊢;clear HC;go_wp2;go_ret2
   exact zb9 HF.out (zR _) hs (hb.alloc hs _)
theorem zfi(v:Value)(bs:List UInt8)(w:World)(hr:Rd w v bs) :
 Calls Tryz.prog 116 #[v] w fun e w'=>zcG w (fin bs (rdAll bs)) e w':=by
 have HM:Hid (Calls Tryz.prog 160 _ _ fun e w'=>ManyI w _ _ v bs (rdAll bs) e w'):=zkw w _ w.heap.size v bs (zo7 hr);have hpos:=zky bs;obtain⟨a,cap,hv,hl,hm,_⟩:=hr;unfold maxLen at hm;subst hv;obtain⟨F,hF⟩:∃ F,F=fin bs (rdAll bs):=⟨_,rfl⟩;rw[← hF];generalize rdAll bs=res at HM hpos hF;cases res with
 | none =>
  have HF:Hid (F=([],false)):=hF;clear hF hpos;go_enter Tryz.func116,Tryz.ntmps116
  go_wp2_with fail
  refine HM.out.mono ?_;rintro e w1 ⟨u,p',rfl,ho,hc,_⟩;simp only[Option.isSome];have hb:=hc.bel;have hs:=hb.size;clear HM;go_wp2;go_ret2
  exact zb9 HF.out (zR _) hs (hb.alloc hs _)
 | some r =>
  obtain⟨ss,p⟩:=r;have hp:=hpos _ rfl;simp only at hp;by_cases hpl:p=bs.length
  ·have HF:Hid (F=(ss,true)):=by show _=_;rw[hF];simp[fin,hpl]
   clear hF hpos;have hpe:¬ 0<(bs.length:Int)-(p:Int):=by omega
   clear hpl;go_enter Tryz.func116,Tryz.ntmps116
   go_wp2_with fail
   refine HM.out.mono ?_;rintro e w1 ⟨u,p',rfl,ho,hc,hpp⟩;have hpp':p'=p:=hpp _ rfl;subst hpp';simp only[Option.isSome,Option.elim] at ho ⊢;clear HM hpp;go_wp2_with fail
   refine(zd7 w _ _ _ bs _ hc).mono ?_;rintro e w2 ⟨rfl,q2,rfl⟩;go_wp2;go_ret2
   exact zeU HF.out (ho.drewN q2) (by simp) (below_drewN hc.bel q2)
  ·have HF:Hid (F=([],false)):=by show _=_;rw[hF];simp[fin,hpl]
   clear hF hpos;have hpe:0<(bs.length:Int)-(p:Int):=by omega
   clear hpl;go_enter Tryz.func116,Tryz.ntmps116
   go_wp2_with fail
   refine HM.out.mono ?_;rintro e w1 ⟨u,p',rfl,ho,hc,hpp⟩;have hpp':p'=p:=hpp _ rfl;subst hpp';simp only[Option.isSome,Option.elim] at ho ⊢;clear HM hpp;go_wp2_with fail
   refine(zd7 w _ _ _ bs _ hc).mono ?_;rintro e w2 ⟨rfl,q2,rfl⟩;have hb:=below_drewN hc.bel q2;have hs:=hc.bel.size;go_wp2;go_ret2
   exact zb9 HF.out (zR _) (by simpa using hs) (hb.alloc (by simpa using hs) _)
end Go.Proofs.YtannfbpohhnnkaaGreatDoor
