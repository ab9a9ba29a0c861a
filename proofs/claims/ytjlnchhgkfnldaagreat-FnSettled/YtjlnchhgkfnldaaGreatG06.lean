import Derived.Test.YtjlnchhgkfnldaaGreatG05
import Derived.Deep.RegionLaw
import Derived.Maps.AppendAt
import Derived.Deep.LoopGhost
import Derived.BigQuiet
namespace Go.Proofs.YtjlnchhgkfnldaaGreat
set_option maxHeartbeats 16000000
set_option maxRecDepth 100000
open Go.RowKit
def zeroW:Wri:=⟨⟨#[]⟩,⟨#[]⟩,false⟩
def nthW(xs:List Wri)(i:Nat):Wri:=xs.getD i zeroW
theorem zhY{xs:List Wri}{i:Nat}(h:i<xs.length):nthW xs i=xs[i]:=by simp[nthW,List.getD,List.getElem?_eq_getElem h]
theorem zoX(a:Wri)(r:List Wri):nthW (a::r) 0=a:=by simp[nthW]
theorem znM(a:Wri)(r:List Wri)(i:Nat):nthW (a::r) (i+1)=nthW r i:=by simp[nthW,List.getD]
theorem Tryz.infoW53:(Tryz.prog.info? 53).map (fun i=>(i.zero,i.size,i.bytes))=some (some (.agg #[.string ⟨#[]⟩,.string ⟨#[]⟩,.bool false]),3,40):=by kernel_rfl
def WC(e:Wri):List Value:=[.string e.key,.string e.val,.bool e.gone]
def WA(e:Wri):Value:=.agg #[.string e.key,.string e.val,.bool e.gone]
def WV(es:List Wri):List Value:=es.flatMap WC
theorem zgi:∀ es:List Wri,(WV es).length=es.length*3
 | []=>rfl
 | a::r=>by
  have:=zgi r;unfold WV at this ⊢;rw[List.flatMap_cons,lA,this,List.length_cons];simp[WC];omega
theorem zpB(a b:List Wri):WV (a++b)=WV a++WV b:=by simp[WV]
theorem zn1(a:Wri)(r:List Wri):WV (a::r)=WC a++WV r:=by simp[WV]
theorem znB:∀ (es:List Wri) (i:Nat),i<es.length→∀ j,j<3→(WV es)[i*3+j]? = (WC (nthW es i))[j]?
 | [],i,h,_,_=>by simp at h
 | a::r,0,_,j,hj=>by
  rw[zn1,zoX,Nat.zero_mul,Nat.zero_add,List.getElem?_append_left (by simp[WC];exact hj)]
 | a::r,i+1,h,j,hj=>by
  rw[zn1,znM,← znB r i (by simpa using h) j hj,List.getElem?_append_right (by simp[WC];omega)];congr 1
  simp[WC];omega
theorem zmU(es:List Wri):∀ u∈WV es,u.oneCell'=true:=by
 intro u hu;simp only[WV,List.mem_flatMap] at hu;obtain⟨e,_,he⟩:=hu;simp only[WC,List.mem_cons,List.not_mem_nil,or_false] at he;rcases he with rfl | rfl | rfl<;>rfl
def WriAt(w:World)(b o:Nat)(e:Wri):Prop :=
 w.cell? ⟨b,o,none⟩=some (.string e.key)∧w.cell? ⟨b,o+1,none⟩=some (.string e.val)∧w.cell? ⟨b,o+2,none⟩=some (.bool e.gone)
def OwnW(w:World)(base:Nat)(v:Value)(es:List Wri):Prop:=w.ownsRow base 53 3 v es.length (WV es)
def RdW(w:World)(v:Value)(es:List Wri):Prop :=
 ∃ a cap,v=.slice a es.length cap∧es.length≤cap∧cap≤maxLen∧(a=none→cap=0) ∧
  (es=[]∨∃ b off,a=some ⟨b,off,none⟩∧∀ i,i<es.length→WriAt w b (off+i*3) (nthW es i))
theorem WriAt.lt{w:World}{b o:Nat}{e:Wri}(h:WriAt w b o e):b<w.heap.size:=World.block_lt_of_cell? w _ h.1
theorem WriAt.of_block{w w':World}{b o:Nat}{e:Wri}(h:WriAt w b o e)(hb:w'.heap[b]? = w.heap[b]?):WriAt w' b o e :=
 ⟨(World.cell?_of_block (a:=⟨b,o,none⟩) hb).trans h.1,(World.cell?_of_block (a:=⟨b,o+1,none⟩) hb).trans h.2.1,(World.cell?_of_block (a:=⟨b,o+2,none⟩) hb).trans h.2.2⟩
theorem WriAt.below{w w':World}{b o:Nat}{e:Wri}(h:WriAt w b o e)(hb:Below w.heap.size w w'):WriAt w' b o e:=h.of_block (hb.block b h.lt)
theorem zn4{w:World}{base g cap n:Nat}{es:List Wri}(h:w.ownsRow base 53 3 (.slice (some ⟨g,0,none⟩) n cap) n (WV es))(hn:n=es.length)(i:Nat)(hi:i<n):WriAt w g (i*3) (nthW es i):=by
 subst hn;have c:∀ j,j<3→w.cell? ⟨g,i*3+j,none⟩=(WC (nthW es i))[j]?:=fun j hj=>(h.cellAt (i*3+j) (by omega)).trans (znB es i hi j hj)
 exact⟨c 0 (by omega),c 1 (by omega),c 2 (by omega)⟩
theorem OwnW.rd{w:World}{base:Nat}{v:Value}{es:List Wri}(h:OwnW w base v es):RdW w v es:=by
 have h':=h;rcases h.2 with ⟨rfl,h0⟩ | ⟨g,cap,cur,rfl,hb,hg,hn,hc,hs,ht⟩
 ·have:es=[]:=List.length_eq_zero_iff.1 h0;subst this;exact⟨none,0,rfl,nR _,Nat.zero_le _,fun _=>rfl,.inl rfl⟩
 ·refine⟨some ⟨g,0,none⟩,cap,rfl,hn,hc,(fun h=>by cases h),.inr ⟨g,0,rfl,fun i hi=>?_⟩⟩;rw[Nat.zero_add];exact zn4 h' rfl i hi
theorem OwnW.below{w w':World}{base:Nat}{v:Value}{es:List Wri}(h:OwnW w base v es)(hb:Below w.heap.size w w'):OwnW w' base v es:=zaZ h hb
theorem OwnW.drewN{w:World}{base:Nat}{v:Value}{es:List Wri}(h:OwnW w base v es)(q:Nat):OwnW (w.drewN q) base v es:=h
theorem OwnW.mono{w:World}{base base':Nat}{v:Value}{es:List Wri}(h:OwnW w base v es)(hb:base'≤base):OwnW w base' v es:=by
 refine⟨h.1,?_⟩;rcases h.2 with h2 | ⟨g,cap,cur,hv,hg,r⟩
 ·exact .inl h2
 ·exact .inr ⟨g,cap,cur,hv,nT hb hg,r⟩
theorem RdW.below{w w':World}{v:Value}{es:List Wri}(h:RdW w v es)(hb:Below w.heap.size w w'):RdW w' v es:=by
 obtain⟨a,cap,hv,h1,h2,h0,h3⟩:=h;refine⟨a,cap,hv,h1,h2,h0,?_⟩;rcases h3 with h3 | ⟨b,off,ha,hc⟩
 ·exact .inl h3
 ·exact .inr ⟨b,off,ha,fun i hi=>(hc i hi).below hb⟩
theorem RdW.drewN{w:World}{v:Value}{es:List Wri}(h:RdW w v es)(q:Nat):RdW (w.drewN q) v es:=h
theorem zoH(w:World):OwnW (w.alloc (.cells #[] 53)) w.heap.size (.slice (some ⟨w.heap.size,0,none⟩) 0 0) []:=World.ownsRow_lit w #[] 0 (nR _) (Nat.zero_le _) rfl
theorem zod{w1:World}{B:Nat}{v':Value}{ys zs:List Wri}(h:w1.ownsRow B 53 3 v' (ys.length+zs.length) (WV ys++WV zs)):OwnW w1 B v' (ys++zs):=by
 unfold OwnW;rw[zpB,lA];exact h
theorem RdW.at{w:World}{a:Option Addr}{n cap:Nat}{es:List Wri}(h:RdW w (.slice a n cap) es)(hn:n=es.length)(i:Nat)(hi:i<es.length):∃ b off,a=some ⟨b,off,none⟩∧WriAt w b (off+i*3) (nthW es i):=by
 obtain⟨a',cap',hv,_,_,_,h3⟩:=h;simp only[Value.slice.injEq] at hv;obtain⟨rfl,_,_⟩:=hv;rcases h3 with rfl | ⟨b,off,ha,hc⟩
 ·simp at hi
 ·exact⟨b,off,ha,hc i hi⟩
theorem WV_nth{es:List Wri}{j:Nat}{u:Value}(h:(WV es)[j]? = some u):j / 3<es.length∧(WC (nthW es (j / 3)))[j % 3]? = some u:=by
 have hj:j<(WV es).length:=(List.getElem?_eq_some_iff.1 h).1;rw[zgi] at hj;have h1:j / 3<es.length:=by omega
 refine⟨h1,?_⟩;have h2:=znB es (j / 3) h1 (j % 3) (by omega);rw[show j / 3*3+j % 3=j by omega] at h2;rw[← h2];exact h
theorem WriAt.cellAt{w:World}{b o:Nat}{e:Wri}(h:WriAt w b o e){j:Nat}{u:Value}(hu:(WC e)[j]? = some u):w.cell? ⟨b,o+j,none⟩=some u:=by
 obtain⟨h0,h1,h2⟩:=h;match j,hu with
 | 0,hu=>simp[WC] at hu;subst hu;exact h0
 | 1,hu=>simp[WC] at hu;subst hu;exact h1
 | 2,hu=>simp[WC] at hu;subst hu;exact h2
theorem ziU{w:World}{b off:Nat}{es:List Wri}(h:∀ i,i<es.length→WriAt w b (off+i*3) (nthW es i)):∀ j u,(WV es)[j]? = some u→w.cell? ((⟨b,off,none⟩:Addr).add j)=some u:=by
 intro j u hu;obtain⟨h1,h2⟩:=WV_nth hu;have:=(h _ h1).cellAt h2;rw[Addr.add_lit];rw[show off+j / 3*3+j % 3=off+j by omega] at this;exact this
end Go.Proofs.YtjlnchhgkfnldaaGreat
namespace Go.Proofs.YtjlnchhgkfnldaaGreat
set_option maxHeartbeats 16000000
set_option maxRecDepth 100000
open Go.RowKit
theorem zgN(ty:TypeId){w:World}{base:Nat}{v u:Value}{ys zs:List Wri}(hown:OwnW w base v ys)(hr:RdW w u zs)(hl:ys.length+zs.length≤1000000000)(hbase:base≤w.heap.size) :
 ∃ v' w',(Builtin.append_ #[48,48] ty #[v,u]).run Tryz.prog w=.ok v' w'∧OwnW w' base v' (ys++zs)∧w.grownBy w' v.ownBlock:=by
 obtain⟨i0,hi,hz0,hz1,hz2⟩:=info_parts Tryz.infoW53;obtain⟨a,cap,rfl,h1,h2,h0,h3⟩:=hr;have row:∀ ad news,news=WV zs→(∀ j u,news[j]? = some u→w.cell? (ad.add j)=some u)→∃ v' w',(Builtin.append_ #[48,48] ty #[v,.slice (some ad) zs.length cap]).run Tryz.prog w=.ok v' w'∧OwnW w' base v' (ys++zs)∧w.grownBy w' v.ownBlock:=by
  intro ad news hn hc;subst hn;obtain⟨v',w',hrun,r1,r2,_⟩:=run_append_own (P:=Tryz.prog) w base 48 ty 53 i0 _ 3 40 Tryz.underlying48 hi hz0 hz1 hz2 rfl (by decide) v ys.length (WV ys) hown ad zs.length cap (WV zs) (by rw[zgi]) hc (zmU zs) (by unfold maxLen;omega) (by omega) hbase;exact⟨v',w',hrun,zod r1,r2⟩
 cases a with
 | some ad =>
  refine row ad (WV zs) rfl ?_;rcases h3 with rfl | ⟨b,off,ha,hc⟩
  ·intro j u hj;simp[WV] at hj
  ·cases ha;exact ziU hc
 | none =>
  have hc0:=h0 rfl;subst hc0;rcases h3 with rfl | ⟨b,off,ha,hc⟩
  ·refine⟨v,w,run_append_owned_none (P:=Tryz.prog) w base 48 ty 53 i0 3 Tryz.underlying48 hi v ys.length (WV ys) hown,by simpa using hown,⟨rfl,rfl,rfl,nR _,fun _ _ _=>rfl⟩⟩
  ·cases ha
theorem zeN{w:World}{ops:Array Oper}{rest:List Oper}{o:Oper}{a:Act}{Q:Exit→Act→World→Prop}(hgd:o.guard=none)(s x:Operand)
 (ho:o.op=.call { callee:=.builtin .append,args:=#[s,x],argTypes:=#[48,48] }) (base:Nat) (v u:Value) (ys zs:List Wri) (hs:a.eval s=v) (hx:a.eval x=u) (hown:OwnW w base v ys) (hr:RdW w u zs) (hl:ys.length+zs.length≤1000000000) (hbase:base≤w.heap.size)
 (h:∀ v' w',OwnW w' base v' (ys++zs)→w.grownBy w' v.ownBlock→wpList Tryz.prog ops Q rest (a.put o.dst v') w'):wpList Tryz.prog ops Q (o::rest) a w:=by
 refine wpList_plain hgd fun K hK=>?_
 obtain⟨v',w',hrun,r1,r2⟩:=zgN o.type hown hr hl hbase;unfold Oper.wp;simp[execOp,ho,resolve,invoke,builtin,hs,hx,hrun,Result.andThen];exact hK _ _ (h v' w' r1 r2)
theorem rdW_one{w:World}{b:Nat}{x:Wri}(h:WriAt w b 0 x):RdW w (.slice (some ⟨b,0,none⟩) 1 1) [x] :=
 ⟨_,1,rfl,nR _,by unfold maxLen;omega,(fun h=>by cases h),.inr ⟨b,0,rfl,fun i hi=>by
  have:i=0:=by simpa using hi
  subst this;exact h⟩⟩
theorem znY(w:World)(x:Wri)(t:TypeId):WriAt (w.alloc (.cells #[.string x.key,.string x.val,.bool x.gone] t)) w.heap.size 0 x:=by
 refine⟨?_,?_,?_⟩<;>simp
end Go.Proofs.YtjlnchhgkfnldaaGreat
namespace Go.Proofs.YtjlnchhgkfnldaaGreat
set_option maxHeartbeats 16000000
set_option maxRecDepth 100000
open Go.RowKit
def ziO(x:Wri):Prop:=x.key.size≤1000∧x.val.size≤1000
def BatD(w0 w:World)(g n:Nat)(e:Ending)(w':World):Prop :=
 ∃ (v:Value) (xs:List Wri),e=.returned v∧OwnW w' w.heap.size v xs∧xs.length≤n∧(∀ x∈xs,ziO x)∧DCur w0 w' g∧w.grownBy w' (some g)
theorem zo3{w w':World}{B g:Nat}{v:Value}{es:List Wri}(h:OwnW w B v es)(hg:w.grownBy w' (some g))(hB:g<B):OwnW w' B v es :=
 zl h hg (fun k hk e=>by have:=(oL h k hk).1;simp at e;omega)
theorem zky{w w':World}{B g:Nat}{v:Value}{es:List Wri}{w0 a:World}(h:OwnW w B v es)(hg:w.grownBy w' v.ownBlock)(hc:DCur w0 w g)(ha:a.grownBy w (some g))(hB:a.heap.size≤B)(hgB:g<B):DCur w0 w' g∧a.grownBy w' (some g) :=
 ⟨hc.grow hg (fun k hk=>by have:=(oL h k hk).1;omega),zaN ha hg (fun k hk=>by have:=(oL h k hk).1;omega)⟩
theorem zgQ(w0 w:World)(g:Nat)(h:DCur w0 w g) :
 Calls Tryz.prog 57 #[.pointer (some ⟨g,0,none⟩)] w fun e w'=>BatD w0 w g 3 e w':=by
 have hlt:=h.lt;have hdc:=h.alloc (.cells #[] 53);have hst:=zoH w;have hgr:=zav (zaY w (some g)) (.cells #[] 53);go_enter Tryz.func57,Tryz.ntmps57
 go_wp2_with fail
 refine(zB w0 _ g 4 hdc (by omega) (by omega)).mono ?_;rintro e w1 ⟨x,rfl,hx0,hx1,hc1,hg1⟩;have ho1:=zo3 hst hg1 hlt;have hgr1:=zq hgr hg1;clear hdc hst hgr hg1;go_wp2;go_loopw [3,4] (fun o n wr=>∃ (m:Int) (ys:List Wri),n=.int .i64 m∧0≤m∧(ys.length:Int)+m≤3∧OwnW wr w.heap.size o ys∧Hid (∀ y∈ys,ziO y)∧DCur w0 wr g∧w.grownBy wr (some g)) (fun _ n _=>(intOf n).toNat)
 case atStart=>exact⟨x,[],rfl,hx0,by simp;omega,ho1,(fun y hy=>by cases hy),hc1,hgr1⟩
 case round =>
  obtain⟨m,ys,rfl,hm0,hyl,ho,HS,hc,hgw⟩:=hrel;clear ho1 hc1 hgr1;by_cases hmp:0<m
  ·go_wp2_with fail
   refine(zco w0 _ g 1 hc).mono ?_;rintro e w2 ⟨z,rfl,hz0,hz1,hz2,hc2,hg2⟩;obtain⟨zk,zv,zs,zg⟩:=z;simp only at hz0 hz1 hz2;subst hz2;have ho2:=zo3 ho hg2 hlt;have hgw2:=zq hgw hg2;have HS2:Hid (∀ y∈ys++[⟨zk,zv,zg⟩],ziO y):=fun y hy=>by
    rcases List.mem_append.1 hy with hy | hy
    ·exact HS.out y hy
    ·rw[List.mem_singleton.1 hy];exact⟨hz0,hz1⟩
   have bx:=ze w2 (.cells #[.string zk,.string zv,.int .i64 1,.bool zg] 40);have k0:(w2.alloc (.cells #[.string zk,.string zv,.int .i64 1,.bool zg] 40)).cell? ⟨w2.heap.size,0,none⟩=some (.string zk):=(by simp);have k1:(w2.alloc (.cells #[.string zk,.string zv,.int .i64 1,.bool zg] 40)).cell? ⟨w2.heap.size,1,none⟩=some (.string zv):=(by simp);have k3:(w2.alloc (.cells #[.string zk,.string zv,.int .i64 1,.bool zg] 40)).cell? ⟨w2.heap.size,3,none⟩=some (.bool zg):=(by simp);have ho3:=ho2.below bx;have hc3:=hc2.below bx;have hgw3:=zbg hgw2 bx;clear ho hc hgw hg2 ho2 hc2 hgw2 bx HS;have b4:=ze (w2.alloc (.cells #[.string zk,.string zv,.int .i64 1,.bool zg] 40)) (.cells #[.string zk,.string zv,.bool zg] 53);have ho4:=ho3.below b4;have hc4:=hc3.below b4;have hgw4:=zbg hgw3 b4;have hx4:=znY (w2.alloc (.cells #[.string zk,.string zv,.int .i64 1,.bool zg] 40)) ⟨zk,zv,zg⟩ 53;rw[show (w2.alloc (.cells #[.string zk,.string zv,.int .i64 1,.bool zg] 40)).heap.size=w2.heap.size+1 by simp] at hx4;have hs4:w.heap.size≤((w2.alloc (.cells #[.string zk,.string zv,.int .i64 1,.bool zg] 40)).alloc (.cells #[.string zk,.string zv,.bool zg] 53)).heap.size:=hgw4.size;go_wp2_with (at_builtin;(refine zeN rfl _ _ rfl w.heap.size _ _ ys [⟨zk,zv,zg⟩] rfl rfl ho4 (rdW_one hx4) (by simp;omega) hs4 ?_))
   intro v6 w6 ho6 hg6;obtain⟨hc6,hgw6⟩:=zky ho4 hg6 hc4 hgw4 (nR _) hlt;clear ho3 hc3 hgw3 b4 ho4 hc4 hgw4 hx4 hs4 hg6 k0 k1 k3;have hl6:((ys++[(⟨zk,zv,zg⟩:Wri)]).length:Int)+(m-1)≤3:=(by simp;omega);go_wp2;go_roundw
   case rel=>exact⟨m-1,_,rfl,by omega,hl6,ho6,HS2,hc6,hgw6⟩
   case measure=>simp[intOf];omega
  ·have hm1:m=0:=(by omega);subst hm1;go_wp2;go_ret;exact⟨_,ys,rfl,ho,by omega,HS.out,hc,hgw⟩
open Go.RowKit
theorem Tryz.info2:(Tryz.prog.info? 2).map (fun i=>(i.zero,i.size,i.bytes))=some (some (.int .i64 0),1,8):=by kernel_rfl
def IV(ns:List Int):List Value:=ns.map (Value.int .i64)
theorem zeM(ns:List Int):(IV ns).length=ns.length:=by simp[IV]
theorem zoy(a b:List Int):IV (a++b)=IV a++IV b:=by simp[IV]
theorem zlt(ns:List Int)(i:Nat)(h:i<ns.length):(IV ns)[i]? = some (.int .i64 ns[i]):=by simp[IV,h]
theorem zhz(ns:List Int):∀ u∈IV ns,u.oneCell'=true:=by
 intro u hu;obtain⟨_,_,rfl⟩:=List.mem_map.1 hu;rfl
def OwnI(w:World)(base:Nat)(v:Value)(ns:List Int):Prop:=w.ownsRow base 2 1 v ns.length (IV ns)
def RdI(w:World)(v:Value)(ns:List Int):Prop :=
 ∃ a cap,v=.slice a ns.length cap∧ns.length≤cap∧cap≤maxLen∧(a=none→cap=0) ∧
  (ns=[]∨∃ b off,a=some ⟨b,off,none⟩∧∀ i (h:i<ns.length),w.cell? ⟨b,off+i,none⟩=some (.int .i64 ns[i]))
theorem OwnI.rd{w:World}{base:Nat}{v:Value}{ns:List Int}(h:OwnI w base v ns):RdI w v ns:=by
 have h':=h;rcases h.2 with ⟨rfl,h0⟩ | ⟨g,cap,cur,rfl,hb,hg,hn,hc,hs,ht⟩
 ·have:ns=[]:=List.length_eq_zero_iff.1 h0;subst this;exact⟨none,0,rfl,nR _,Nat.zero_le _,fun _=>rfl,.inl rfl⟩
 ·refine⟨some ⟨g,0,none⟩,cap,rfl,hn,hc,(fun h=>by cases h),.inr ⟨g,0,rfl,fun i hi=>?_⟩⟩;have:=h'.cellAt i (by omega);rw[zlt ns i hi] at this;simpa using this
theorem OwnI.below{w w':World}{base:Nat}{v:Value}{ns:List Int}(h:OwnI w base v ns)(hb:Below w.heap.size w w'):OwnI w' base v ns:=zaZ h hb
theorem OwnI.drewN{w:World}{base:Nat}{v:Value}{ns:List Int}(h:OwnI w base v ns)(q:Nat):OwnI (w.drewN q) base v ns:=h
theorem OwnI.mono{w:World}{base base':Nat}{v:Value}{ns:List Int}(h:OwnI w base v ns)(hb:base'≤base):OwnI w base' v ns:=by
 refine⟨h.1,?_⟩;rcases h.2 with h2 | ⟨g,cap,cur,hv,hg,r⟩
 ·exact .inl h2
 ·exact .inr ⟨g,cap,cur,hv,nT hb hg,r⟩
theorem RdI.below{w w':World}{v:Value}{ns:List Int}(h:RdI w v ns)(hb:Below w.heap.size w w'):RdI w' v ns:=by
 obtain⟨a,cap,hv,h1,h2,h0,h3⟩:=h;refine⟨a,cap,hv,h1,h2,h0,?_⟩;rcases h3 with h3 | ⟨b,off,ha,hc⟩
 ·exact .inl h3
 ·exact .inr ⟨b,off,ha,fun i hi=>by rw[hb.cell (World.block_lt_of_cell? w _ (hc i hi))];exact hc i hi⟩
theorem RdI.drewN{w:World}{v:Value}{ns:List Int}(h:RdI w v ns)(q:Nat):RdI (w.drewN q) v ns:=h
theorem zcn(w:World):OwnI (w.alloc (.cells #[] 2)) w.heap.size (.slice (some ⟨w.heap.size,0,none⟩) 0 0) []:=World.ownsRow_lit w #[] 0 (nR _) (Nat.zero_le _) rfl
theorem zeP(w:World)(n:Int):OwnI (w.alloc (.cells #[.int .i64 n] 2)) w.heap.size (.slice (some ⟨w.heap.size,0,none⟩) 1 1) [n]:=World.ownsRow_lit w #[.int .i64 n] 1 (nR _) (by unfold maxLen;omega) rfl
theorem zn2{w:World}{B:Nat}{v:Value}{ns:List Int}(h:OwnI w B v ns):∀ k,v.ownBlock=some k→k<w.heap.size:=fun k hk=>(oL h k hk).2
theorem zkc{w1:World}{B:Nat}{v':Value}{ys zs:List Int}(h:w1.ownsRow B 2 1 v' (ys.length+zs.length) (IV ys++IV zs)):OwnI w1 B v' (ys++zs):=by
 unfold OwnI;rw[zoy,lA];exact h
theorem zgV{w:World}{B:Nat}{v:Value}{ns:List Int}(h:OwnI w B v ns)(hn:ns≠[]):∃ g cap,v=.slice (some ⟨g,0,none⟩) ns.length cap:=by
 rcases h.2 with ⟨_,h0⟩ | ⟨g,cap,cur,hv,_⟩
 ·exact absurd (List.length_eq_zero_iff.1 h0) hn
 ·exact⟨g,cap,hv⟩
theorem RdI.at{w:World}{a:Option Addr}{n cap:Nat}{ns:List Int}(h:RdI w (.slice a n cap) ns)(i:Nat)(hi:i<ns.length):∃ b off,a=some ⟨b,off,none⟩∧w.cell? ⟨b,off+i,none⟩=some (.int .i64 ns[i]):=by
 obtain⟨a',cap',hv,_,_,_,h3⟩:=h;simp only[Value.slice.injEq] at hv;obtain⟨rfl,_,_⟩:=hv;rcases h3 with rfl | ⟨b,off,ha,hc⟩
 ·simp at hi
 ·exact⟨b,off,ha,hc i hi⟩
theorem zln{w:World}{a:Option Addr}{n cap k:Nat}{ns:List Int}(h:RdI w (.slice a n cap) ns)(hk:k≤ns.length):RdI w (.slice a k cap) (ns.take k):=by
 obtain⟨a',cap',hv,h1,h2,h0,h3⟩:=h;simp only[Value.slice.injEq] at hv;obtain⟨rfl,_,rfl⟩:=hv;have hl:(ns.take k).length=k:=by rw[List.length_take];omega
 refine⟨a,cap,by rw[hl],by omega,h2,h0,?_⟩;rcases h3 with rfl | ⟨b,off,ha,hc⟩
 ·exact .inl (by simp)
 ·exact .inr ⟨b,off,ha,fun i hi=>by rw[List.getElem_take];exact hc i (by omega)⟩
theorem rdI_cut{w:World}{b off n cap k:Nat}{ns:List Int}(h:RdI w (.slice (some ⟨b,off,none⟩) n cap) ns)(hk:k≤ns.length):RdI w (.slice (if cap=k then some ⟨b,off,none⟩ else some ⟨b,off+k,none⟩) (ns.length-k) (cap-k)) (ns.drop k):=by
 obtain⟨a',cap',hv,h1,h2,h0,h3⟩:=h;simp only[Value.slice.injEq] at hv;obtain⟨rfl,_,rfl⟩:=hv;have hl:(ns.drop k).length=ns.length-k:=List.length_drop;split
 ·rename_i hck;have hl0:ns.length-k=0:=by omega
  rw[hl0];exact⟨_,_,by rw[hl,hl0],by rw[hl];omega,by omega,(fun h=>by cases h),.inl (List.drop_eq_nil_of_le (by omega))⟩
 ·refine⟨_,_,by rw[hl],by omega,by omega,(fun h=>by cases h),?_⟩;rcases h3 with rfl | ⟨b',off',ha,hc⟩
  ·exact .inl (by simp)
  ·cases ha
   refine .inr ⟨b,off+k,rfl,fun i hi=>?_⟩;have:=hc (k+i) (by omega);rw[← Nat.add_assoc] at this;rw[this,List.getElem_drop]
theorem zdA(ty:TypeId){w:World}{base:Nat}{v u:Value}{ys zs:List Int}(hown:OwnI w base v ys)(hr:RdI w u zs)(hl:ys.length+zs.length≤1000000000)(hbase:base≤w.heap.size) :
 ∃ v' w',(Builtin.append_ #[26,26] ty #[v,u]).run Tryz.prog w=.ok v' w'∧OwnI w' base v' (ys++zs)∧w.grownBy w' v.ownBlock:=by
 obtain⟨i0,hi,hz0,hz1,hz2⟩:=info_parts Tryz.info2;obtain⟨a,cap,rfl,h1,h2,h0,h3⟩:=hr;have row:∀ ad,(∀ j u,(IV zs)[j]? = some u→w.cell? (ad.add j)=some u)→∃ v' w',(Builtin.append_ #[26,26] ty #[v,.slice (some ad) zs.length cap]).run Tryz.prog w=.ok v' w'∧OwnI w' base v' (ys++zs)∧w.grownBy w' v.ownBlock:=by
  intro ad hc;obtain⟨v',w',hrun,r1,r2,_⟩:=run_append_own (P:=Tryz.prog) w base 26 ty 2 i0 _ 1 8 Tryz.underlying26 hi hz0 hz1 hz2 rfl (by decide) v ys.length (IV ys) hown ad zs.length cap (IV zs) (by rw[zeM];omega) hc (zhz zs) (by unfold maxLen;omega) (by omega) hbase;exact⟨v',w',hrun,zkc r1,r2⟩
 cases a with
 | some ad =>
  refine row ad ?_;rcases h3 with rfl | ⟨b,off,ha,hc⟩
  ·intro j u hj;simp[IV] at hj
  ·cases ha
   intro j u hj;have hjl:j<zs.length:=(by have:=(List.getElem?_eq_some_iff.1 hj).1;rwa [zeM] at this);rw[zlt zs j hjl] at hj;cases hj
   rw[Addr.add_lit];exact hc j hjl
 | none =>
  have hc0:=h0 rfl;subst hc0;rcases h3 with rfl | ⟨b,off,ha,hc⟩
  ·refine⟨v,w,run_append_owned_none (P:=Tryz.prog) w base 26 ty 2 i0 1 Tryz.underlying26 hi v ys.length (IV ys) hown,by simpa using hown,⟨rfl,rfl,rfl,nR _,fun _ _ _=>rfl⟩⟩
  ·cases ha
theorem zaw{w:World}{ops:Array Oper}{rest:List Oper}{o:Oper}{a:Act}{Q:Exit→Act→World→Prop}(hgd:o.guard=none)(s x:Operand)
 (ho:o.op=.call { callee:=.builtin .append,args:=#[s,x],argTypes:=#[26,26] }) (base:Nat) (v u:Value) (ys zs:List Int) (hs:a.eval s=v) (hx:a.eval x=u) (hown:OwnI w base v ys) (hr:RdI w u zs) (hl:ys.length+zs.length≤1000000000) (hbase:base≤w.heap.size)
 (h:∀ v' w',OwnI w' base v' (ys++zs)→w.grownBy w' v.ownBlock→wpList Tryz.prog ops Q rest (a.put o.dst v') w'):wpList Tryz.prog ops Q (o::rest) a w:=by
 refine wpList_plain hgd fun K hK=>?_
 obtain⟨v',w',hrun,r1,r2⟩:=zdA o.type hown hr hl hbase;unfold Oper.wp;simp[execOp,ho,resolve,invoke,builtin,hs,hx,hrun,Result.andThen];exact hK _ _ (h v' w' r1 r2)
theorem zJ{w:World}{ops:Array Oper}{o:Oper}{a:Act}{K:Act→World→Prop}{Q:Exit→Act→World→Prop}{E:Prop}(hgd:o.guard=none)(d:Nat)(hd:o.dst=some d)(s x:Operand)
 (ho:o.op=.call { callee:=.builtin .append,args:=#[s,x],argTypes:=#[26,26] }) (base:Nat) (v u:Value) (ys zs:List Int) (hs:a.eval s=v) (hx:a.eval x=u) (hown:OwnI w base v ys) (hr:RdI w u zs) (hl:ys.length+zs.length≤1000000000) (hbase:base≤w.heap.size)
 (h:∀ v' w',OwnI w' base v' (ys++zs)→w.grownBy w' v.ownBlock→K (a.put (some d) v') w') :
 if Region.wanted o (yielded ops a.tmps)=true then Oper.wp Tryz.prog o a w K Q else E:=by
 have hw:Region.wanted o (yielded ops a.tmps)=true:=by simp[Region.wanted,hgd]
 rw[if_pos hw];obtain⟨v',w',hrun,r1,r2⟩:=zdA o.type hown hr hl hbase;unfold Oper.wp;simp[execOp,ho,resolve,invoke,builtin,hs,hx,hrun,Result.andThen];have h':=h v' w' r1 r2;rw[← hd] at h';exact h'
open Go.RowKit
theorem putI_hit{ns:List Int}{n:Int}{k:Nat}(hk:k<ns.length)(h1:∀ i (h:i<ns.length),i<k→ns[i]<n)(h2:ns[k]=n):putI ns n=ns:=by
 have:atI ns n=k:=atI_of ns n k (by omega) h1 (fun h=>by omega);unfold putI;rw[this,if_pos (by rw[List.getElem?_eq_getElem hk,h2])]
theorem zl2{ns:List Int}{n:Int}{k:Nat}(hk:k≤ns.length)(h1:∀ i (h:i<ns.length),i<k→ns[i]<n)(h2:∀ (h:k<ns.length),n<ns[k]):putI ns n=[]++ns.take k++[n]++ns.drop k:=by
 have:atI ns n=k:=atI_of ns n k hk h1 (fun h=>by have:=h2 h;omega);unfold putI;rw[this,if_neg]
 ·simp
 ·intro e;obtain⟨h,e⟩:=List.getElem?_eq_some_iff.1 e;have:=h2 h;omega
theorem zl0{w:World}{b n cap k:Nat}{ns:List Int}(h:RdI w (.slice (some ⟨b,0,none⟩) n cap) ns)(hk:k≤ns.length):RdI w (.slice (if cap=k then some ⟨b,0,none⟩ else some ⟨b,k,none⟩) (ns.length-k) (cap-k)) (ns.drop k):=by
 have:=rdI_cut h hk;rwa [Nat.zero_add] at this
theorem zeJ(g cap:Nat)(ns:List Int)(n:Int)(B:Nat)(w:World)(ho:OwnI w B (.slice (some ⟨g,0,none⟩) ns.length cap) ns)(hn:ns.length≤1000000)(hB:B≤w.heap.size) :
 Calls Tryz.prog 120 #[.slice (some ⟨g,0,none⟩) ns.length cap,.int .i64 n] w fun e w'=>∃ u,e=.returned u∧OwnI w' B u (putI ns n)∧Below w.heap.size w w':=by
 obtain⟨a',cap',hv',hl,hm,_,hcell⟩:=id ho.rd;simp only[Value.slice.injEq] at hv';obtain⟨rfl,_,rfl⟩:=hv';have hgl:g<w.heap.size:=zn2 ho g rfl;have hm0:=hm;unfold maxLen at hm;have HC:Hid (∀ i (h:i<ns.length),w.cell? ⟨g,0+i,none⟩=some (.int .i64 ns[i])):=fun i hi=>by
  obtain⟨b,off,hb,hc⟩:=ho.rd.at i hi;cases hb
  exact hc
 clear hcell;go_enter Tryz.func120,Tryz.ntmps120
 go_wp2;go_loopw [5] (fun i wr=>∃ k:Nat,k≤ns.length∧i=.int .i64 k∧Hid (∀ j (h:j<ns.length),j<k→ns[j]<n)∧wr=w) (fun i _=>ns.length-(intOf i).toNat)
 case atStart=>exact⟨0,Nat.zero_le _,rfl,(fun j _ hj=>absurd hj (Nat.not_lt_zero _)),rfl⟩
 case round =>
  obtain⟨k,hk,rfl,HO,hwr⟩:=hrel;obtain rfl:=hwr.symm;by_cases hlt:k<ns.length
  ·have hc:=HC.out k hlt;rw[Nat.zero_add] at hc;obtain⟨y,hy⟩:∃ y,y=ns[k]:=⟨_,rfl⟩;rw[← hy] at hc;have HY:Hid (y=ns[k]):=hy;clear hy;by_cases hyn:y<n
   ·skip
    have HO2:Hid (∀ j (h:j<ns.length),j<k+1→ns[j]<n):=by
     intro j h hj;by_cases hjk:j=k
     ·subst hjk;rw[← HY.out];exact hyn
     ·exact HO.out j h (by omega)
    go_wp2;go_roundw
    case rel=>exact⟨k+1,by omega,by go_num,HO2,trivial⟩
    case measure=>simp[intOf];omega
   ·by_cases hye:y=n
    ·skip
     have HP:Hid (putI ns n=ns):=putI_hit hlt HO.out (by rw[← HY.out];exact hye);have hyb:(y==n)=true:=(by simpa using hye);go_wp2;go_ret;exact⟨_,rfl,by rw[HP.out];exact ho,Below.refl _ _⟩
    ·skip
     have HP:Hid (putI ns n=[]++ns.take k++[n]++ns.drop k):=zl2 hk HO.out (fun h=>by rw[← HY.out];omega);have hyb:(y==n)=false:=(by simpa using hye);have hkc:k<cap:=(by omega);go_wp2_with (at_builtin;(refine zaw rfl _ _ rfl w.heap.size _ _ [] (ns.take k) rfl rfl (zcn _) (zln (ho.rd.below (ze _ _)) hk) (by rw[List.length_take];simp only[List.length_nil];omega) (by simp) ?_))
     intro v2 w2 ho2 hg2;have b2:Below w.heap.size w w2:=(ze w (.cells #[] 2)).grown hg2 (by simp) (fun j hj=>by simp[Value.ownBlock] at hj;omega);have hr2:=ho.rd.below b2;clear hg2;go_wp2_with fail
     refine brg (S:=fun _=>True) trivial (fun hH=>?_);have qo:OwnI w2.drew _ v2 ([]++ns.take k):=ho2.drewN 1;have qb:=b2.drew;have qr:RdI w2.drew _ ns:=hr2.drewN 1;clear ho2 b2 hr2;revert qo;revert qb;revert qr;revert hH;generalize w2.drew=W3;intro hH qr qb qo;refine kA 0 39 hH ?_;refine kA 1 40 hH ?_;refine kA 4 43 hH ?_;refine kA 5 44 hH ?_;refine kA 6 45 hH ?_;refine rdy 2 (fun K hK=>?_);go_simp;refine hK.out _ _ trivial (fun h2=>?_);clear hK K;try simp only[Act.put,sA,sZ,sS]
     refine rdy 3 (fun K hK=>?_);refine zJ rfl 42 rfl _ _ rfl w.heap.size v2 _ ([]++ns.take k) [n] rfl rfl ?d1 ?d2 ?d3 ?d4 ?_
     case d1=>exact qo.below (ze _ _)
     case d2=>exact(zeP _ _).rd
     case d3=>simp;omega
     case d4=>simp;have:=qb.size;omega
     intro v3 w3 ho3 hg3;have bv2:∀ j,v2.ownBlock=some j→w.heap.size≤j:=fun j hj=>(oL qo j hj).1
     have b3:Below w.heap.size w w3:=(qb.alloc qb.size _).grown hg3 (by simp;have:=qb.size;omega) (fun j hj=>bv2 j hj);have hr3:=ho.rd.below b3;refine hK.out _ _ trivial (fun h3=>?_);clear hK K;try simp only[Act.put,sA,sZ,sS]
     refine rdy 7 (fun K hK=>?_);refine zJ rfl 46 rfl _ _ rfl w.heap.size v3 _ ([]++ns.take k++[n]) (ns.drop k) rfl rfl ?e1 ?e2 ?e3 ?e4 ?_
     case e1=>exact ho3
     case e2=>exact zl0 hr3 hk
     case e3=>simp;omega
     case e4=>exact b3.size
     intro v4 w4 ho4 hg4;have b4:Below w.heap.size w w4:=b3.grown hg4 b3.size (fun j hj=>(oL ho3 j hj).1);refine hK.out _ _ trivial (fun h4=>?_);clear hK K;try simp only[Act.put,sA,sZ,sS]
     refine kA 8 4 h4 ?_;refine dne ?_;go_wp2;all_goals go_ret
     all_goals refine⟨_,rfl,?_,b4⟩
     all_goals rw[HP.out]
     all_goals exact ho4.mono hB
  ·skip
   have HP:Hid (putI ns n=[]++ns.take k++[n]++ns.drop k):=zl2 hk HO.out (fun h=>by omega);have hkl:decide ((k:Int)<(ns.length:Int))=false:=(by simp;omega);go_wp2_with (at_builtin;(refine zaw rfl _ _ rfl w.heap.size _ _ [] (ns.take k) rfl rfl (zcn _) (zln (ho.rd.below (ze _ _)) hk) (by rw[List.length_take];simp only[List.length_nil];omega) (by simp) ?_))
   intro v2 w2 ho2 hg2;have b2:Below w.heap.size w w2:=(ze w (.cells #[] 2)).grown hg2 (by simp) (fun j hj=>by simp[Value.ownBlock] at hj;omega);have hr2:=ho.rd.below b2;clear hg2;go_wp2_with fail
   refine brg (S:=fun _=>True) trivial (fun hH=>?_);have qo:OwnI w2.drew _ v2 ([]++ns.take k):=ho2.drewN 1;have qb:=b2.drew;have qr:RdI w2.drew _ ns:=hr2.drewN 1;clear ho2 b2 hr2;revert qo;revert qb;revert qr;revert hH;generalize w2.drew=W3;intro hH qr qb qo;refine kA 0 39 hH ?_;refine kA 1 40 hH ?_;refine kA 4 43 hH ?_;refine kA 5 44 hH ?_;refine kA 6 45 hH ?_;refine rdy 2 (fun K hK=>?_);go_simp;refine hK.out _ _ trivial (fun h2=>?_);clear hK K;try simp only[Act.put,sA,sZ,sS]
   refine rdy 3 (fun K hK=>?_);refine zJ rfl 42 rfl _ _ rfl w.heap.size v2 _ ([]++ns.take k) [n] rfl rfl ?d1 ?d2 ?d3 ?d4 ?_
   case d1=>exact qo.below (ze _ _)
   case d2=>exact(zeP _ _).rd
   case d3=>simp;omega
   case d4=>simp;have:=qb.size;omega
   intro v3 w3 ho3 hg3;have bv2:∀ j,v2.ownBlock=some j→w.heap.size≤j:=fun j hj=>(oL qo j hj).1
   have b3:Below w.heap.size w w3:=(qb.alloc qb.size _).grown hg3 (by simp;have:=qb.size;omega) (fun j hj=>bv2 j hj);have hr3:=ho.rd.below b3;refine hK.out _ _ trivial (fun h3=>?_);clear hK K;try simp only[Act.put,sA,sZ,sS]
   refine rdy 7 (fun K hK=>?_);refine zJ rfl 46 rfl _ _ rfl w.heap.size v3 _ ([]++ns.take k++[n]) (ns.drop k) rfl rfl ?e1 ?e2 ?e3 ?e4 ?_
   case e1=>exact ho3
   case e2=>exact zl0 hr3 hk
   case e3=>simp;omega
   case e4=>exact b3.size
   intro v4 w4 ho4 hg4;have b4:Below w.heap.size w w4:=b3.grown hg4 b3.size (fun j hj=>(oL ho3 j hj).1);refine hK.out _ _ trivial (fun h4=>?_);clear hK K;try simp only[Act.put,sA,sZ,sS]
   refine kA 8 4 h4 ?_;refine dne ?_;go_wp2;all_goals go_ret
   all_goals refine⟨_,rfl,?_,b4⟩
   all_goals rw[HP.out]
   all_goals exact ho4.mono hB
theorem znw(key:ByteArray):(key++⟨#[42]⟩:ByteArray).data.toList=key.data.toList++[42]:=by
 rw[ByteArray.data_append];simp
theorem zk5(key:ByteArray)(w:World)(hk:key.size≤1000000000) :
 Calls Tryz.prog 136 #[.string key] w fun e w'=>∃ u,e=.returned u∧OwnI w' w.heap.size u (zaS key)∧Below w.heap.size w w':=by
 have hs2:(key++⟨#[42]⟩:ByteArray).size≤1099511627776:=by rw[ByteArray.size_append];show key.size+1≤_;omega
 have HD1:Hid (∀ W,Calls Tryz.prog 158 #[.string key] W fun e w'=>e=.returned (.int .i64 (dig 1 key.data.toList:Int))∧w'=W):=fun W=>zee key W (by omega)
 have HD2:Hid (∀ W,Calls Tryz.prog 158 #[.string (key++⟨#[42]⟩)] W fun e w'=>e=.returned (.int .i64 (dig 1 (key.data.toList++[42]):Int))∧w'=W):=fun W=>by
  have:=zee (key++⟨#[42]⟩) W hs2;rwa [znw] at this
 have l1:=zjm key.data.toList 1 (by omega);have l2:=zjm (key.data.toList++[42]) 1 (by omega);have HM:Hid (zaS key=putI [((dig 1 key.data.toList:Nat):Int) % 256] (((dig 1 (key.data.toList++[42]):Nat):Int) % 256)):=by
  unfold Hid zaS mk1 mk2;rw[Int.natCast_emod,Int.natCast_emod];rfl
 generalize dig 1 key.data.toList=d1 at HD1 l1 HM;generalize dig 1 (key.data.toList++[42])=d2 at HD2 l2 HM;generalize zaS key=M at HM ⊢;go_enter Tryz.func136,Tryz.ntmps136
 go_wp2_with fail
 refine(HD1.out _).mono ?_;rintro e w1 ⟨rfl,hw1⟩;obtain rfl:=hw1.symm;go_wp2_with fail
 refine(HD2.out _).mono ?_;rintro e w2 ⟨rfl,hw2⟩;obtain rfl:=hw2.symm;have ho:=zeP w ((d1:Int) % 256);go_wp2_with fail
 refine(zeJ w.heap.size 1 [(d1:Int) % 256] ((d2:Int) % 256) w.heap.size _ ho (by simp) (by simp)).mono ?_;rw[← HM.out];rintro e w3 ⟨u,rfl,ho3,hb3⟩;have b3:=(ze w (.cells #[.int .i64 ((d1:Int) % 256)] 2)).trans (hb3.mono (by simp));go_wp2;go_ret;exact⟨u,rfl,ho3,b3⟩
theorem bitsF_at{es:List Ent}{k:Nat}(h:k<es.length)(b:List Int):(es.drop k).foldl (fun b e=>zaM b (zaS e.key)) b=(es.drop (k+1)).foldl (fun b e=>zaM b (zaS e.key)) (zaM b (zaS (nth es k).key)):=by
 rw[List.drop_eq_getElem_cons h,List.foldl_cons,zU h]
theorem zor{ms:List Int}{k:Nat}(h:k<ms.length)(b:List Int):zaM b (ms.drop k)=zaM (putI b ms[k]) (ms.drop (k+1)):=by
 unfold zaM;rw[List.drop_eq_getElem_cons h,List.foldl_cons]
theorem putI_ne(ns:List Int)(n:Int):putI ns n≠[]:=by
 intro h;have:=(ziu ns n n).2 (.inl rfl);rw[h] at this;cases this
theorem zhs(v:Value)(es:List Ent)(w:World)(hr:RdE w v es)(hf:∀ e∈es,e.key.size≤1000000000)(hn:es.length≤10000) :
 Calls Tryz.prog 111 #[v] w fun e w'=>∃ u,e=.returned u∧OwnI w' w.heap.size u (bitsL es)∧Below w.heap.size w w':=by
 obtain⟨a,cap,hv,hl,hm,_⟩:=id hr;unfold maxLen at hm;subst hv;have HF:Hid (∀ e∈es,e.key.size≤1000000000):=hf;clear hf;have ho0:=zcn w;have hb0:=ze w (.cells #[] 2);go_enter Tryz.func111,Tryz.ntmps111
 go_wp2;go_loopg [3,4] es.length (fun gg u i wr=>∃ (k g0 c0:Nat) (bt:List Int),k+gg=es.length∧i=.int .i64 k∧u=.slice (some ⟨g0,0,none⟩) bt.length c0∧bt.length≤2*k∧Hid ((es.drop k).foldl (fun b e=>zaM b (zaS e.key)) bt=bitsL es)∧OwnI wr w.heap.size (.slice (some ⟨g0,0,none⟩) bt.length c0) bt∧Below w.heap.size w wr)
 case atStart=>exact⟨0,w.heap.size,0,[],by omega,rfl,rfl,Nat.zero_le _,rfl,ho0,hb0⟩
 case round =>
  obtain⟨k,g0,c0,bt,hkg,rfl,rfl,hbl,HB,ho,hb⟩:=hrel;clear ho0 hb0;by_cases hlt:k<es.length
  ·cases gk with
   | zero=>exfalso;omega
   | succ gg =>
    obtain⟨b,off,rfl,hc⟩:=(hr.below hb).at rfl k hlt;obtain⟨y,hy⟩:∃ y,y=nth es k:=⟨_,rfl⟩;rw[← hy] at hc;have hys:y.key.size≤1000000000:=(by rw[hy,zU hlt];exact HF.out _ (List.getElem_mem hlt));have HB2:Hid ((es.drop (k+1)).foldl (fun b e=>zaM b (zaS e.key)) (zaM bt (zaS y.key))=bitsL es):=(by rw[hy,← bitsF_at hlt];exact HB);clear hy HB;obtain⟨c0',c1,c2,c3⟩:=id hc;go_wp2_with fail
    refine(zk5 y.key _ hys).mono ?_;rintro e w2 ⟨um,rfl,hom,hb2⟩;have b2:=hb.trans (hb2.mono hb.size);have ho2:=ho.below hb2;have hml:=zhb y.key;generalize zaS y.key=ms at hom hml HB2;obtain⟨am,cm,hvm,hm1,hm2,_⟩:=id hom.rd;subst hvm;unfold maxLen at hm2;clear ho hb hb2 hc c0' c1 c2 c3;go_wp2;go_loopg [3,6] 2 (fun g2 u i wr=>∃ (j g1 c1:Nat) (b1:List Int),j+g2=2∧i=.int .i64 j∧j≤ms.length∧u=.slice (some ⟨g1,0,none⟩) b1.length c1∧b1.length≤bt.length+j∧Hid (zaM b1 (ms.drop j)=zaM bt ms)∧OwnI wr w.heap.size (.slice (some ⟨g1,0,none⟩) b1.length c1) b1∧RdI wr (.slice am ms.length cm) ms∧Below w.heap.size w wr)
    case atStart=>exact⟨0,g0,c0,bt,by omega,rfl,Nat.zero_le _,rfl,by omega,rfl,ho2,hom.rd,b2⟩
    case round =>
     obtain⟨j,g1,c1,b1,hj2,rfl,hjm,rfl,hb1l,HT,hoj,hrj,hbj⟩:=hrel;clear ho2 hom b2;by_cases hjl:j<ms.length
     ·cases gk with
      | zero=>exfalso;omega
      | succ g2 =>
       obtain⟨bm,om,rfl,hcm⟩:=hrj.at j hjl;obtain⟨x,hx⟩:∃ x,x=ms[j]:=⟨_,rfl⟩;rw[← hx] at hcm;have HT2:Hid (zaM (putI b1 x) (ms.drop (j+1))=zaM bt ms):=(by rw[hx,← zor hjl];exact HT);clear hx HT;go_wp2_with fail
       refine(zeJ g1 c1 b1 x w.heap.size _ hoj (by omega) hbj.size).mono ?_;rintro e w4 ⟨u4,rfl,ho4,hb4⟩;have b4:=hbj.trans (hb4.mono hbj.size);have hr4:=hrj.below hb4;have hpl:=ziq b1 x;obtain⟨g4,c4,hv4⟩:=zgV ho4 (putI_ne b1 x);subst hv4;generalize putI b1 x=b5 at ho4 hpl HT2;clear hoj hrj hbj hb4 hcm;go_wp2;go_roundg g2
       case rel=>exact⟨j+1,g4,c4,b5,by omega,by go_num,by omega,rfl,by omega,HT2,ho4,hr4,b4⟩
       case measure=>omega
     ·have hje:j=ms.length:=(by omega);have HE:Hid (b1=zaM bt ms):=(by have:=HT.out;rw[hje,List.drop_eq_nil_of_le (nR _)] at this;exact this);have HB3:Hid ((es.drop (k+1)).foldl (fun b e=>zaM b (zaS e.key)) b1=bitsL es):=(by rw[HE.out];exact HB2);have hjl2:¬ (j:Int)<(ms.length:Int):=(by omega);clear hje HE HT HB2;go_wp2;go_roundg gg
      case rel=>exact⟨k+1,g1,c1,b1,by omega,by go_num,rfl,by omega,HB3,hoj,hbj⟩
      case measure=>omega
  ·have HE:Hid (bt=bitsL es):=(by have:=HB.out;rw[List.drop_eq_nil_of_le (by omega)] at this;exact this);have hke:¬ (k:Int)<(es.length:Int):=(by omega);clear HB;go_wp2;go_ret;exact⟨_,rfl,by rw[← HE.out];exact ho,hb⟩
open Go.RowKit
structure Cur (w0 w:World) (g:Nat) (v:Value) (bs:List UInt8) (p:Nat):Prop where
 rd:Rd w0 v bs
 ge:w0.heap.size≤g
 blk:w.heap[g]? = some (.cells #[v,.int .i64 (p:Int)] 180 (0,0))
 bel:Below w0.heap.size w0 w
 le:p≤bs.length
theorem Cur.cells{w0 w:World}{g:Nat}{v:Value}{bs:List UInt8}{p:Nat}(h:Cur w0 w g v bs p):w.cell? ⟨g,0,none⟩=some v∧w.cell? ⟨g,1,none⟩=some (.int .i64 (p:Int))∧w.frozen? ⟨g,1,none⟩=false:=by
 have:=h.blk;refine⟨?_,?_,?_⟩<;>simp[World.cell?,World.frozen?,this]
theorem cur_new{w:World}{v:Value}{bs:List UInt8}(h:Rd w v bs):Cur w (w.alloc (.cells #[v,.int .i64 0] 180)) w.heap.size v bs 0 :=
 ⟨h,nR _,heap_alloc_new w _,(Below.refl _ _).alloc (nR _) _,Nat.zero_le _⟩
theorem Cur.drewN{w0 w:World}{g:Nat}{v:Value}{bs:List UInt8}{p:Nat}(h:Cur w0 w g v bs p)(q:Nat):Cur w0 (w.drewN q) g v bs p:=⟨h.rd,h.ge,h.blk,below_drewN h.bel q,h.le⟩
theorem Cur.moved{w0 w:World}{g:Nat}{v:Value}{bs:List UInt8}{p:Nat}(h:Cur w0 w g v bs p)(p':Nat)(hp:p'≤bs.length):Cur w0 (w.setCell ⟨g,1,none⟩ (.int .i64 (p':Int))) g v bs p' :=
 ⟨h.rd,h.ge,by rw[heap_setCell_same w g 1 _ _ _ h.blk];rfl,h.bel.setCell h.ge _,hp⟩
theorem Cur.grown{w:World}{g:Nat}(u:Value):w.grownBy (w.setCell ⟨g,1,none⟩ u) (some g) :=
 ⟨rfl,rfl,rfl,by simp,fun k _ hk=>heap_setCell_other w ⟨g,1,none⟩ k u (fun e=>hk (by simp[e]))⟩
theorem zbw{a w:World}{row:Option Nat}(h:a.grownBy w row)(q:Nat):a.grownBy (w.drewN q) row:=⟨h.os,h.tape,h.output,h.size,h.block⟩
theorem ziX(a:World)(row:Option Nat):a.grownBy a row:=⟨rfl,rfl,rfl,nR _,fun _ _ _=>rfl⟩
theorem moved_at{w0 w:World}{g:Nat}{v:Value}{bs:List UInt8}{p:Nat}(h:Cur w0 w g v bs p)(q j:Nat){i:Nat}(hp:p+i<bs.length)(hj:j=i+1):Cur w0 ((w.drewN q).setCell ⟨g,1,none⟩ (.int .i64 ((p:Int)+((i:Int)+1)))) g v bs (p+j):=by
 have:=(h.drewN q).moved (p+j) (by omega);rw[show ((p+j:Nat):Int)=(p:Int)+((i:Int)+1) by omega] at this;exact this
theorem moved_by(w:World)(q g:Nat){u:Value}:w.grownBy ((w.drewN q).setCell ⟨g,1,none⟩ u) (some g):=by
 have h:(w.drewN q).grownBy ((w.drewN q).setCell ⟨g,1,none⟩ u) (some g):=Cur.grown u;exact⟨h.os,h.tape,h.output,h.size,h.block⟩
def zgh(w0 w:World)(g:Nat)(v:Value)(bs:List UInt8)(p:Nat)(R:Nat×Nat)(e:Ending)(w':World):Prop :=
 ∃ p',e=.returned (.tuple #[.int .i64 (R.1:Int),.bool (decide (R.2≠0))])∧Cur w0 w' g v bs p'∧(R.2≠0→p'=p+R.2)∧w.grownBy w' (some g)
theorem zd7{w0 w:World}{g:Nat}{v:Value}{bs:List UInt8}{p:Nat}{R:Nat×Nat}(h:Cur w0 w g v bs p)(hR:R=(0,0))(q:Nat):zgh w0 w g v bs p R (.returned (.tuple #[.int .i64 0,.bool false])) (w.drewN q) :=
 ⟨p,by rw[hR];rfl,h.drewN q,fun h=>by rw[hR] at h;exact absurd rfl h,zbw (ziX _ _) _⟩
theorem zgn{w0 w:World}{g:Nat}{v:Value}{bs:List UInt8}{p m d i:Nat}{R:Nat×Nat}(h:Cur w0 w g v bs p)(hR:R=(m+d,i+1))(q:Nat)(hp:p+i<bs.length) :
 zgh w0 w g v bs p R (.returned (.tuple #[.int .i64 ((m:Int)+(d:Int)),.bool true])) ((w.drewN q).setCell ⟨g,1,none⟩ (.int .i64 ((p:Int)+((i:Int)+1)))) :=
 ⟨p+(i+1),by rw[hR];simp,moved_at h q (i+1) hp rfl,fun _=>by rw[hR],moved_by _ _ _⟩
theorem zfX(w0 w:World)(g:Nat)(v:Value)(bs:List UInt8)(p:Nat)(h:Cur w0 w g v bs p) :
 Calls Tryz.prog 155 #[.pointer (some ⟨g,0,none⟩)] w fun e w'=>e=.returned (.int .i64 ((bs.length:Int)-(p:Int)))∧∃ q,w'=w.drewN q:=by
 obtain⟨a,cap,rfl,hl,hm,hA⟩:=h.rd;obtain⟨c0,c1,_⟩:=h.cells;have hle:=h.le;unfold maxLen at hm;clear hA h;go_enter Tryz.func155,Tryz.ntmps155
 go_wp2;go_quiet (fail)
 go_wp2;go_ret;exact⟨rfl,_,rfl⟩
theorem zdL(w0 w:World)(g:Nat)(v:Value)(bs:List UInt8)(p:Nat)(h:Cur w0 w g v bs p) :
 Calls Tryz.prog 153 #[.pointer (some ⟨g,0,none⟩)] w fun e w'=>zgh w0 w g v bs p (rdNum (bs.drop p)) e w':=by
 obtain⟨R,hR⟩:∃ R,R=rdNum (bs.drop p):=⟨_,rfl⟩;rw[← hR];have hle:=h.le;have HC:Hid (Cur w0 w g v bs p):=h;obtain⟨a,cap,hv,hl,hm,hA⟩:=h.rd.below h.bel;unfold maxLen at hm;go_enter Tryz.func153,Tryz.ntmps153
 go_wp2_with fail
 refine(zfX w0 w g v bs p h).mono ?_;rintro e w1 ⟨rfl,q1,rfl⟩;clear h;subst hv;have HR0:Hid (R=rdF 6 0 0 1 (bs.drop p)):=hR;clear hR;go_wp2;all_goals
  go_loopw [4,5,11] (fun n u i wr=>∃ k m q qd:Nat,k≤6∧p+k≤bs.length∧i=.int .i64 k∧n=.int .i64 m∧u=.int .i64 q∧m<q∧q≤4398046511104∧(k<6→q≤34359738368)∧Hid (q=128 ^ k∧R=rdF (6-k) k m q (bs.drop (p+k)))∧wr=w.drewN qd) (fun _ _ i _=>6-(intOf i).toNat)
  case atStart=>exact⟨0,0,1,q1,by omega,by omega,rfl,rfl,rfl,by omega,by omega,by omega,⟨rfl,HR0.out⟩,rfl⟩
  case round =>
   obtain⟨k,m,q,qd,hk6,hk,rfl,rfl,rfl,hmq,hq,hq6,HR,rfl⟩:=hrel;by_cases hlt:p+k<bs.length
   ·by_cases h6:k<6
    ·obtain⟨b0,off,ha,hc⟩:∃ b0 off,a=some ⟨b0,off,none⟩∧w.cell? ⟨b0,off+(p+k),none⟩=some (.int .u8 (bs[p+k].toNat:Int)):=by
      rcases hA with h | ⟨b,off,ha,hc⟩
      ·subst h;simp at hlt
      ·exact⟨b,off,ha,hc (p+k) hlt⟩
     obtain⟨c0,c1,f1⟩:=HC.out.cells;rw[ha] at c0;obtain⟨b,hb⟩:∃ b,b=bs[p+k].toNat:=⟨_,rfl⟩;rw[← hb] at hc;have hb8:b<256:=(by rw[hb];exact UInt8.toNat_lt _);have Hb:Hid (b=bs[p+k].toNat):=hb;have hml:=mul_le b q;have hq7:=hq6 h6;obtain⟨d,hd⟩:∃ d,d=b % 128*q:=⟨_,rfl⟩;have Hd:Hid (d=b % 128*q):=hd;have hx:(b:Int) % 128*(q:Int)=(d:Int):=(by rw[hd,Int.natCast_mul,Int.natCast_emod];rfl);rw[← hd] at hml;clear hA ha hq6 hd hb;go_wp2;go_quiet (fail)
     by_cases hb7:b<128
     ·by_cases h40:1099511627776<m+d
      ·have HF:Hid (R=(0,0)):=by
        have h:=HR.out.2;rw[show 6-k=(5-k)+1 by omega] at h;exact h.trans (zlW _ _ _ _ _ b bs hlt Hb.out hb7 (by rw[← Hd.out];exact .inl h40))
       go_wp2;go_ret2
       exact zd7 HC.out HF.out _
      ·by_cases hb0:b=0
       ·have hbz:((b:Int)==0)=true:=(by simp;omega);by_cases hk0:0<k
        ·have HF:Hid (R=(0,0)):=by
          have h:=HR.out.2;rw[show 6-k=(5-k)+1 by omega] at h;exact h.trans (zlW _ _ _ _ _ b bs hlt Hb.out hb7 (.inr ⟨hk0,hb0⟩))
         clear hb0;go_wp2;go_ret2
         exact zd7 HC.out HF.out _
        ·have HF:Hid (R=(m+d,k+1)):=by
          have h:=HR.out.2;rw[show 6-k=(5-k)+1 by omega] at h;exact h.trans ((zia _ _ _ _ _ b bs hlt Hb.out hb7 (by rw[← Hd.out];omega)).trans (by rw[← Hd.out]))
         clear hb0;go_wp2;go_ret2
         exact zgn HC.out HF.out _ hlt
       ·have hbz:((b:Int)==0)=false:=(by simp;omega);have HF:Hid (R=(m+d,k+1)):=by
         have h:=HR.out.2;rw[show 6-k=(5-k)+1 by omega] at h;exact h.trans ((zia _ _ _ _ _ b bs hlt Hb.out hb7 (by rw[← Hd.out];omega)).trans (by rw[← Hd.out]))
        clear hb0;go_wp2;go_ret2
        exact zgn HC.out HF.out _ hlt
     ·have HN:Hid (q*128=128 ^ (k+1)∧R=rdF (6-(k+1)) (k+1) (m+d) (q*128) (bs.drop (p+(k+1)))):=by
       refine⟨by rw[HR.out.1,Nat.pow_succ],?_⟩;have h:=HR.out.2;rw[show 6-k=(6-(k+1))+1 by omega] at h;exact h.trans ((zl1 _ _ _ _ _ b bs hlt Hb.out (by omega)).trans (by rw[← Hd.out,Nat.add_assoc]))
      have HQ:Hid (k+1<6→q≤268435456):=fun hk5=>by
       have h1:=HR.out.1;have h2:(128:Nat) ^ k≤128 ^ 4:=Nat.pow_le_pow_right (by omega) (by omega);omega
      go_wp2;go_roundw
      case rel=>exact⟨k+1,m+d,q*128,_,by omega,by omega,by go_num,by go_num,by go_num,by omega,by omega,fun h=>by have:=HQ.out h;omega,HN,rfl⟩
      case measure=>simp[intOf];omega
    ·have HF:Hid (R=(0,0)):=by
      have h:=HR.out.2;rw[show 6-k=0 by omega] at h;exact h
     go_wp2;all_goals (go_ret2;exact zd7 HC.out HF.out _)
   ·have HF:Hid (R=(0,0)):=HR.out.2.trans (znT _ _ _ _ _ _ (by omega));go_wp2;all_goals (go_ret2;exact zd7 HC.out HF.out _)
end Go.Proofs.YtjlnchhgkfnldaaGreat
