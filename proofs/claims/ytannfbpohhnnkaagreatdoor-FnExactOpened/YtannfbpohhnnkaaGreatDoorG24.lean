import Derived.Test.YtannfbpohhnnkaaGreatDoorG23
namespace Go.Proofs.YtannfbpohhnnkaaGreatDoor
set_option maxHeartbeats 16000000
set_option maxRecDepth 100000
open Go.RowKit
theorem zgI(a:TV)(r:List TV):nthT (a::r) 0=a:=rfl
theorem zhq(a:TV)(r:List TV)(i:Nat):nthT (a::r) (i+1)=nthT r i:=by simp[nthT,List.getD]
theorem zkC:∀ (es:List TV) (k:Nat),k<es.length→∀ (j:Nat),j<4→∀ (u:Value) (e':TV),(TC (nthT es k)).set j u=TC e'→(TVs es).set (k*4+j) u=TVs (es.set k e')
 | [],k,h,_,_,_,_,_=>by simp at h
 | a::r,0,_,j,hj,u,e',h=>by
  rw[zgI] at h;rw[zaP,Nat.zero_mul,Nat.zero_add,List.set_append_left _ _ (by simp[TC];exact hj),h,List.set_cons_zero,zaP]
 | a::r,k+1,hk,j,hj,u,e',h=>by
  rw[zhq] at h;rw[zaP,List.set_append_right _ _ (by simp[TC];omega),List.set_cons_succ,zaP,← zkC r k (by simpa using hk) j hj u e' h];congr 2
  simp[TC];omega
theorem zfk{w:World}{base g cap n:Nat}{es:List TV}(ho:w.ownsRow base 118 4 (.slice (some ⟨g,0,none⟩) n cap) n (TVs es)){k j:Nat}(hk:k<es.length)(hj:j<4){u:Value}{e':TV}(h:(TC (nthT es k)).set j u=TC e') :
 (w.setCell ⟨g,k*4+j,none⟩ u).ownsRow base 118 4 (.slice (some ⟨g,0,none⟩) n cap) n (TVs (es.set k e')):=by
 have:=(ho.stored (k*4+j) u).1;rwa [zkC es k hk j hj u e' h] at this
theorem zbr{es:List TV}{k:Nat}(hk:k<es.length)(e:TV):nthT (es.set k e) k=e:=by
 rw[zak (by rw[List.length_set];exact hk),List.getElem_set_self]
theorem zbg{w:World}{base g cap n:Nat}{ts:List TV}(h:w.ownsRow base 118 4 (.slice (some ⟨g,0,none⟩) n cap) n (TVs ts))(hn:n=ts.length)(i:Nat)(hi:i<n):TabAt w g (i*4) (nthT ts i):=by
 have hg:=fun j (hj:j<4)=>(h.cellAt (i*4+j) (by omega)).trans (ziL ts i (by omega) j hj)
 exact⟨hg 0 (by omega),hg 1 (by omega),hg 2 (by omega),hg 3 (by omega)⟩
def tblks(ts:List TV):List Nat:=ts.flatMap (fun t=>oneB t.vb++oneB t.vk)
structure OwnTs (w:World) (lo:Nat) (v:Value) (ts:List TV):Prop where
 row:OwnT w lo v ts
 ins:InT w lo ts
 nod:(oneB v++tblks ts).Nodup
theorem OwnTs.below{w w':World}{lo:Nat}{v:Value}{ts:List TV}(h:OwnTs w lo v ts)(hb:Below w.heap.size w w'):OwnTs w' lo v ts:=⟨h.row.below hb,h.ins.below hb,h.nod⟩
theorem OwnTs.mono{w:World}{lo lo':Nat}{v:Value}{ts:List TV}(h:OwnTs w lo v ts)(hb:lo'≤lo):OwnTs w lo' v ts:=⟨h.row.mono hb,h.ins.mono hb,h.nod⟩
theorem OwnTs.rd{w:World}{lo:Nat}{v:Value}{ts:List TV}(h:OwnTs w lo v ts):RdTs w v ts:=h.row.rd h.ins
theorem zj3{ts:List TV}{k:Nat}(h:k∈tblks ts):∃ t∈ts,t.vb.ownBlock=some k∨t.vk.ownBlock=some k:=by
 unfold tblks at h;obtain⟨t,ht,hk⟩:=List.mem_flatMap.1 h;rcases List.mem_append.1 hk with hk | hk
 ·exact⟨t,ht,.inl (mem_oneB.1 hk)⟩
 ·exact⟨t,ht,.inr (mem_oneB.1 hk)⟩
theorem zbh{w:World}{lo:Nat}{ts:List TV}(h:InT w lo ts){k:Nat}(hk:k∈tblks ts):lo≤k∧k<w.heap.size:=by
 obtain⟨t,ht,e | e⟩:=zj3 hk
 ·exact World.ownsRow.lt (h t ht).1 k e
 ·exact World.ownsRow.lt (h t ht).2 k e
theorem OwnTs.bound{w:World}{lo:Nat}{v:Value}{ts:List TV}(h:OwnTs w lo v ts){k:Nat}(hk:k∈oneB v++tblks ts):lo≤k∧k<w.heap.size:=by
 rcases List.mem_append.1 hk with hk | hk
 ·exact World.ownsRow.lt h.row k (mem_oneB.1 hk)
 ·exact zbh h.ins hk
theorem zn8(ts:List TV)(t:TV):tblks (ts++[t])=tblks ts++(oneB t.vb++oneB t.vk):=by simp[tblks]
theorem zX(v:Value):(oneB v).Nodup:=by
 unfold oneB;cases v.ownBlock<;>simp
theorem nod_push{w w':World}{lo:Nat}{v:Value}{ts:List TV}{t:TV}(hv:∀ k,v.ownBlock=some k→k<w.heap.size)(hi:InT w lo ts)(hn:(oneB v++tblks ts).Nodup)(h1:OwnI w' w.heap.size t.vb t.T.bits)(h2:OwnS w' w.heap.size t.vk t.T.blocks):(oneB v++tblks (ts++[t])).Nodup:=by
 rw[zn8,← List.append_assoc,List.nodup_append];refine⟨hn,?_,fun a ha b hb e=>?_⟩
 ·rw[List.nodup_append];refine⟨zX _,zX _,fun a ha b hb e=>?_⟩;subst e;exact zh h1 h2 (by decide) a (mem_oneB.1 ha) (mem_oneB.1 hb)
 ·subst e;have hlt:a<w.heap.size:=by
   rcases List.mem_append.1 ha with ha | ha
   ·exact hv a (mem_oneB.1 ha)
   ·exact(zbh hi ha).2
  rcases List.mem_append.1 hb with hb | hb
  ·have:=(World.ownsRow.lt h1 a (mem_oneB.1 hb)).1;omega
  ·have:=(World.ownsRow.lt h2 a (mem_oneB.1 hb)).1;omega
def zhA(w:World)(ts:List TV)(e:Ending)(w':World):Prop:=∃ u us,e=.returned u∧us.map (·.T)=ts.map (·.T)∧OwnTs w' w.heap.size u us∧Below w.heap.size w w'
open Go.RowKit
theorem OwnTs.base{w:World}{B c j:Nat}{v u:Value}{ts:List TV}(h:OwnTs w B v ts)(hc:c<B):OwnTs (w.setCell ⟨c,j,none⟩ u) B v ts:=⟨zas h.row hc,fun t ht=>⟨zas (h.ins t ht).1 hc,zas (h.ins t ht).2 hc⟩,h.nod⟩
theorem OwnTs.put5{w:World}{B c:Nat}{v u0 u1 u2 u3 u4:Value}{ts:List TV}(h:OwnTs w B v ts)(hc:c<B):OwnTs (put5 w c u0 u1 u2 u3 u4) B v ts:=((((h.base hc).base hc).base hc).base hc).base hc
def trB(Y:TrX):List Nat:=oneB Y.vm++((oneB Y.vy++tblks Y.ys)++((oneB Y.vo++tblks Y.os)++oneB Y.vs))
structure OwnTree (w:World) (lo:Nat) (Y:TrX):Prop where
 mem:OwnE w lo Y.vm Y.mem
 young:OwnT w lo Y.vy Y.ys
 youngs:InT w lo Y.ys
 old:OwnT w lo Y.vo Y.os
 olds:InT w lo Y.os
 snaps:OwnI w lo Y.vs Y.snaps
 nod:(trB Y).Nodup
theorem OwnTree.below{w w':World}{lo:Nat}{Y:TrX}(h:OwnTree w lo Y)(hb:Below w.heap.size w w'):OwnTree w' lo Y:=⟨h.mem.below hb,h.young.below hb,h.youngs.below hb,h.old.below hb,h.olds.below hb,h.snaps.below hb,h.nod⟩
theorem OwnTree.mono{w:World}{lo lo':Nat}{Y:TrX}(h:OwnTree w lo Y)(hb:lo'≤lo):OwnTree w lo' Y:=⟨h.mem.mono hb,h.young.mono hb,h.youngs.mono hb,h.old.mono hb,h.olds.mono hb,h.snaps.mono hb,h.nod⟩
theorem OwnTree.rd{w:World}{lo:Nat}{Y:TrX}(h:OwnTree w lo Y):RdTr w Y:=⟨h.mem.rd,h.young.rd h.youngs,h.old.rd h.olds,h.snaps.rd⟩
theorem OwnTree.bound{w:World}{lo:Nat}{Y:TrX}(h:OwnTree w lo Y){k:Nat}(hk:k∈trB Y):lo≤k∧k<w.heap.size:=by
 unfold trB at hk;rcases List.mem_append.1 hk with hk | hk
 ·exact World.ownsRow.lt h.mem k (mem_oneB.1 hk)
 rcases List.mem_append.1 hk with hk | hk
 ·rcases List.mem_append.1 hk with hk | hk
  ·exact World.ownsRow.lt h.young k (mem_oneB.1 hk)
  ·exact zbh h.youngs hk
 rcases List.mem_append.1 hk with hk | hk
 ·rcases List.mem_append.1 hk with hk | hk
  ·exact World.ownsRow.lt h.old k (mem_oneB.1 hk)
  ·exact zbh h.olds hk
 ·exact World.ownsRow.lt h.snaps k (mem_oneB.1 hk)
theorem zk3{a b:List Nat}{m:Nat}(h1:a.Nodup)(h2:b.Nodup)(ha:∀ k∈a,k<m)(hb:∀ k∈b,m≤k):(a++b).Nodup:=by
 rw[List.nodup_append];exact⟨h1,h2,fun x hx y hy e=>by have:=ha x hx;have:=hb y hy;omega⟩
theorem zfL{a b:List Nat}{m:Nat}(ha:∀ k∈a,m≤k)(hb:∀ k∈b,m≤k):∀ k∈a++b,m≤k:=fun k hk=>by
 rcases List.mem_append.1 hk with h | h
 ·exact ha k h
 ·exact hb k h
theorem zaF(w:World)(vm vy vo vs:Value)(q:Int):BoxTr (w.alloc (.cells #[vm,vy,vo,.int .i64 q,vs] 34)) w.heap.size vm vy vo q vs:=heap_alloc_new w _
theorem zbe{w:World}{b:Nat}{vm vy vo vs:Value}{q:Int}(h:BoxTr w b vm vy vo q vs)(u:Value):BoxTr (w.setCell ⟨b,0,none⟩ u) b u vy vo q vs:=heap_setCell_same w b 0 _ _ u h
theorem zbG{w:World}{b:Nat}{vm vy vo vs:Value}{q:Int}(h:BoxTr w b vm vy vo q vs)(u:Value):BoxTr (w.setCell ⟨b,1,none⟩ u) b vm u vo q vs:=heap_setCell_same w b 1 _ _ u h
theorem zbx{w:World}{b:Nat}{vm vy vo vs:Value}{q:Int}(h:BoxTr w b vm vy vo q vs)(u:Value):BoxTr (w.setCell ⟨b,2,none⟩ u) b vm vy u q vs:=heap_setCell_same w b 2 _ _ u h
theorem ziv{w:World}{b:Nat}{vm vy vo vs:Value}{q:Int}(h:BoxTr w b vm vy vo q vs)(r:Int):BoxTr (w.setCell ⟨b,3,none⟩ (.int .i64 r)) b vm vy vo r vs:=heap_setCell_same w b 3 _ _ _ h
theorem zaZ{w:World}{b c j:Nat}{vm vy vo vs u:Value}{q:Int}(h:BoxTr w b vm vy vo q vs)(hn:b≠c):BoxTr (w.setCell ⟨c,j,none⟩ u) b vm vy vo q vs:=(heap_setCell_other w ⟨c,j,none⟩ b u hn).trans h
theorem BoxTr.on{w w':World}{b:Nat}{vm vy vo vs:Value}{q:Int}(h:BoxTr w b vm vy vo q vs)(hb:Below w.heap.size w w'):BoxTr w' b vm vy vo q vs:=(hb.block b h.lt).trans h
theorem zhl{w:World}{b c j:Nat}{X:TrX}{u:Value}(h:TreAt w b X)(hn:b≠c):TreAt (w.setCell ⟨c,j,none⟩ u) b X:=h.of_block (heap_setCell_other w ⟨c,j,none⟩ b u hn)
def ToTr(w:World)(X:TrX)(e:Ending)(w':World):Prop:=∃ Y:TrX,e=.returned (.agg #[Y.vm,Y.vy,Y.vo,.int .i64 Y.seq,Y.vs])∧Y.tre=X.tre∧OwnTree w' w.heap.size Y∧Below w.heap.size w w'
open Go.RowKit
theorem zcg(v:Value)(bs:List Int)(w:World)(hr:RdI w v bs)(hl:bs.length≤1000000000) :
 Calls Tryz.prog 120 #[v] w fun e w'=>∃ u,e=.returned u∧OwnI w' w.heap.size u bs∧Below w.heap.size w w':=by
 have hoi:=zcy w;have b0:=za w (.cells #[] 2);have hr0:=hr.below b0;go_enter Tryz.func120,Tryz.ntmps120
 go_wp2_with (at_builtin;(refine zaf rfl _ _ rfl w.heap.size _ _ [] bs rfl rfl hoi hr0 (by simp;omega) (by simp) ?_))
 intro u w1 ho hg;have b1:Below w.heap.size w w1:=b0.grown hg (by simp) (fun k hk=>by have:w.heap.size=k:=Option.some.inj hk;omega);clear hoi b0 hr0 hg;go_wp2;go_ret;exact⟨u,rfl,ho,b1⟩
theorem zhj(v:Value)(bs:List ByteArray)(w:World)(hr:RdS w v bs)(hn:NilOk v)(hl:bs.length≤1000000000) :
 Calls Tryz.prog 165 #[v] w fun e w'=>∃ u,e=.returned u∧OwnS w' w.heap.size u bs∧Below w.heap.size w w':=by
 have hoi:=zR w;have b0:=za w (.cells #[] 9);have hr0:=hr.below b0;go_enter Tryz.func165,Tryz.ntmps165
 go_wp2_with (at_builtin;(refine zO rfl _ _ rfl w.heap.size _ _ [] bs rfl rfl hoi hr0 hn (by simp;omega) (by simp) ?_))
 intro u w1 ho hg;have b1:Below w.heap.size w w1:=b0.grown hg (by simp) (fun k hk=>by have:w.heap.size=k:=Option.some.inj hk;omega);clear hoi b0 hr0 hg;go_wp2;go_ret;exact⟨u,rfl,ho,b1⟩
theorem TVs_nth{ts:List TV}{j:Nat}{u:Value}(h:(TVs ts)[j]? = some u):j / 4<ts.length∧(TC (nthT ts (j / 4)))[j % 4]? = some u:=by
 have hl:=(List.getElem?_eq_some_iff.1 h).1;rw[zbE] at hl;have h1:j / 4<ts.length:=by omega
 refine⟨h1,?_⟩;have h2:=ziL ts (j / 4) h1 (j % 4) (by omega);rw[show j / 4*4+j % 4=j by omega] at h2;rw[← h2];exact h
theorem TabAt.cellAt{w:World}{b o:Nat}{t:TV}(h:TabAt w b o t){j:Nat}{u:Value}(hu:(TC t)[j]? = some u):w.cell? ⟨b,o+j,none⟩=some u:=by
 obtain⟨h0,h1,h2,h3⟩:=h;match j,hu with
 | 0,hu=>simp[TC] at hu;subst hu;exact h0
 | 1,hu=>simp[TC] at hu;subst hu;exact h1
 | 2,hu=>simp[TC] at hu;subst hu;exact h2
 | 3,hu=>simp[TC] at hu;subst hu;exact h3
theorem zkH{w:World}{b off:Nat}{ts:List TV}(h:∀ i,i<ts.length→TabAt w b (off+i*4) (nthT ts i)):∀ j u,(TVs ts)[j]? = some u→w.cell? ((⟨b,off,none⟩:Addr).add j)=some u:=by
 intro j u hu;obtain⟨h1,h2⟩:=TVs_nth hu;have:=(h _ h1).cellAt h2;rw[Addr.add_lit];rw[show off+j / 4*4+j % 4=off+j by omega] at this;exact this
theorem zhz{w:World}{ts:List TV}(h:∀ t∈ts,RdI w t.vb t.T.bits∧RdS w t.vk t.T.blocks):∀ u∈TVs ts,u.oneCell'=true:=by
 intro u hu;obtain⟨t,ht,hu⟩:=List.mem_flatMap.1 hu;obtain⟨⟨a,c,e1,-⟩,⟨a2,c2,e2,-⟩⟩:=h t ht;simp[TC] at hu;rcases hu with rfl | rfl | rfl | rfl
 ·rfl
 ·rfl
 ·rw[e1];rfl
 ·rw[e2];rfl
theorem zdj(ty:TypeId){w:World}{base:Nat}{v u:Value}{us ts:List TV}(hown:OwnT w base v us)(hr:RdTs w u ts)(hn:NilOk u)(hl:us.length+ts.length≤10000000)(hbase:base≤w.heap.size) :
 ∃ v' w',(Builtin.append_ #[32,32] ty #[v,u]).run Tryz.prog w=.ok v' w'∧OwnT w' base v' (us++ts)∧w.grownBy w' v.ownBlock:=by
 obtain⟨i0,hi,hz0,hz1,hz2⟩:=info_parts Tryz.infoT118;obtain⟨a,cap,rfl,h1,h2,h3,h4⟩:=hr;have more:∀ {w1:World} {v':Value},w1.ownsRow base 118 4 v' (us.length+ts.length) (TVs us++TVs ts)→OwnT w1 base v' (us++ts):=fun h=>by unfold OwnT;rw[zil,List.length_append];exact h
 have row:∀ ad news,news=TVs ts→(∀ j u,news[j]? = some u→w.cell? (ad.add j)=some u)→∃ v' w',(Builtin.append_ #[32,32] ty #[v,.slice (some ad) ts.length cap]).run Tryz.prog w=.ok v' w'∧OwnT w' base v' (us++ts)∧w.grownBy w' v.ownBlock:=by
  intro ad news hn hc;subst hn;obtain⟨v',w',hrun,r1,r2,_⟩:=run_append_own (P:=Tryz.prog) w base 32 ty 118 i0 _ 4 80 Tryz.underlying32 hi hz0 hz1 hz2 rfl (by decide) v us.length (TVs us) hown ad ts.length cap (TVs ts) (zbE ts) hc (zhz h4) (by unfold maxLen;omega) (by omega) hbase;exact⟨v',w',hrun,more r1,r2⟩
 cases a with
 | some ad =>
  refine row ad (TVs ts) rfl ?_;rcases h3 with rfl | ⟨b,off,ha,hc⟩
  ·intro j u hj;simp[TVs] at hj
  ·cases ha;exact zkH hc
 | none =>
  have hc0:=hn _ _ rfl;subst hc0;rcases h3 with rfl | ⟨b,off,ha,hc⟩
  ·refine⟨v,w,run_append_owned_none (P:=Tryz.prog) w base 32 ty 118 i0 4 Tryz.underlying32 hi v us.length (TVs us) hown,by simpa using hown,⟨rfl,rfl,rfl,Nat.le_refl _,fun _ _ _=>rfl⟩⟩
  ·cases ha
theorem zeP{w:World}{ops:Array Oper}{rest:List Oper}{o:Oper}{a:Act}{Q:Exit→Act→World→Prop}(hgd:o.guard=none)(s x:Operand)
 (ho:o.op=.call { callee:=.builtin .append,args:=#[s,x],argTypes:=#[32,32] }) (base:Nat) (v u:Value) (us ts:List TV) (hs:a.eval s=v) (hx:a.eval x=u) (hown:OwnT w base v us) (hr:RdTs w u ts) (hn:NilOk u) (hl:us.length+ts.length≤10000000) (hbase:base≤w.heap.size)
 (h:∀ v' w',OwnT w' base v' (us++ts)→w.grownBy w' v.ownBlock→wpList Tryz.prog ops Q rest (a.put o.dst v') w'):wpList Tryz.prog ops Q (o::rest) a w:=by
 refine wpList_plain hgd fun K hK=>?_
 obtain⟨v',w',hrun,r1,r2⟩:=zdj o.type hown hr hn hl hbase;unfold Oper.wp;simp[execOp,ho,resolve,invoke,builtin,hs,hx,hrun,Result.andThen];exact hK _ _ (h v' w' r1 r2)
theorem zhf(v:Value)(ts:List TV)(w:World)(hr:RdTs w v ts)(hn:NilOk v)(hl:ts.length≤1000000) :
 Calls Tryz.prog 164 #[v] w fun e w'=>∃ u,e=.returned u∧OwnT w' w.heap.size u ts∧Below w.heap.size w w':=by
 have hoi:=zcH w;have b0:=za w (.cells #[] 118);have hr0:=hr.below b0;go_enter Tryz.func164,Tryz.ntmps164
 go_wp2_with (at_builtin;(refine zeP rfl _ _ rfl w.heap.size _ _ [] ts rfl rfl hoi hr0 hn (by simp;omega) (by simp) ?_))
 intro u w1 ho hg;have b1:Below w.heap.size w w1:=b0.grown hg (by simp) (fun k hk=>by have:w.heap.size=k:=Option.some.inj hk;omega);clear hoi b0 hr0 hg;go_wp2;go_ret;exact⟨u,rfl,ho,b1⟩
theorem zox{us ts:List TV}{k:Nat}(hu:us.length=k)(hk:k<ts.length):nthT (us++ts.drop k) k=nthT ts k:=by
 rw[zak (by rw[List.length_append,List.length_drop];omega),List.getElem_append_right (by omega),zak hk];simp[hu]
theorem set_mid{us ts:List TV}{k:Nat}(hu:us.length=k)(hk:k<ts.length)(t:TV):(us++ts.drop k).set k t=(us++[t])++ts.drop (k+1):=by
 rw[List.set_append_right _ _ (by omega),hu,Nat.sub_self,List.drop_eq_getElem_cons hk,List.set_cons_zero,List.append_assoc];rfl
theorem zef(v:Value)(ts:List TV)(w:World)(hr:RdTs w v ts)(hn:NilOk v)(hl:ts.length≤1000000)(hls:∀ t∈ts,t.T.bits.length≤1000000000∧t.T.blocks.length≤1000000000∧NilOk t.vk) :
 Calls Tryz.prog 119 #[v] w fun e w'=>zhA w ts e w':=by
 have HL:Hid (∀ t∈ts,t.T.bits.length≤1000000000∧t.T.blocks.length≤1000000000∧NilOk t.vk):=hls;have HC0:Hid (Calls _ _ _ _ _):=zhf v ts w hr hn hl;obtain⟨nn,hnn⟩:∃ nn,nn=ts.length:=⟨_,rfl⟩;have HNN:Hid (nn=ts.length):=hnn;have HR:Hid (∀ W k,Below w.heap.size w W→k<nn→RdI W (nthT ts k).vb (nthT ts k).T.bits∧RdS W (nthT ts k).vk (nthT ts k).T.blocks):=fun W k hb hk=>by
  obtain⟨a,cap,hv,-⟩:=id hr;subst hv;obtain⟨b,off,-,-,h1,h2⟩:=(hr.below hb).at k (by omega);exact⟨h1,h2⟩
 clear hls hn hr;go_enter Tryz.func119,Tryz.ntmps119
 go_wp2_with fail
 refine HC0.out.mono ?_;rintro e w1 ⟨u,rfl,ho1,hb1⟩;clear HC0;rcases ho1.2 with ⟨hv,h0⟩ | ⟨g,cap,cur,hv,hBg,hg,hcn,hc,_⟩
 ·have hts:ts=[]:=List.length_eq_zero_iff.1 h0;subst hv;have END:Hid (zhA w ts (.returned (.slice none 0 0)) w1):=⟨_,ts,rfl,rfl,⟨ho1,(by rw[hts];intro t ht;cases ht),(by rw[hts];simp[tblks,oneB,Value.ownBlock])⟩,hb1⟩;clear ho1 hb1 hts;go_wp2;refine wp_loop_rounds 1 ?_;rw[rounds_succ];go_wp2;go_ret;exact END.out
 subst hv;have hgl:g<w1.heap.size:=(World.ownsRow.lt ho1 g rfl).2;unfold maxLen at hc;unfold OwnT at ho1;rw[← hnn] at ho1 hcn hl ⊢;clear hg hnn;go_wp2;go_loopw [10] (fun i wr=>∃ (k:Nat) (us:List TV),k≤nn∧i=.int .i64 k∧wr.ownsRow w.heap.size 118 4 (.slice (some ⟨g,0,none⟩) nn cap) nn (TVs (us++ts.drop k))∧Hid (us.length=k∧us.map (·.T)=(ts.take k).map (·.T)∧InT wr w.heap.size us∧(oneB (.slice (some ⟨g,0,none⟩) nn cap)++tblks us).Nodup)∧g<wr.heap.size∧Below w.heap.size w wr) (fun i _=>nn-(intOf i).toNat)
 case atStart=>exact⟨0,[],Nat.zero_le _,rfl,by simpa using ho1,⟨rfl,rfl,(fun t ht=>by cases ht),by simp[tblks,zX]⟩,hgl,hb1⟩
 case round =>
  obtain⟨k,us,hk,rfl,ho,HC,hs,hb⟩:=hrel;clear ho1 hb1 hgl;by_cases hlt:k<nn
  ·have hkl:k<ts.length:=by rw[← HNN.out];exact hlt
   have hkc:k<cap:=by omega
   have hlen:(us++ts.drop k).length=nn:=by rw[List.length_append,HC.out.1,List.length_drop,HNN.out];omega
   have hcell:=zbg ho hlen.symm k hlt;rw[zox HC.out.1 hkl] at hcell;have HSM:Hid (∀ t,(us++ts.drop k).set k t=(us++[t])++ts.drop (k+1)):=fun t=>set_mid HC.out.1 hkl t
   have HMID:Hid (nthT (us++ts.drop k) k=nthT ts k):=zox HC.out.1 hkl;obtain⟨hri,hrs⟩:=HR.out wr k hb hlt;obtain⟨hn1,hn2,hn3⟩:=HL.out (nthT ts k) (by rw[zak hkl];exact List.getElem_mem hkl);have HTK:Hid ((ts.take (k+1)).map (·.T)=(ts.take k).map (·.T)++[(nthT ts k).T]):=by unfold Hid;rw[zhb hkl,List.map_append];rfl
   have HRW:Hid (∀ W,Below w.heap.size w W→RdI W (nthT ts k).vb (nthT ts k).T.bits∧RdS W (nthT ts k).vk (nthT ts k).T.blocks):=fun W h=>HR.out W k h hlt
   generalize nthT ts k=t at hcell hri hrs hn1 hn2 hn3 HTK HMID HRW;obtain⟨T,vb,vk⟩:=t;unfold TabAt at hcell;simp only at hcell hri hrs hn1 hn2 hn3 HTK HRW;have HBN:Hid (T.bits.length≤1000000000):=hn1;have HKN:Hid (T.blocks.length≤1000000000):=hn2;have HRI:Hid (RdI wr vb T.bits):=hri;have HRS:Hid (RdS wr vk T.blocks):=hrs;obtain⟨ai,ci,hvi,-⟩:=id hri;obtain⟨ak,ck,hvk,-⟩:=id hrs;generalize T.bits.length=bn at hvi;generalize T.blocks.length=kn at hvk;subst hvi;subst hvk;obtain⟨c0,c1,c2,c3⟩:=hcell;have hx1:=zbQ wr T.first T.last (.slice ai bn ci) (.slice ak kn ck);have bb1:=za wr (.cells #[.string T.first,.string T.last,.slice ai bn ci,.slice ak kn ck] 118);have s1:(wr.alloc (.cells #[.string T.first,.string T.last,.slice ai bn ci,.slice ak kn ck] 118)).heap.size=wr.heap.size+1:=by simp
   obtain⟨y0,y1,y2,y3,-⟩:=hx1.facts;clear hn1 hn2 hri hrs hkl;go_wp2_with fail
   generalize wr.alloc (.cells #[.string T.first,.string T.last,.slice ai bn ci,.slice ak kn ck] 118)=W1 at hx1 bb1 s1 y0 y1 y2 y3 ⊢;refine(zcg (.slice ai bn ci) T.bits _ (HRI.out.below bb1) HBN.out).mono ?_;rintro e w2 ⟨ub,rfl,hub,hb2⟩;have bb2:Below wr.heap.size wr w2:=bb1.trans (hb2.mono bb1.size);have hx2:=hx1.below hb2;have ho2:=zaB ho bb2;have hcell2:=zbg ho2 hlen.symm k hlt;rw[HMID.out] at hcell2;obtain⟨e0,e1,e2,e3⟩:=hcell2;have f2:=ho2.frozenAt (k*4+2);have R1:=zfk ho2 (k:=k) (j:=2) (by rw[hlen];exact hlt) (by omega) (u:=ub) (e':=⟨T,ub,.slice ak kn ck⟩) (by rw[HMID.out];rfl);rw[HSM.out] at R1;have hs2:wr.heap.size+1≤w2.heap.size:=by rw[← s1];exact hb2.size
   have hxne:wr.heap.size≠g:=by omega
   have HUB:Hid (OwnI w2 wr.heap.size ub T.bits):=OwnI.mono hub (by omega);obtain⟨ab,cb,hvb,-⟩:=id hub.rd;generalize T.bits.length=bn2 at hvb;subst hvb;have hubG:∀ q,(Value.slice ab bn2 cb).ownBlock=some q→g≠q:=fun q hq e=>by have:=(World.ownsRow.lt hub q hq).1;omega
   have hx3:BoxT (w2.setCell ⟨g,k*4+2,none⟩ (.slice ab bn2 cb)) wr.heap.size T.first T.last (.slice ai bn ci) (.slice ak kn ck):=hx2.block (heap_setCell_other w2 ⟨g,k*4+2,none⟩ wr.heap.size _ hxne);have HUB3:Hid (OwnI (w2.setCell ⟨g,k*4+2,none⟩ (.slice ab bn2 cb)) wr.heap.size (.slice ab bn2 cb) T.bits):=zg HUB.out hubG;have s3:(w2.setCell ⟨g,k*4+2,none⟩ (.slice ab bn2 cb)).heap.size=w2.heap.size:=by simp
   have bw3:Below w.heap.size w (w2.setCell ⟨g,k*4+2,none⟩ (.slice ab bn2 cb)):=(hb.trans (bb2.mono hb.size)).setCell (p:=⟨g,k*4+2,none⟩) hBg _;have HIN3:Hid (InT (w2.setCell ⟨g,k*4+2,none⟩ (.slice ab bn2 cb)) w.heap.size us):=fun t ht=>⟨zg ((HC.out.2.2.1.below bb2) t ht).1 (fun q hq e=>zh ((HC.out.2.2.1.below bb2) t ht).1 ho2 (by decide) q hq (by rw[← e];rfl)),zg ((HC.out.2.2.1.below bb2) t ht).2 (fun q hq e=>zh ((HC.out.2.2.1.below bb2) t ht).2 ho2 (by decide) q hq (by rw[← e];rfl))⟩
   have H3:Hid (World.ownsRow _ _ _ _ _ _ _):=R1;obtain⟨z0,z1,z2,z3,-⟩:=hx3.facts;have hlen3:((us++[(⟨T,.slice ab bn2 cb,.slice ak kn ck⟩:TV)])++ts.drop (k+1)).length=nn:=by rw[← HSM.out,List.length_set];exact hlen
   have HMID3:Hid (nthT ((us++[(⟨T,.slice ab bn2 cb,.slice ak kn ck⟩:TV)])++ts.drop (k+1)) k=⟨T,.slice ab bn2 cb,.slice ak kn ck⟩):=by unfold Hid;rw[← HSM.out];exact zbr (by rw[hlen];exact hlt) _
   have HSET3:Hid (∀ t,((us++[(⟨T,.slice ab bn2 cb,.slice ak kn ck⟩:TV)])++ts.drop (k+1)).set k t=(us++[t])++ts.drop (k+1)):=fun t=>by rw[← HSM.out,List.set_set];exact HSM.out t
   clear R1 ho2 hub hb2 bb1 hx1 hx2 c0 c1 c2 c3 y0 y1 y2 y3 HRI HRS HUB;go_wp2_with fail
   generalize w2.setCell ⟨g,k*4+2,none⟩ (.slice ab bn2 cb)=W3 at hx3 HUB3 s3 bw3 HIN3 H3 z0 z1 z2 z3 ⊢;refine(zhj (.slice ak kn ck) T.blocks _ (HRW.out _ bw3).2 hn3 HKN.out).mono ?_;rintro e w4 ⟨uk,rfl,huk,hb4⟩;have ho4:=zaB H3.out hb4;have hcell4:=zbg ho4 hlen3.symm k hlt;rw[HMID3.out] at hcell4;obtain⟨k0,k1,k2,k3⟩:=hcell4;have f3:=ho4.frozenAt (k*4+3);have R5:=zfk ho4 (k:=k) (j:=3) (by rw[hlen3];exact hlt) (by omega) (u:=uk) (e':=⟨T,.slice ab bn2 cb,uk⟩) (by rw[HMID3.out];rfl);rw[HSET3.out] at R5;have s34:=hb4.size;have hgs:g<w4.heap.size:=by omega
   have hukG:∀ q,uk.ownBlock=some q→g≠q:=fun q hq e=>by have:=(World.ownsRow.lt huk q hq).1;omega
   have HUK5:OwnS (w4.setCell ⟨g,k*4+3,none⟩ uk) wr.heap.size uk T.blocks:=zg (OwnS.mono huk (by omega)) hukG;have HUB5:OwnI (w4.setCell ⟨g,k*4+3,none⟩ uk) wr.heap.size (.slice ab bn2 cb) T.bits:=zg (HUB3.out.below hb4) hubG;have HIN5:InT (w4.setCell ⟨g,k*4+3,none⟩ uk) w.heap.size us:=fun t ht=>⟨zg ((HIN3.out.below hb4) t ht).1 (fun q hq e=>zh ((HIN3.out.below hb4) t ht).1 ho4 (by decide) q hq (by rw[← e];rfl)),zg ((HIN3.out.below hb4) t ht).2 (fun q hq e=>zh ((HIN3.out.below hb4) t ht).2 ho4 (by decide) q hq (by rw[← e];rfl))⟩
   have bw5:Below w.heap.size w (w4.setCell ⟨g,k*4+3,none⟩ uk):=(bw3.trans (hb4.mono bw3.size)).setCell (p:=⟨g,k*4+3,none⟩) hBg _;have HC5:Hid ((us++[(⟨T,.slice ab bn2 cb,uk⟩:TV)]).length=k+1∧(us++[(⟨T,.slice ab bn2 cb,uk⟩:TV)]).map (·.T)=(ts.take (k+1)).map (·.T)∧InT (w4.setCell ⟨g,k*4+3,none⟩ uk) w.heap.size (us++[(⟨T,.slice ab bn2 cb,uk⟩:TV)])∧(oneB (.slice (some ⟨g,0,none⟩) nn cap)++tblks (us++[(⟨T,.slice ab bn2 cb,uk⟩:TV)])).Nodup):=by
    obtain⟨g1,g2,g3,g4⟩:=HC.out;refine⟨by rw[List.length_append,g1];rfl,by rw[List.map_append,g2,HTK.out];rfl,HIN5.push (HUB5.mono hb.size) (HUK5.mono hb.size),nod_push (fun q hq=>by have:g=q:=Option.some.inj hq;omega) g3 g4 HUB5 HUK5⟩
   have H5:Hid (World.ownsRow _ _ _ _ _ _ _):=R5;obtain⟨ak2,ck2,hvk2,-⟩:=id huk.rd;generalize T.blocks.length=kn2 at hvk2;subst hvk2;clear R5 ho4 huk hb4 hx3 z0 z1 z2 z3 e0 e1 e2 e3 f2 HUB3 HIN3 H3 HUK5 HUB5 HIN5 bw3 HC ho hb;go_wp2;go_roundw
   case rel=>exact⟨k+1,_,by omega,by go_num,H5.out,HC5,by simpa using hgs,bw5⟩
   case measure=>simp[intOf];omega
  ·have hke:k=nn:=by omega
   have HEND:Hid (zhA w ts (.returned (.slice (some ⟨g,0,none⟩) nn cap)) wr):=by
    obtain⟨g1,g2,g3,g4⟩:=HC.out;refine⟨_,us,rfl,by rw[g2,hke,HNN.out,List.take_length],⟨?_,g3,g4⟩,hb⟩;unfold OwnT;rw[g1,hke];rw[hke,HNN.out,List.drop_length,List.append_nil,← HNN.out] at ho;exact ho
   clear ho HC hke;go_wp2;go_ret;exact HEND.out
end Go.Proofs.YtannfbpohhnnkaaGreatDoor
