import Derived.Test.YtjlnchhgkfnldaaGreatG17
import Derived.Test.YtjlnchhgkfnldaaGreatG20
import Derived.OpenShut
import Derived.Deep.Slices
import Derived.ChangeArms
namespace Go.Proofs.YtjlnchhgkfnldaaGreat
set_option maxHeartbeats 16000000
set_option maxRecDepth 100000
open Go.RowKit
structure OwnLL (w:World) (lo mid hi:Nat) (v:Value) (us:List (Value×List Ent)):Prop where
 row:OwnP w lo v us
 rowlt:∀ k,v.ownBlock=some k→k<mid
 ins:∀ p∈us,OwnE w mid p.1 p.2∧∀ k,p.1.ownBlock=some k→k<hi
 apart:us.Pairwise (fun p q=>∀ k,p.1.ownBlock=some k→q.1.ownBlock≠some k)
 le:lo≤mid
theorem OwnLL.below{w w':World}{lo mid hi:Nat}{v:Value}{us:List (Value×List Ent)}(h:OwnLL w lo mid hi v us)(hb:Below w.heap.size w w'):OwnLL w' lo mid hi v us :=
 ⟨h.row.below hb,h.rowlt,fun p hp=>⟨(h.ins p hp).1.below hb,(h.ins p hp).2⟩,h.apart,h.le⟩
theorem OwnLL.pieces{w:World}{lo mid hi:Nat}{v:Value}{us:List (Value×List Ent)}(h:OwnLL w lo mid hi v us):Pieces w v us:=h.row.pieces (fun p hp=>(h.ins p hp).1.rd)
def Lists(w:World)(v:Value)(ps:List (Value×List Ent)):Prop :=
 ∃ a cap,v=.slice a ps.length cap∧ps.length≤cap∧cap≤maxLen∧(ps=[]∨∃ b off,a=some ⟨b,off,none⟩∧∀ i (h:i<ps.length),w.cell? ⟨b,off+i,none⟩=some (ps[i].1)∧RdE w ps[i].1 ps[i].2)
theorem Lists.below{w w':World}{v:Value}{ps:List (Value×List Ent)}(h:Lists w v ps)(hb:Below w.heap.size w w'):Lists w' v ps:=by
 obtain⟨a,cap,hv,h1,h2,h3⟩:=h;refine⟨a,cap,hv,h1,h2,?_⟩;rcases h3 with h3 | ⟨b,off,ha,hc⟩
 ·exact .inl h3
 ·exact .inr ⟨b,off,ha,fun i hi=>⟨by rw[hb.cell (World.block_lt_of_cell? w _ (hc i hi).1)];exact(hc i hi).1,(hc i hi).2.below hb⟩⟩
theorem Lists.at{w:World}{v:Value}{ps:List (Value×List Ent)}(hp:Lists w v ps):∃ a cap,v=.slice a ps.length cap∧ps.length≤cap∧cap≤maxLen ∧
 ∀ k,k<ps.length→∀ w',Below w.heap.size w w'→∃ b off aa zn cc zs,a=some ⟨b,off,none⟩∧w'.cell? ⟨b,off+k,none⟩=some (.slice aa zn cc)∧RdE w' (.slice aa zn cc) zs∧(ps.map (·.2))[k]? = some zs:=by
 obtain⟨a,cap,hv,h1,h2,h3⟩:=hp;refine⟨a,cap,hv,h1,h2,fun k hk w' hb=>?_⟩;rcases h3 with h3 | ⟨b,off,ha,hc⟩
 ·subst h3;simp at hk
 ·obtain⟨aa,cc,hu,_⟩:=id (hc k hk).2;have e1:=(hc k hk).1;have e2:=(hc k hk).2;rw[hu] at e1 e2;exact⟨b,off,aa,_,cc,_,ha,(hb.cell (World.block_lt_of_cell? w _ e1)).trans e1,e2.below hb,by simp[hk]⟩
open Go.RowKit Go.ChangeShapes Go.WideShapes
def Held(e:Ent):Prop:=e.key.size≤maxLen∧e.val.size≤maxLen∧-9223372036854775808≤e.seq∧e.seq≤9223372036854775807
open Go.RowKit
def HeldT(T:Tbl):Prop:=T.first.size≤maxLen∧T.last.size≤maxLen∧∀ s∈T.blocks,s.size≤maxLen
def SmallT(T:Tbl):Prop:=T.first.size≤1048576∧T.last.size≤1048576∧∀ s∈T.blocks,s.size≤1048576
def tsz(ts:List TV):Nat:=(ts.map (fun t=>1+t.T.bits.length+t.T.blocks.length)).sum
structure HeldTr (X:TrX):Prop where
 mem:∀ e∈X.mem,Held e
 young:∀ t∈X.ys,HeldT t.T
 old:∀ t∈X.os,HeldT t.T
structure SmallTr (X:TrX):Prop where
 sum:X.mem.length+tsz X.ys+tsz X.os+X.snaps.length≤1048576
 mem:∀ x∈X.mem,x.key.size≤1048576∧x.val.size≤1048576
 young:∀ t∈X.ys,SmallT t.T
 old:∀ t∈X.os,SmallT t.T
theorem SmallTr.fit{X:TrX}(h:SmallTr X)(hh:HeldTr X):FitTr X :=
 ⟨fun e he=>⟨by have:=(h.mem e he).1;omega,by have:=(h.mem e he).2;omega,(hh.mem e he).2.2.1,(hh.mem e he).2.2.2⟩,fun t ht s hs=>by have:=(h.young t ht).2.2 s hs;omega,fun t ht s hs=>by have:=(h.old t ht).2.2 s hs;omega⟩
open Go.RowKit
theorem zoR(a:TV)(r:List TV):nthT (a::r) 0=a:=rfl
theorem znW(a:TV)(r:List TV)(i:Nat):nthT (a::r) (i+1)=nthT r i:=by simp[nthT,List.getD]
theorem zjj:∀ (es:List TV) (k:Nat),k<es.length→∀ (j:Nat),j<4→∀ (u:Value) (e':TV),(TC (nthT es k)).set j u=TC e'→(TVs es).set (k*4+j) u=TVs (es.set k e')
 | [],k,h,_,_,_,_,_=>by simp at h
 | a::r,0,_,j,hj,u,e',h=>by
  rw[zoR] at h;rw[zcd,Nat.zero_mul,Nat.zero_add,List.set_append_left _ _ (by simp[TC];exact hj),h,List.set_cons_zero,zcd]
 | a::r,k+1,hk,j,hj,u,e',h=>by
  rw[znW] at h;rw[zcd,List.set_append_right _ _ (by simp[TC];omega),List.set_cons_succ,zcd,← zjj r k (by simpa using hk) j hj u e' h];congr 2
  simp[TC];omega
theorem zhl{w:World}{base g cap n:Nat}{es:List TV}(ho:w.ownsRow base 56 4 (.slice (some ⟨g,0,none⟩) n cap) n (TVs es)){k j:Nat}(hk:k<es.length)(hj:j<4){u:Value}{e':TV}(h:(TC (nthT es k)).set j u=TC e') :
 (w.setCell ⟨g,k*4+j,none⟩ u).ownsRow base 56 4 (.slice (some ⟨g,0,none⟩) n cap) n (TVs (es.set k e')):=by
 have:=(ho.stored (k*4+j) u).1;rwa [zjj es k hk j hj u e' h] at this
theorem zhQ{es:List TV}{k:Nat}(hk:k<es.length)(e:TV):nthT (es.set k e) k=e:=by
 rw[zba (by rw[List.length_set];exact hk),List.getElem_set_self]
theorem zfc{w:World}{base g cap n:Nat}{ts:List TV}(h:w.ownsRow base 56 4 (.slice (some ⟨g,0,none⟩) n cap) n (TVs ts))(hn:n=ts.length)(i:Nat)(hi:i<n):TabAt w g (i*4) (nthT ts i):=by
 have hg:=fun j (hj:j<4)=>(h.cellAt (i*4+j) (by omega)).trans (zgm ts i (by omega) j hj)
 exact⟨hg 0 (by omega),hg 1 (by omega),hg 2 (by omega),hg 3 (by omega)⟩
def tblks(ts:List TV):List Nat:=ts.flatMap (fun t=>oneB t.vb++oneB t.vk)
structure OwnTs (w:World) (lo:Nat) (v:Value) (ts:List TV):Prop where
 row:OwnT w lo v ts
 ins:InT w lo ts
 nod:(oneB v++tblks ts).Nodup
theorem OwnTs.below{w w':World}{lo:Nat}{v:Value}{ts:List TV}(h:OwnTs w lo v ts)(hb:Below w.heap.size w w'):OwnTs w' lo v ts:=⟨h.row.below hb,h.ins.below hb,h.nod⟩
theorem OwnTs.mono{w:World}{lo lo':Nat}{v:Value}{ts:List TV}(h:OwnTs w lo v ts)(hb:lo'≤lo):OwnTs w lo' v ts:=⟨h.row.mono hb,h.ins.mono hb,h.nod⟩
theorem OwnTs.rd{w:World}{lo:Nat}{v:Value}{ts:List TV}(h:OwnTs w lo v ts):RdTs w v ts:=h.row.rd h.ins
theorem zj9{ts:List TV}{k:Nat}(h:k∈tblks ts):∃ t∈ts,t.vb.ownBlock=some k∨t.vk.ownBlock=some k:=by
 unfold tblks at h;obtain⟨t,ht,hk⟩:=List.mem_flatMap.1 h;rcases List.mem_append.1 hk with hk | hk
 ·exact⟨t,ht,.inl (mem_oneB.1 hk)⟩
 ·exact⟨t,ht,.inr (mem_oneB.1 hk)⟩
theorem zbG{w:World}{lo:Nat}{ts:List TV}(h:InT w lo ts){k:Nat}(hk:k∈tblks ts):lo≤k∧k<w.heap.size:=by
 obtain⟨t,ht,e | e⟩:=zj9 hk
 ·exact oL (h t ht).1 k e
 ·exact oL (h t ht).2 k e
theorem OwnTs.bound{w:World}{lo:Nat}{v:Value}{ts:List TV}(h:OwnTs w lo v ts){k:Nat}(hk:k∈oneB v++tblks ts):lo≤k∧k<w.heap.size:=by
 rcases List.mem_append.1 hk with hk | hk
 ·exact oL h.row k (mem_oneB.1 hk)
 ·exact zbG h.ins hk
theorem zmv(ts:List TV)(t:TV):tblks (ts++[t])=tblks ts++(oneB t.vb++oneB t.vk):=by simp[tblks]
theorem zap(v:Value):(oneB v).Nodup:=by
 unfold oneB;cases v.ownBlock<;>simp
theorem nod_push{w w':World}{lo:Nat}{v:Value}{ts:List TV}{t:TV}(hv:∀ k,v.ownBlock=some k→k<w.heap.size)(hi:InT w lo ts)(hn:(oneB v++tblks ts).Nodup)(h1:OwnI w' w.heap.size t.vb t.T.bits)(h2:OwnS w' w.heap.size t.vk t.T.blocks):(oneB v++tblks (ts++[t])).Nodup:=by
 rw[zmv,← List.append_assoc,List.nodup_append];refine⟨hn,?_,fun a ha b hb e=>?_⟩
 ·rw[List.nodup_append];refine⟨zap _,zap _,fun a ha b hb e=>?_⟩;subst e;exact zh h1 h2 (by decide) a (mem_oneB.1 ha) (mem_oneB.1 hb)
 ·subst e;have hlt:a<w.heap.size:=by
   rcases List.mem_append.1 ha with ha | ha
   ·exact hv a (mem_oneB.1 ha)
   ·exact(zbG hi ha).2
  rcases List.mem_append.1 hb with hb | hb
  ·have:=(oL h1 a (mem_oneB.1 hb)).1;omega
  ·have:=(oL h2 a (mem_oneB.1 hb)).1;omega
def zgL(w:World)(ts:List TV)(e:Ending)(w':World):Prop:=∃ u us,e=.returned u∧us.map (·.T)=ts.map (·.T)∧OwnTs w' w.heap.size u us∧Below w.heap.size w w'
open Go.RowKit
theorem OwnTs.base{w:World}{B c j:Nat}{v u:Value}{ts:List TV}(h:OwnTs w B v ts)(hc:c<B):OwnTs (w.setCell ⟨c,j,none⟩ u) B v ts:=⟨zaC h.row hc,fun t ht=>⟨zaC (h.ins t ht).1 hc,zaC (h.ins t ht).2 hc⟩,h.nod⟩
theorem OwnTs.put5{w:World}{B c:Nat}{v u0 u1 u2 u3 u4:Value}{ts:List TV}(h:OwnTs w B v ts)(hc:c<B):OwnTs (put5 w c u0 u1 u2 u3 u4) B v ts:=((((h.base hc).base hc).base hc).base hc).base hc
def trB(Y:TrX):List Nat:=oneB Y.vm++((oneB Y.vy++tblks Y.ys)++((oneB Y.vo++tblks Y.os)++oneB Y.vs))
structure OwnTree (w:World) (lo:Nat) (Y:TrX):Prop where
 mem:OwnE w lo Y.vm Y.mem
 young:OwnT w lo Y.vy Y.ys
 youngs:InT w lo Y.ys
 old:OwnT w lo Y.vo Y.os
 olds:InT w lo Y.os
 snaps:OwnI w lo Y.vs Y.snaps
 nod:(trB Y).Nodup
theorem OwnTree.below{w w':World}{lo:Nat}{Y:TrX}(h:OwnTree w lo Y)(hb:Below w.heap.size w w'):OwnTree w' lo Y:=⟨h.mem.below hb,h.young.below hb,h.youngs.below hb,h.old.below hb,h.olds.below hb,h.snaps.below hb,h.nod⟩
theorem OwnTree.mono{w:World}{lo lo':Nat}{Y:TrX}(h:OwnTree w lo Y)(hb:lo'≤lo):OwnTree w lo' Y:=⟨h.mem.mono hb,h.young.mono hb,h.youngs.mono hb,h.old.mono hb,h.olds.mono hb,h.snaps.mono hb,h.nod⟩
theorem OwnTree.rd{w:World}{lo:Nat}{Y:TrX}(h:OwnTree w lo Y):RdTr w Y:=⟨h.mem.rd,h.young.rd h.youngs,h.old.rd h.olds,h.snaps.rd⟩
theorem OwnTree.bound{w:World}{lo:Nat}{Y:TrX}(h:OwnTree w lo Y){k:Nat}(hk:k∈trB Y):lo≤k∧k<w.heap.size:=by
 unfold trB at hk;rcases List.mem_append.1 hk with hk | hk
 ·exact oL h.mem k (mem_oneB.1 hk)
 rcases List.mem_append.1 hk with hk | hk
 ·rcases List.mem_append.1 hk with hk | hk
  ·exact oL h.young k (mem_oneB.1 hk)
  ·exact zbG h.youngs hk
 rcases List.mem_append.1 hk with hk | hk
 ·rcases List.mem_append.1 hk with hk | hk
  ·exact oL h.old k (mem_oneB.1 hk)
  ·exact zbG h.olds hk
 ·exact oL h.snaps k (mem_oneB.1 hk)
theorem zlk{a b:List Nat}{m:Nat}(h1:a.Nodup)(h2:b.Nodup)(ha:∀ k∈a,k<m)(hb:∀ k∈b,m≤k):(a++b).Nodup:=by
 rw[List.nodup_append];exact⟨h1,h2,fun x hx y hy e=>by have:=ha x hx;have:=hb y hy;omega⟩
theorem zfo{a b:List Nat}{m:Nat}(ha:∀ k∈a,m≤k)(hb:∀ k∈b,m≤k):∀ k∈a++b,m≤k:=fun k hk=>by
 rcases List.mem_append.1 hk with h | h
 ·exact ha k h
 ·exact hb k h
theorem zag(w:World)(vm vy vo vs:Value)(q:Int):BoxTr (w.alloc (.cells #[vm,vy,vo,.int .i64 q,vs] 28)) w.heap.size vm vy vo q vs:=heap_alloc_new w _
theorem zck{w:World}{b:Nat}{vm vy vo vs:Value}{q:Int}(h:BoxTr w b vm vy vo q vs)(u:Value):BoxTr (w.setCell ⟨b,0,none⟩ u) b u vy vo q vs:=heap_setCell_same w b 0 _ _ u h
theorem zbF{w:World}{b:Nat}{vm vy vo vs:Value}{q:Int}(h:BoxTr w b vm vy vo q vs)(u:Value):BoxTr (w.setCell ⟨b,1,none⟩ u) b vm u vo q vs:=heap_setCell_same w b 1 _ _ u h
theorem zbI{w:World}{b:Nat}{vm vy vo vs:Value}{q:Int}(h:BoxTr w b vm vy vo q vs)(u:Value):BoxTr (w.setCell ⟨b,2,none⟩ u) b vm vy u q vs:=heap_setCell_same w b 2 _ _ u h
theorem zho{w:World}{b:Nat}{vm vy vo vs:Value}{q:Int}(h:BoxTr w b vm vy vo q vs)(r:Int):BoxTr (w.setCell ⟨b,3,none⟩ (.int .i64 r)) b vm vy vo r vs:=heap_setCell_same w b 3 _ _ _ h
theorem zcX{w:World}{b:Nat}{vm vy vo vs:Value}{q:Int}(h:BoxTr w b vm vy vo q vs)(u:Value):BoxTr (w.setCell ⟨b,4,none⟩ u) b vm vy vo q u:=heap_setCell_same w b 4 _ _ u h
theorem zD{w:World}{b c j:Nat}{vm vy vo vs u:Value}{q:Int}(h:BoxTr w b vm vy vo q vs)(hn:b≠c):BoxTr (w.setCell ⟨c,j,none⟩ u) b vm vy vo q vs:=(heap_setCell_other w ⟨c,j,none⟩ b u hn).trans h
theorem BoxTr.on{w w':World}{b:Nat}{vm vy vo vs:Value}{q:Int}(h:BoxTr w b vm vy vo q vs)(hb:Below w.heap.size w w'):BoxTr w' b vm vy vo q vs:=(hb.block b h.lt).trans h
theorem zf6{w:World}{b c j:Nat}{X:TrX}{u:Value}(h:TreAt w b X)(hn:b≠c):TreAt (w.setCell ⟨c,j,none⟩ u) b X:=h.of_block (heap_setCell_other w ⟨c,j,none⟩ b u hn)
def ToTr(w:World)(X:TrX)(e:Ending)(w':World):Prop:=∃ Y:TrX,e=.returned (.agg #[Y.vm,Y.vy,Y.vo,.int .i64 Y.seq,Y.vs])∧Y.tre=X.tre∧OwnTree w' w.heap.size Y∧Below w.heap.size w w'
open Go.RowKit
theorem zcL(v:Value)(bs:List Int)(w:World)(hr:RdI w v bs)(hl:bs.length≤1000000000) :
 Calls Tryz.prog 36 #[v] w fun e w'=>∃ u,e=.returned u∧OwnI w' w.heap.size u bs∧Below w.heap.size w w':=by
 have hoi:=zcn w;have b0:=ze w (.cells #[] 2);have hr0:=hr.below b0;go_enter Tryz.func36,Tryz.ntmps36
 go_wp2_with (at_builtin;(refine zaw rfl _ _ rfl w.heap.size _ _ [] bs rfl rfl hoi hr0 (by simp;omega) (by simp) ?_))
 intro u w1 ho hg;have b1:Below w.heap.size w w1:=b0.grown hg (by simp) (fun k hk=>by have:w.heap.size=k:=Option.some.inj hk;omega);clear hoi b0 hr0 hg;go_wp2;go_ret;exact⟨u,rfl,ho,b1⟩
theorem zgw(v:Value)(bs:List ByteArray)(w:World)(hr:RdS w v bs)(hn:NilOk v)(hl:bs.length≤1000000000) :
 Calls Tryz.prog 98 #[v] w fun e w'=>∃ u,e=.returned u∧OwnS w' w.heap.size u bs∧Below w.heap.size w w':=by
 have hoi:=zgP w;have b0:=ze w (.cells #[] 9);have hr0:=hr.below b0;go_enter Tryz.func98,Tryz.ntmps98
 go_wp2_with (at_builtin;(refine zcy rfl _ _ rfl w.heap.size _ _ [] bs rfl rfl hoi hr0 hn (by simp;omega) (by simp) ?_))
 intro u w1 ho hg;have b1:Below w.heap.size w w1:=b0.grown hg (by simp) (fun k hk=>by have:w.heap.size=k:=Option.some.inj hk;omega);clear hoi b0 hr0 hg;go_wp2;go_ret;exact⟨u,rfl,ho,b1⟩
theorem TVs_nth{ts:List TV}{j:Nat}{u:Value}(h:(TVs ts)[j]? = some u):j / 4<ts.length∧(TC (nthT ts (j / 4)))[j % 4]? = some u:=by
 have hl:=(List.getElem?_eq_some_iff.1 h).1;rw[zch] at hl;have h1:j / 4<ts.length:=by omega
 refine⟨h1,?_⟩;have h2:=zgm ts (j / 4) h1 (j % 4) (by omega);rw[show j / 4*4+j % 4=j by omega] at h2;rw[← h2];exact h
theorem TabAt.cellAt{w:World}{b o:Nat}{t:TV}(h:TabAt w b o t){j:Nat}{u:Value}(hu:(TC t)[j]? = some u):w.cell? ⟨b,o+j,none⟩=some u:=by
 obtain⟨h0,h1,h2,h3⟩:=h;match j,hu with
 | 0,hu=>simp[TC] at hu;subst hu;exact h0
 | 1,hu=>simp[TC] at hu;subst hu;exact h1
 | 2,hu=>simp[TC] at hu;subst hu;exact h2
 | 3,hu=>simp[TC] at hu;subst hu;exact h3
theorem zki{w:World}{b off:Nat}{ts:List TV}(h:∀ i,i<ts.length→TabAt w b (off+i*4) (nthT ts i)):∀ j u,(TVs ts)[j]? = some u→w.cell? ((⟨b,off,none⟩:Addr).add j)=some u:=by
 intro j u hu;obtain⟨h1,h2⟩:=TVs_nth hu;have:=(h _ h1).cellAt h2;rw[Addr.add_lit];rw[show off+j / 4*4+j % 4=off+j by omega] at this;exact this
theorem zgO{w:World}{ts:List TV}(h:∀ t∈ts,RdI w t.vb t.T.bits∧RdS w t.vk t.T.blocks):∀ u∈TVs ts,u.oneCell'=true:=by
 intro u hu;obtain⟨t,ht,hu⟩:=List.mem_flatMap.1 hu;obtain⟨⟨a,c,e1,-⟩,⟨a2,c2,e2,-⟩⟩:=h t ht;simp[TC] at hu;rcases hu with rfl | rfl | rfl | rfl
 ·rfl
 ·rfl
 ·rw[e1];rfl
 ·rw[e2];rfl
theorem zdz(ty:TypeId){w:World}{base:Nat}{v u:Value}{us ts:List TV}(hown:OwnT w base v us)(hr:RdTs w u ts)(hn:NilOk u)(hl:us.length+ts.length≤10000000)(hbase:base≤w.heap.size) :
 ∃ v' w',(Builtin.append_ #[25,25] ty #[v,u]).run Tryz.prog w=.ok v' w'∧OwnT w' base v' (us++ts)∧w.grownBy w' v.ownBlock:=by
 obtain⟨i0,hi,hz0,hz1,hz2⟩:=info_parts Tryz.infoT56;obtain⟨a,cap,rfl,h1,h2,h3,h4⟩:=hr;have more:∀ {w1:World} {v':Value},w1.ownsRow base 56 4 v' (us.length+ts.length) (TVs us++TVs ts)→OwnT w1 base v' (us++ts):=fun h=>by unfold OwnT;rw[zhN,lA];exact h
 have row:∀ ad news,news=TVs ts→(∀ j u,news[j]? = some u→w.cell? (ad.add j)=some u)→∃ v' w',(Builtin.append_ #[25,25] ty #[v,.slice (some ad) ts.length cap]).run Tryz.prog w=.ok v' w'∧OwnT w' base v' (us++ts)∧w.grownBy w' v.ownBlock:=by
  intro ad news hn hc;subst hn;obtain⟨v',w',hrun,r1,r2,_⟩:=run_append_own (P:=Tryz.prog) w base 25 ty 56 i0 _ 4 80 Tryz.underlying25 hi hz0 hz1 hz2 rfl (by decide) v us.length (TVs us) hown ad ts.length cap (TVs ts) (zch ts) hc (zgO h4) (by unfold maxLen;omega) (by omega) hbase;exact⟨v',w',hrun,more r1,r2⟩
 cases a with
 | some ad =>
  refine row ad (TVs ts) rfl ?_;rcases h3 with rfl | ⟨b,off,ha,hc⟩
  ·intro j u hj;simp[TVs] at hj
  ·cases ha;exact zki hc
 | none =>
  have hc0:=hn _ _ rfl;subst hc0;rcases h3 with rfl | ⟨b,off,ha,hc⟩
  ·refine⟨v,w,run_append_owned_none (P:=Tryz.prog) w base 25 ty 56 i0 4 Tryz.underlying25 hi v us.length (TVs us) hown,by simpa using hown,⟨rfl,rfl,rfl,nR _,fun _ _ _=>rfl⟩⟩
  ·cases ha
theorem zeV{w:World}{ops:Array Oper}{rest:List Oper}{o:Oper}{a:Act}{Q:Exit→Act→World→Prop}(hgd:o.guard=none)(s x:Operand)
 (ho:o.op=.call { callee:=.builtin .append,args:=#[s,x],argTypes:=#[25,25] }) (base:Nat) (v u:Value) (us ts:List TV) (hs:a.eval s=v) (hx:a.eval x=u) (hown:OwnT w base v us) (hr:RdTs w u ts) (hn:NilOk u) (hl:us.length+ts.length≤10000000) (hbase:base≤w.heap.size)
 (h:∀ v' w',OwnT w' base v' (us++ts)→w.grownBy w' v.ownBlock→wpList Tryz.prog ops Q rest (a.put o.dst v') w'):wpList Tryz.prog ops Q (o::rest) a w:=by
 refine wpList_plain hgd fun K hK=>?_
 obtain⟨v',w',hrun,r1,r2⟩:=zdz o.type hown hr hn hl hbase;unfold Oper.wp;simp[execOp,ho,resolve,invoke,builtin,hs,hx,hrun,Result.andThen];exact hK _ _ (h v' w' r1 r2)
theorem zgl(v:Value)(ts:List TV)(w:World)(hr:RdTs w v ts)(hn:NilOk v)(hl:ts.length≤1000000) :
 Calls Tryz.prog 97 #[v] w fun e w'=>∃ u,e=.returned u∧OwnT w' w.heap.size u ts∧Below w.heap.size w w':=by
 have hoi:=zc2 w;have b0:=ze w (.cells #[] 56);have hr0:=hr.below b0;go_enter Tryz.func97,Tryz.ntmps97
 go_wp2_with (at_builtin;(refine zeV rfl _ _ rfl w.heap.size _ _ [] ts rfl rfl hoi hr0 hn (by simp;omega) (by simp) ?_))
 intro u w1 ho hg;have b1:Below w.heap.size w w1:=b0.grown hg (by simp) (fun k hk=>by have:w.heap.size=k:=Option.some.inj hk;omega);clear hoi b0 hr0 hg;go_wp2;go_ret;exact⟨u,rfl,ho,b1⟩
theorem zn8{us ts:List TV}{k:Nat}(hu:us.length=k)(hk:k<ts.length):nthT (us++ts.drop k) k=nthT ts k:=by
 rw[zba (by rw[lA,List.length_drop];omega),List.getElem_append_right (by omega),zba hk];simp[hu]
theorem set_mid{us ts:List TV}{k:Nat}(hu:us.length=k)(hk:k<ts.length)(t:TV):(us++ts.drop k).set k t=(us++[t])++ts.drop (k+1):=by
 rw[List.set_append_right _ _ (by omega),hu,Nat.sub_self,List.drop_eq_getElem_cons hk,List.set_cons_zero,List.append_assoc];rfl
theorem zed(v:Value)(ts:List TV)(w:World)(hr:RdTs w v ts)(hn:NilOk v)(hl:ts.length≤1000000)(hls:∀ t∈ts,t.T.bits.length≤1000000000∧t.T.blocks.length≤1000000000∧NilOk t.vk) :
 Calls Tryz.prog 60 #[v] w fun e w'=>zgL w ts e w':=by
 have HL:Hid (∀ t∈ts,t.T.bits.length≤1000000000∧t.T.blocks.length≤1000000000∧NilOk t.vk):=hls;have HC0:Hid (Calls _ _ _ _ _):=zgl v ts w hr hn hl;obtain⟨nn,hnn⟩:∃ nn,nn=ts.length:=⟨_,rfl⟩;have HNN:Hid (nn=ts.length):=hnn;have HR:Hid (∀ W k,Below w.heap.size w W→k<nn→RdI W (nthT ts k).vb (nthT ts k).T.bits∧RdS W (nthT ts k).vk (nthT ts k).T.blocks):=fun W k hb hk=>by
  obtain⟨a,cap,hv,-⟩:=id hr;subst hv;obtain⟨b,off,-,-,h1,h2⟩:=(hr.below hb).at k (by omega);exact⟨h1,h2⟩
 clear hls hn hr;go_enter Tryz.func60,Tryz.ntmps60
 go_wp2_with fail
 refine HC0.out.mono ?_;rintro e w1 ⟨u,rfl,ho1,hb1⟩;clear HC0;rcases ho1.2 with ⟨hv,h0⟩ | ⟨g,cap,cur,hv,hBg,hg,hcn,hc,_⟩
 ·have hts:ts=[]:=List.length_eq_zero_iff.1 h0;subst hv;have END:Hid (zgL w ts (.returned (.slice none 0 0)) w1):=⟨_,ts,rfl,rfl,⟨ho1,(by rw[hts];intro t ht;cases ht),(by rw[hts];simp[tblks,oneB,Value.ownBlock])⟩,hb1⟩;clear ho1 hb1 hts;go_wp2;refine wp_loop_rounds 1 ?_;rw[rounds_succ];go_wp2;go_ret;exact END.out
 subst hv;have hgl:g<w1.heap.size:=(oL ho1 g rfl).2;unfold maxLen at hc;unfold OwnT at ho1;rw[← hnn] at ho1 hcn hl ⊢;clear hg hnn;go_wp2;go_loopw [10] (fun i wr=>∃ (k:Nat) (us:List TV),k≤nn∧i=.int .i64 k∧wr.ownsRow w.heap.size 56 4 (.slice (some ⟨g,0,none⟩) nn cap) nn (TVs (us++ts.drop k))∧Hid (us.length=k∧us.map (·.T)=(ts.take k).map (·.T)∧InT wr w.heap.size us∧(oneB (.slice (some ⟨g,0,none⟩) nn cap)++tblks us).Nodup)∧g<wr.heap.size∧Below w.heap.size w wr) (fun i _=>nn-(intOf i).toNat)
 case atStart=>exact⟨0,[],Nat.zero_le _,rfl,by simpa using ho1,⟨rfl,rfl,(fun t ht=>by cases ht),by simp[tblks,zap]⟩,hgl,hb1⟩
 case round =>
  obtain⟨k,us,hk,rfl,ho,HC,hs,hb⟩:=hrel;clear ho1 hb1 hgl;by_cases hlt:k<nn
  ·have hkl:k<ts.length:=(by rw[← HNN.out];exact hlt);have hkc:k<cap:=(by omega);have hlen:(us++ts.drop k).length=nn:=(by rw[lA,HC.out.1,List.length_drop,HNN.out];omega);have hcell:=zfc ho hlen.symm k hlt;rw[zn8 HC.out.1 hkl] at hcell;have HSM:Hid (∀ t,(us++ts.drop k).set k t=(us++[t])++ts.drop (k+1)):=fun t=>set_mid HC.out.1 hkl t
   have HMID:Hid (nthT (us++ts.drop k) k=nthT ts k):=zn8 HC.out.1 hkl;obtain⟨hri,hrs⟩:=HR.out wr k hb hlt;obtain⟨hn1,hn2,hn3⟩:=HL.out (nthT ts k) (by rw[zba hkl];exact List.getElem_mem hkl);have HTK:Hid ((ts.take (k+1)).map (·.T)=(ts.take k).map (·.T)++[(nthT ts k).T]):=(by unfold Hid;rw[zj1 hkl,List.map_append];rfl);have HRW:Hid (∀ W,Below w.heap.size w W→RdI W (nthT ts k).vb (nthT ts k).T.bits∧RdS W (nthT ts k).vk (nthT ts k).T.blocks):=fun W h=>HR.out W k h hlt
   generalize nthT ts k=t at hcell hri hrs hn1 hn2 hn3 HTK HMID HRW;obtain⟨T,vb,vk⟩:=t;unfold TabAt at hcell;simp only at hcell hri hrs hn1 hn2 hn3 HTK HRW;have HBN:Hid (T.bits.length≤1000000000):=hn1;have HKN:Hid (T.blocks.length≤1000000000):=hn2;have HRI:Hid (RdI wr vb T.bits):=hri;have HRS:Hid (RdS wr vk T.blocks):=hrs;obtain⟨ai,ci,hvi,-⟩:=id hri;obtain⟨ak,ck,hvk,-⟩:=id hrs;generalize T.bits.length=bn at hvi;generalize T.blocks.length=kn at hvk;subst hvi;subst hvk;obtain⟨c0,c1,c2,c3⟩:=hcell;have hx1:=zbL wr T.first T.last (.slice ai bn ci) (.slice ak kn ck);have bb1:=ze wr (.cells #[.string T.first,.string T.last,.slice ai bn ci,.slice ak kn ck] 56);have s1:(wr.alloc (.cells #[.string T.first,.string T.last,.slice ai bn ci,.slice ak kn ck] 56)).heap.size=wr.heap.size+1:=(by simp);obtain⟨y0,y1,y2,y3,-⟩:=hx1.facts;clear hn1 hn2 hri hrs hkl;go_wp2_with fail
   generalize wr.alloc (.cells #[.string T.first,.string T.last,.slice ai bn ci,.slice ak kn ck] 56)=W1 at hx1 bb1 s1 y0 y1 y2 y3 ⊢;refine(zcL (.slice ai bn ci) T.bits _ (HRI.out.below bb1) HBN.out).mono ?_;rintro e w2 ⟨ub,rfl,hub,hb2⟩;have bb2:Below wr.heap.size wr w2:=bb1.trans (hb2.mono bb1.size);have hx2:=hx1.below hb2;have ho2:=zaZ ho bb2;have hcell2:=zfc ho2 hlen.symm k hlt;rw[HMID.out] at hcell2;obtain⟨e0,e1,e2,e3⟩:=hcell2;have f2:=ho2.frozenAt (k*4+2);have R1:=zhl ho2 (k:=k) (j:=2) (by rw[hlen];exact hlt) (by omega) (u:=ub) (e':=⟨T,ub,.slice ak kn ck⟩) (by rw[HMID.out];rfl);rw[HSM.out] at R1;have hs2:wr.heap.size+1≤w2.heap.size:=(by rw[← s1];exact hb2.size);have hxne:wr.heap.size≠g:=(by omega);have HUB:Hid (OwnI w2 wr.heap.size ub T.bits):=OwnI.mono hub (by omega);obtain⟨ab,cb,hvb,-⟩:=id hub.rd;generalize T.bits.length=bn2 at hvb;subst hvb;have hubG:∀ q,(Value.slice ab bn2 cb).ownBlock=some q→g≠q:=fun q hq e=>by have:=(oL hub q hq).1;omega
   have hx3:BoxT (w2.setCell ⟨g,k*4+2,none⟩ (.slice ab bn2 cb)) wr.heap.size T.first T.last (.slice ai bn ci) (.slice ak kn ck):=hx2.block (heap_setCell_other w2 ⟨g,k*4+2,none⟩ wr.heap.size _ hxne);have HUB3:Hid (OwnI (w2.setCell ⟨g,k*4+2,none⟩ (.slice ab bn2 cb)) wr.heap.size (.slice ab bn2 cb) T.bits):=zi HUB.out hubG;have s3:(w2.setCell ⟨g,k*4+2,none⟩ (.slice ab bn2 cb)).heap.size=w2.heap.size:=(by simp);have bw3:Below w.heap.size w (w2.setCell ⟨g,k*4+2,none⟩ (.slice ab bn2 cb)):=(hb.trans (bb2.mono hb.size)).setCell (p:=⟨g,k*4+2,none⟩) hBg _;have HIN3:Hid (InT (w2.setCell ⟨g,k*4+2,none⟩ (.slice ab bn2 cb)) w.heap.size us):=fun t ht=>⟨zi ((HC.out.2.2.1.below bb2) t ht).1 (fun q hq e=>zh ((HC.out.2.2.1.below bb2) t ht).1 ho2 (by decide) q hq (by rw[← e];rfl)),zi ((HC.out.2.2.1.below bb2) t ht).2 (fun q hq e=>zh ((HC.out.2.2.1.below bb2) t ht).2 ho2 (by decide) q hq (by rw[← e];rfl))⟩
   have H3:Hid (World.ownsRow _ _ _ _ _ _ _):=R1;obtain⟨z0,z1,z2,z3,-⟩:=hx3.facts;have hlen3:((us++[(⟨T,.slice ab bn2 cb,.slice ak kn ck⟩:TV)])++ts.drop (k+1)).length=nn:=(by rw[← HSM.out,List.length_set];exact hlen);have HMID3:Hid (nthT ((us++[(⟨T,.slice ab bn2 cb,.slice ak kn ck⟩:TV)])++ts.drop (k+1)) k=⟨T,.slice ab bn2 cb,.slice ak kn ck⟩):=(by unfold Hid;rw[← HSM.out];exact zhQ (by rw[hlen];exact hlt) _);have HSET3:Hid (∀ t,((us++[(⟨T,.slice ab bn2 cb,.slice ak kn ck⟩:TV)])++ts.drop (k+1)).set k t=(us++[t])++ts.drop (k+1)):=fun t=>by rw[← HSM.out,List.set_set];exact HSM.out t
   clear R1 ho2 hub hb2 bb1 hx1 hx2 c0 c1 c2 c3 y0 y1 y2 y3 HRI HRS HUB;go_wp2_with fail
   generalize w2.setCell ⟨g,k*4+2,none⟩ (.slice ab bn2 cb)=W3 at hx3 HUB3 s3 bw3 HIN3 H3 z0 z1 z2 z3 ⊢;refine(zgw (.slice ak kn ck) T.blocks _ (HRW.out _ bw3).2 hn3 HKN.out).mono ?_;rintro e w4 ⟨uk,rfl,huk,hb4⟩;have ho4:=zaZ H3.out hb4;have hcell4:=zfc ho4 hlen3.symm k hlt;rw[HMID3.out] at hcell4;obtain⟨k0,k1,k2,k3⟩:=hcell4;have f3:=ho4.frozenAt (k*4+3);have R5:=zhl ho4 (k:=k) (j:=3) (by rw[hlen3];exact hlt) (by omega) (u:=uk) (e':=⟨T,.slice ab bn2 cb,uk⟩) (by rw[HMID3.out];rfl);rw[HSET3.out] at R5;have s34:=hb4.size;have hgs:g<w4.heap.size:=(by omega);have hukG:∀ q,uk.ownBlock=some q→g≠q:=fun q hq e=>by have:=(oL huk q hq).1;omega
   have HUK5:OwnS (w4.setCell ⟨g,k*4+3,none⟩ uk) wr.heap.size uk T.blocks:=zi (OwnS.mono huk (by omega)) hukG;have HUB5:OwnI (w4.setCell ⟨g,k*4+3,none⟩ uk) wr.heap.size (.slice ab bn2 cb) T.bits:=zi (HUB3.out.below hb4) hubG;have HIN5:InT (w4.setCell ⟨g,k*4+3,none⟩ uk) w.heap.size us:=fun t ht=>⟨zi ((HIN3.out.below hb4) t ht).1 (fun q hq e=>zh ((HIN3.out.below hb4) t ht).1 ho4 (by decide) q hq (by rw[← e];rfl)),zi ((HIN3.out.below hb4) t ht).2 (fun q hq e=>zh ((HIN3.out.below hb4) t ht).2 ho4 (by decide) q hq (by rw[← e];rfl))⟩
   have bw5:Below w.heap.size w (w4.setCell ⟨g,k*4+3,none⟩ uk):=(bw3.trans (hb4.mono bw3.size)).setCell (p:=⟨g,k*4+3,none⟩) hBg _;have HC5:Hid ((us++[(⟨T,.slice ab bn2 cb,uk⟩:TV)]).length=k+1∧(us++[(⟨T,.slice ab bn2 cb,uk⟩:TV)]).map (·.T)=(ts.take (k+1)).map (·.T)∧InT (w4.setCell ⟨g,k*4+3,none⟩ uk) w.heap.size (us++[(⟨T,.slice ab bn2 cb,uk⟩:TV)])∧(oneB (.slice (some ⟨g,0,none⟩) nn cap)++tblks (us++[(⟨T,.slice ab bn2 cb,uk⟩:TV)])).Nodup):=by
    obtain⟨g1,g2,g3,g4⟩:=HC.out;refine⟨by rw[lA,g1];rfl,by rw[List.map_append,g2,HTK.out];rfl,HIN5.push (HUB5.mono hb.size) (HUK5.mono hb.size),nod_push (fun q hq=>by have:g=q:=Option.some.inj hq;omega) g3 g4 HUB5 HUK5⟩
   have H5:Hid (World.ownsRow _ _ _ _ _ _ _):=R5;obtain⟨ak2,ck2,hvk2,-⟩:=id huk.rd;generalize T.blocks.length=kn2 at hvk2;subst hvk2;clear R5 ho4 huk hb4 hx3 z0 z1 z2 z3 e0 e1 e2 e3 f2 HUB3 HIN3 H3 HUK5 HUB5 HIN5 bw3 HC ho hb;go_wp2;go_roundw
   case rel=>exact⟨k+1,_,by omega,by go_num,H5.out,HC5,by simpa using hgs,bw5⟩
   case measure=>simp[intOf];omega
  ·have hke:k=nn:=(by omega);have HEND:Hid (zgL w ts (.returned (.slice (some ⟨g,0,none⟩) nn cap)) wr):=by
    obtain⟨g1,g2,g3,g4⟩:=HC.out;refine⟨_,us,rfl,by rw[g2,hke,HNN.out,List.take_length],⟨?_,g3,g4⟩,hb⟩;unfold OwnT;rw[g1,hke];rw[hke,HNN.out,List.drop_length,List.append_nil,← HNN.out] at ho;exact ho
   clear ho HC hke;go_wp2;go_ret;exact HEND.out
open Go.RowKit
theorem zdI{w:World}{ops:Array Oper}{o:Oper}{a:Act}{K:Act→World→Prop}{Q:Exit→Act→World→Prop}{E:Prop}(hgd:o.guard=none)(d:Nat)(hd:o.dst=some d)(x:Value)(e:TypeId)
 (hrun:(execOp a.eval o).run Tryz.prog w=.ok (.value (.slice (some ⟨w.heap.size,0,none⟩) 1 1)) (w.alloc (.cells #[x] e)))
 (h:K (a.put (some d) (.slice (some ⟨w.heap.size,0,none⟩) 1 1)) (w.alloc (.cells #[x] e))) :
 if Region.wanted o (yielded ops a.tmps)=true then Oper.wp Tryz.prog o a w K Q else E:=by
 have hw:Region.wanted o (yielded ops a.tmps)=true:=by simp[Region.wanted,hgd]
 rw[if_pos hw];rw[← hd] at h;unfold Oper.wp;rw[hrun];exact h
theorem pieces1{W:World}{u:Value}{A:List Ent}(h:RdE W u A):Pieces (W.alloc (.cells #[u] 24)) (.slice (some ⟨W.heap.size,0,none⟩) 1 1) [(u,A)]:=by
 have hb2:=ze W (.cells #[u] 24);refine .inr ⟨W.heap.size,0,1,rfl,nR _,by decide,fun i hi=>?_⟩;match i,hi with
 | 0,_=>exact⟨by simp[World.cell?_alloc_at],h.below hb2⟩
structure CpTr (X:TrX):Prop where
 siz:SizTr X
 mem:X.mem.length≤1000000
 vy:NilOk X.vy
 vo:NilOk X.vo
theorem zhF(X:TrX)(w:World)(hx:RdTr w X)(hs:CpTr X) :
 Calls Tryz.prog 30 #[.agg #[X.vm,X.vy,X.vo,.int .i64 X.seq,X.vs]] w fun e w'=>ToTr w X e w':=by
 have HJ:Hid (∀ u W,Pieces W u [(X.vm,X.mem)]→Calls Tryz.prog 59 #[u] W fun e w'=>∃ u,e=.returned u∧OwnE w' W.heap.size u X.mem∧Below W.heap.size W w'):=fun u W h=>by
  have e:joinE [(X.vm,X.mem)]=X.mem:=by simp[joinE]
  have:=zfg u _ W h (by rw[e];exact hs.mem) (by simp);rw[e] at this;exact this
 have HY:Hid (∀ W,RdTs W X.vy X.ys→Calls Tryz.prog 60 #[X.vy] W fun e w'=>zgL W X.ys e w'):=fun W h=>zed X.vy X.ys W h hs.vy hs.siz.young hs.siz.youngs
 have HO:Hid (∀ W,RdTs W X.vo X.os→Calls Tryz.prog 60 #[X.vo] W fun e w'=>zgL W X.os e w'):=fun W h=>zed X.vo X.os W h hs.vo hs.siz.old hs.siz.olds
 have HI:Hid (∀ W,RdI W X.vs X.snaps→Calls Tryz.prog 36 #[X.vs] W fun e w'=>∃ u,e=.returned u∧OwnI w' W.heap.size u X.snaps∧Below W.heap.size W w'):=fun W h=>zcL X.vs X.snaps W h hs.siz.snaps
 clear hs;obtain⟨am,cm,hvm,-⟩:=id hx.mem;obtain⟨mn,hmn⟩:∃ mn,mn=X.mem.length:=⟨_,rfl⟩;rw[← hmn] at hvm;have ht0:=zam w X 28;have b0:=ze w (.cells #[X.vm,X.vy,X.vo,.int .i64 X.seq,X.vs] 28);have HVM:Hid (X.vm=.slice am mn cm):=hvm;rw[hvm] at ht0 b0 ⊢;clear hvm hmn;obtain⟨V0,hV0⟩:∃ V0,V0=w.alloc (.cells #[.slice am mn cm,X.vy,X.vo,.int .i64 X.seq,X.vs] 28):=⟨_,rfl⟩;have s0:V0.heap.size=w.heap.size+1:=by rw[hV0];simp
 rw[← hV0] at ht0 b0;have b1:=ze V0 (.cells #[.slice none 0 0,.slice none 0 0,.slice none 0 0,.int .i64 0,.slice none 0 0] 28);have hz:BoxTr (V0.alloc (.cells #[.slice none 0 0,.slice none 0 0,.slice none 0 0,.int .i64 0,.slice none 0 0] 28)) (w.heap.size+1) (.slice none 0 0) (.slice none 0 0) (.slice none 0 0) 0 (.slice none 0 0):=by rw[← s0];exact heap_alloc_new V0 _
 have ht1:=ht0.below b1;obtain⟨W0,hW0⟩:∃ W0,W0=V0.alloc (.cells #[.slice none 0 0,.slice none 0 0,.slice none 0 0,.int .i64 0,.slice none 0 0] 28):=⟨_,rfl⟩;have s1:W0.heap.size=w.heap.size+2:=by rw[hW0];simp[s0]
 rw[← hW0] at hz b1 ht1;have bw:Below w.heap.size w W0:=b0.trans (b1.mono (by omega));have hx0:=hx.below bw;have HSV:Hid (∀ W,TreAt W w.heap.size X→W.cell? ⟨w.heap.size,0,none⟩=some (.slice am mn cm)∧W.cell? ⟨w.heap.size,1,none⟩=some X.vy∧W.cell? ⟨w.heap.size,2,none⟩=some X.vo∧W.cell? ⟨w.heap.size,3,none⟩=some (.int .i64 X.seq)∧W.cell? ⟨w.heap.size,4,none⟩=some X.vs):=fun W h=>⟨by rw[← HVM.out];exact h.1,h.2.1,h.2.2.1,h.2.2.2.1,h.2.2.2.2⟩
 clear ht0 b0 b1 s0;go_enter Tryz.func30,Tryz.ntmps30
 go_wp2_with fail
 rw[← hV0,← hW0];clear hV0 hW0;refine brg (S:=fun W=>W.cell? ⟨w.heap.size,0,none⟩=some (.slice am mn cm)∧W.cell? ⟨w.heap.size,1,none⟩=some X.vy∧W.cell? ⟨w.heap.size,2,none⟩=some X.vo∧W.cell? ⟨w.heap.size,3,none⟩=some (.int .i64 X.seq)∧W.cell? ⟨w.heap.size,4,none⟩=some X.vs) (HSV.out _ ht1) (fun hS=>?_);have qb:Below (w.heap.size+2) W0 W0.drew:=(Below.refl _ _).drew;refine kA 0 3 hS ?_;refine kA 1 4 hS ?_;refine kA 4 7 hS ?_;refine kA 5 8 hS ?_;refine kA 7 10 hS ?_;refine kA 8 11 hS ?_;refine kA 10 13 hS ?_;refine kA 11 14 hS ?_;refine kA 12 15 hS ?_;refine kA 13 16 hS ?_;have hBV:w.heap.size+2≤W0.drew.heap.size:=by show w.heap.size+2≤W0.heap.size;omega
 generalize W0.drew=V at qb hS hBV ⊢;refine rdy 2 (fun K hK=>?_);refine zdI rfl 5 rfl (.slice am mn cm) 24 (by go_simp;(try rfl)) ?_;have hp1:Pieces (V.alloc (.cells #[.slice am mn cm] 24)) (.slice (some ⟨V.heap.size,0,none⟩) 1 1) [(X.vm,X.mem)]:=by
  have h:=(hx0.mem).below (show Below W0.heap.size W0 V by rw[s1];exact qb);rw[HVM.out] at h ⊢;exact pieces1 h
 have bb1:=ze V (.cells #[.slice am mn cm] 24);replace qb:=qb.trans (bb1.mono hBV);replace hBV:=nT hBV bb1.size;clear hS bb1;have htV:TreAt _ w.heap.size X:=ht1.of_block (qb.block w.heap.size (by omega));refine hK.out _ _ (HSV.out _ htV) (fun hS2=>?_);clear hK K htV;try simp only[Act.put,sA,sZ,sS]
 generalize V.alloc (.cells #[.slice am mn cm] 24)=V1 at qb hBV hp1 hS2 ⊢;refine rdy 3 (fun K hK=>?_);go_simp;refine(HJ.out _ _ hp1).mono ?_;rintro e V3 ⟨vE,rfl,qE,hm⟩;replace qE:OwnE V3 (w.heap.size+2) vE X.mem:=OwnE.mono qE hBV;have LE:∀ k∈oneB vE,k<V3.heap.size:=fun k hk=>(oL qE k (mem_oneB.1 hk)).2
 replace qb:=qb.trans (hm.mono hBV);replace hBV:=nT hBV hm.size;clear hm hS2 hp1;have htV:TreAt V3 w.heap.size X:=ht1.of_block (qb.block w.heap.size (by omega));refine hK.out _ _ (HSV.out _ htV) (fun hS4=>?_);clear hK K htV;try simp only[Act.put,sA,sZ,sS]
 refine rdy 6 (fun K hK=>?_);go_simp;refine(HY.out _ ((hx0.young).below (by rw[s1];exact qb))).mono ?_;rintro e V5 ⟨vY,usY,rfl,hYe,qY,hm⟩;have LY:∀ k∈oneB vY++tblks usY,V3.heap.size≤k∧k<V5.heap.size:=fun k hk=>qY.bound hk
 have s35:=hm.size;replace qY:=qY.mono hBV;replace qE:=qE.below hm;replace qb:=qb.trans (hm.mono hBV);replace hBV:=nT hBV hm.size;clear hm hS4;have htV:TreAt V5 w.heap.size X:=ht1.of_block (qb.block w.heap.size (by omega));refine hK.out _ _ (HSV.out _ htV) (fun hS6=>?_);clear hK K htV;try simp only[Act.put,sA,sZ,sS]
 refine rdy 9 (fun K hK=>?_);go_simp;refine(HO.out _ ((hx0.old).below (by rw[s1];exact qb))).mono ?_;rintro e V7 ⟨vO,usO,rfl,hOe,qO,hm⟩;have LO:∀ k∈oneB vO++tblks usO,V5.heap.size≤k∧k<V7.heap.size:=fun k hk=>qO.bound hk
 have s57:=hm.size;replace qO:=qO.mono hBV;replace qE:=qE.below hm;replace qY:=qY.below hm;replace qb:=qb.trans (hm.mono hBV);replace hBV:=nT hBV hm.size;clear hm hS6;have htV:TreAt V7 w.heap.size X:=ht1.of_block (qb.block w.heap.size (by omega));refine hK.out _ _ (HSV.out _ htV) (fun hS8=>?_);clear hK K htV;try simp only[Act.put,sA,sZ,sS]
 refine rdy 14 (fun K hK=>?_);go_simp;refine(HI.out _ ((hx0.snaps).below (by rw[s1];exact qb))).mono ?_;rintro e V9 ⟨vS,rfl,qS,hm⟩;have LS:∀ k∈oneB vS,V7.heap.size≤k:=fun k hk=>(oL qS k (mem_oneB.1 hk)).1
 replace qS:OwnI V9 (w.heap.size+2) vS X.snaps:=OwnI.mono qS hBV;replace qE:=qE.below hm;replace qY:=qY.below hm;replace qO:=qO.below hm;replace qb:=qb.trans (hm.mono hBV);replace hBV:=nT hBV hm.size;clear hm hS8;have htV:TreAt V9 w.heap.size X:=ht1.of_block (qb.block w.heap.size (by omega));refine hK.out _ _ (HSV.out _ htV) (fun hS10=>?_);clear hK K htV;try simp only[Act.put,sA,sZ,sS]
 obtain⟨aE,cE,heE,-⟩:=id qE.rd;obtain⟨aY,cY,heY,-⟩:=id qY.rd;obtain⟨aO,cO,heO,-⟩:=id qO.rd;obtain⟨aS,cS,heS,-⟩:=id qS.rd;subst heE;subst heY;subst heO;subst heS;refine kA 15 18 hS10 ?_;have hzV:BoxTr V9 (w.heap.size+1) (.slice none 0 0) (.slice none 0 0) (.slice none 0 0) 0 (.slice none 0 0):=hz.below qb (by omega);have htV:TreAt V9 w.heap.size X:=ht1.of_block (qb.block w.heap.size (by omega));obtain⟨y0,y1,y2,y3,y4,g0,g1,g2,g3,g4⟩:=hzV.facts;refine rdy 16 (fun K hK=>?_);go_simp;refine hK.out _ _ (HSV.out _ (zaU (u0:=.slice aE X.mem.length cE) (u1:=.slice aY usY.length cY) (u2:=.slice aO usO.length cO) (u3:=.int .i64 X.seq) (u4:=.slice aS X.snaps.length cS) htV (by omega))) (fun hSf=>?_);clear hK K;refine dne ?_;have HF:Hid (ToTr w X (.returned (.agg #[.slice aE X.mem.length cE,.slice aY usY.length cY,.slice aO usO.length cO,.int .i64 X.seq,.slice aS X.snaps.length cS])) (put5 V9 (w.heap.size+1) (.slice aE X.mem.length cE) (.slice aY usY.length cY) (.slice aO usO.length cO) (.int .i64 X.seq) (.slice aS X.snaps.length cS))):=by
  have h1:=qY.put5 (c:=w.heap.size+1) (u0:=.slice aE X.mem.length cE) (u1:=.slice aY usY.length cY) (u2:=.slice aO usO.length cO) (u3:=.int .i64 X.seq) (u4:=.slice aS X.snaps.length cS) (by omega);have h2:=qO.put5 (c:=w.heap.size+1) (u0:=.slice aE X.mem.length cE) (u1:=.slice aY usY.length cY) (u2:=.slice aO usO.length cO) (u3:=.int .i64 X.seq) (u4:=.slice aS X.snaps.length cS) (by omega);refine⟨⟨.slice aE X.mem.length cE,.slice aY usY.length cY,.slice aO usO.length cO,.slice aS X.snaps.length cS,X.mem,usY,usO,X.seq,X.snaps⟩,rfl,?_,⟨OwnE.mono (zt qE (by omega)) (by omega),h1.row.mono (by omega),h1.ins.mono (by omega),h2.row.mono (by omega),h2.ins.mono (by omega),OwnI.mono (zt qS (by omega)) (by omega),?_⟩,zR (bw.trans (qb.mono (by omega))) (by omega)⟩
  ·unfold TrX.tre;simp only[hYe,hOe]
  ·unfold trB;refine zlk (m:=V3.heap.size) (zap _) (zlk (m:=V5.heap.size) qY.nod (zlk (m:=V7.heap.size) qO.nod (zap _) (fun k hk=>(LO k hk).2) LS) (fun k hk=>(LY k hk).2) (zfo (fun k hk=>(LO k hk).1) (fun k hk=>nT s57 (LS k hk)))) LE (zfo (fun k hk=>(LY k hk).1) (zfo (fun k hk=>nT s35 (LO k hk).1) (fun k hk=>nT s35 (nT s57 (LS k hk)))))
 have hzF:=zF hzV (.slice aE X.mem.length cE) (.slice aY usY.length cY) (.slice aO usO.length cO) (.slice aS X.snaps.length cS) X.seq;obtain⟨f0,f1,f2,f3,f4,-,-,-,-,-⟩:=hzF.facts;clear y0 y1 y2 y3 y4 g0 g1 g2 g3 g4 hzF hSf htV hzV qb hBV;unfold put5 at f0 f1 f2 f3 f4;go_wp2;exact bodyPost_ret (v:=.agg #[.slice aE X.mem.length cE,.slice aY usY.length cY,.slice aO usO.length cO,.int .i64 X.seq,.slice aS X.snaps.length cS]) (by simp[results,Tryz.results30,go_sem,f0,f1,f2,f3,f4]) rfl HF.out
end Go.Proofs.YtjlnchhgkfnldaaGreat
namespace Go.Proofs.YtjlnchhgkfnldaaGreat
set_option maxHeartbeats 16000000
set_option maxRecDepth 100000
open Go.RowKit
theorem fit_same{X Y:TrX}(h:Y.tre=X.tre)(hf:FitTr X):FitTr Y:=by
 have hmem:Y.mem=X.mem:=congrArg Tre.mem h;have hyo:Y.ys.map (·.T)=X.ys.map (·.T):=congrArg Tre.young h;have hol:Y.os.map (·.T)=X.os.map (·.T):=congrArg Tre.old h;refine⟨by rw[hmem];exact hf.mem,fun t ht=>?_,fun t ht=>?_⟩
 ·have:t.T∈X.ys.map (·.T):=by rw[← hyo];exact List.mem_map_of_mem ht
  obtain⟨u,hu,e⟩:=List.mem_map.1 this;rw[← e];exact hf.young u hu
 ·have:t.T∈X.os.map (·.T):=by rw[← hol];exact List.mem_map_of_mem ht
  obtain⟨u,hu,e⟩:=List.mem_map.1 this;rw[← e];exact hf.old u hu
theorem RdTr.slices{w:World}{X:TrX}(h:RdTr w X):∃ (am ay ao an:Option Addr) (mn yn on nn cm cy co cn:Nat),X.vm=.slice am mn cm∧X.vy=.slice ay yn cy∧X.vo=.slice ao on co∧X.vs=.slice an nn cn:=by
 obtain⟨am,cm,hm,-⟩:=h.mem;obtain⟨ay,cy,hy,-⟩:=h.young;obtain⟨ao,co,ho,-⟩:=h.old;obtain⟨an,cn,hn,-⟩:=h.snaps;exact⟨am,ay,ao,an,_,_,_,_,cm,cy,co,cn,hm,hy,ho,hn⟩
end Go.Proofs.YtjlnchhgkfnldaaGreat
