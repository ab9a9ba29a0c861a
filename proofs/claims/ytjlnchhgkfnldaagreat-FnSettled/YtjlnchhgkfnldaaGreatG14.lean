import Derived.Test.YtjlnchhgkfnldaaGreatMrgSpec3
import Derived.Deep.LoopGhost
namespace Go.Proofs.YtjlnchhgkfnldaaGreat
set_option maxHeartbeats 16000000
set_option maxRecDepth 100000
open Go.RowKit
structure TV where
 T:Tbl
 vb:Value
 vk:Value
def zeroTV:TV:=⟨zeroT,.slice none 0 0,.slice none 0 0⟩
def nthT(ts:List TV)(i:Nat):TV:=ts.getD i zeroTV
theorem zba{ts:List TV}{i:Nat}(h:i<ts.length):nthT ts i=ts[i]:=by simp[nthT,List.getD,List.getElem?_eq_getElem h]
def TabAt(w:World)(b o:Nat)(t:TV):Prop :=
 w.cell? ⟨b,o,none⟩=some (.string t.T.first)∧w.cell? ⟨b,o+1,none⟩=some (.string t.T.last)∧w.cell? ⟨b,o+2,none⟩=some t.vb∧w.cell? ⟨b,o+3,none⟩=some t.vk
theorem TabAt.lt{w:World}{b o:Nat}{t:TV}(h:TabAt w b o t):b<w.heap.size:=World.block_lt_of_cell? w _ h.1
theorem TabAt.of_block{w w':World}{b o:Nat}{t:TV}(h:TabAt w b o t)(hb:w'.heap[b]? = w.heap[b]?):TabAt w' b o t :=
 ⟨(World.cell?_of_block (a:=⟨b,o,none⟩) hb).trans h.1,(World.cell?_of_block (a:=⟨b,o+1,none⟩) hb).trans h.2.1,(World.cell?_of_block (a:=⟨b,o+2,none⟩) hb).trans h.2.2.1,(World.cell?_of_block (a:=⟨b,o+3,none⟩) hb).trans h.2.2.2⟩
theorem TabAt.below{w w':World}{b o:Nat}{t:TV}(h:TabAt w b o t)(hb:Below w.heap.size w w'):TabAt w' b o t:=h.of_block (hb.block b h.lt)
def RdTs(w:World)(v:Value)(ts:List TV):Prop :=
 ∃ a cap,v=.slice a ts.length cap∧ts.length≤cap∧cap≤maxLen∧(ts=[]∨∃ b off,a=some ⟨b,off,none⟩∧∀ i,i<ts.length→TabAt w b (off+i*4) (nthT ts i))∧∀ t∈ts,RdI w t.vb t.T.bits∧RdS w t.vk t.T.blocks
theorem RdTs.below{w w':World}{v:Value}{ts:List TV}(h:RdTs w v ts)(hb:Below w.heap.size w w'):RdTs w' v ts:=by
 obtain⟨a,cap,hv,h1,h2,h3,h4⟩:=h;refine⟨a,cap,hv,h1,h2,?_,fun t ht=>⟨(h4 t ht).1.below hb,(h4 t ht).2.below hb⟩⟩;rcases h3 with h3 | ⟨b,off,ha,hc⟩
 ·exact .inl h3
 ·exact .inr ⟨b,off,ha,fun i hi=>(hc i hi).below hb⟩
theorem RdTs.at{w:World}{a:Option Addr}{n cap:Nat}{ts:List TV}(h:RdTs w (.slice a n cap) ts)(i:Nat)(hi:i<ts.length):∃ b off,a=some ⟨b,off,none⟩∧TabAt w b (off+i*4) (nthT ts i)∧RdI w (nthT ts i).vb (nthT ts i).T.bits∧RdS w (nthT ts i).vk (nthT ts i).T.blocks:=by
 obtain⟨a',cap',hv,_,_,h3,h4⟩:=h;simp only[Value.slice.injEq] at hv;obtain⟨rfl,_,_⟩:=hv;rcases h3 with rfl | ⟨b,off,ha,hc⟩
 ·simp at hi
 ·have:=h4 (nthT ts i) (by rw[zba hi];exact List.getElem_mem hi);exact⟨b,off,ha,hc i hi,this.1,this.2⟩
structure TrX where
 vm:Value
 vy:Value
 vo:Value
 vs:Value
 mem:List Ent
 ys:List TV
 os:List TV
 seq:Int
 snaps:List Int
def TrX.tre(X:TrX):Tre:=⟨X.mem,X.ys.map (·.T),X.os.map (·.T),X.seq,X.snaps⟩
structure RdTr (w:World) (X:TrX):Prop where
 mem:RdE w X.vm X.mem
 young:RdTs w X.vy X.ys
 old:RdTs w X.vo X.os
 snaps:RdI w X.vs X.snaps
theorem RdTr.below{w w':World}{X:TrX}(h:RdTr w X)(hb:Below w.heap.size w w'):RdTr w' X:=⟨h.mem.below hb,h.young.below hb,h.old.below hb,h.snaps.below hb⟩
structure FitTr (X:TrX):Prop where
 mem:∀ e∈X.mem,Fits e
 young:∀ t∈X.ys,∀ s∈t.T.blocks,s.size≤1000000000
 old:∀ t∈X.os,∀ s∈t.T.blocks,s.size≤1000000000
def TreAt(w:World)(b:Nat)(X:TrX):Prop :=
 w.cell? ⟨b,0,none⟩=some X.vm∧w.cell? ⟨b,1,none⟩=some X.vy∧w.cell? ⟨b,2,none⟩=some X.vo∧w.cell? ⟨b,3,none⟩=some (.int .i64 X.seq)∧w.cell? ⟨b,4,none⟩=some X.vs
theorem TreAt.lt{w:World}{b:Nat}{X:TrX}(h:TreAt w b X):b<w.heap.size:=World.block_lt_of_cell? w _ h.1
theorem TreAt.of_block{w w':World}{b:Nat}{X:TrX}(h:TreAt w b X)(hb:w'.heap[b]? = w.heap[b]?):TreAt w' b X :=
 ⟨(World.cell?_of_block (a:=⟨b,0,none⟩) hb).trans h.1,(World.cell?_of_block (a:=⟨b,1,none⟩) hb).trans h.2.1,(World.cell?_of_block (a:=⟨b,2,none⟩) hb).trans h.2.2.1,(World.cell?_of_block (a:=⟨b,3,none⟩) hb).trans h.2.2.2.1,(World.cell?_of_block (a:=⟨b,4,none⟩) hb).trans h.2.2.2.2⟩
theorem TreAt.below{w w':World}{b:Nat}{X:TrX}(h:TreAt w b X)(hb:Below w.heap.size w w'):TreAt w' b X:=h.of_block (hb.block b h.lt)
theorem zam(w:World)(X:TrX)(t:TypeId):TreAt (w.alloc (.cells #[X.vm,X.vy,X.vo,.int .i64 X.seq,X.vs] t)) w.heap.size X:=by
 refine⟨?_,?_,?_,?_,?_⟩<;>simp[World.cell?_alloc_at]
open Go.RowKit
theorem Tryz.infoL24:(Tryz.prog.info? 24).map (fun i=>(i.zero,i.size,i.bytes))=some (some (.slice none 0 0),1,24):=by kernel_rfl
def OwnQ(w:World)(base:Nat)(v:Value)(ps:List (Value×List Ent)):Prop:=w.ownsRow base 24 1 v ps.length (ps.map (·.1))
theorem OwnQ.below{w w':World}{base:Nat}{v:Value}{ps:List (Value×List Ent)}(h:OwnQ w base v ps)(hb:Below w.heap.size w w'):OwnQ w' base v ps:=zaZ h hb
theorem zdK{w1:World}{B:Nat}{v':Value}{ps:List (Value×List Ent)}{u:Value}{zs:List Ent}(h:w1.ownsRow B 24 1 v' (ps.length+1) (ps.map (·.1)++[u])):OwnQ w1 B v' (ps++[(u,zs)]):=by
 unfold OwnQ;rw[List.map_append,lA];exact h
theorem zlI(w:World)(u:Value)(zs:List Ent):OwnQ (w.alloc (.cells #[u] 24)) w.heap.size (.slice (some ⟨w.heap.size,0,none⟩) 1 1) [(u,zs)]:=World.ownsRow_lit w #[u] 1 (nR _) (by unfold maxLen;omega) rfl
theorem OwnQ.pieces{w:World}{base:Nat}{v:Value}{ps:List (Value×List Ent)}(h:OwnQ w base v ps)(hp:∀ p∈ps,RdE w p.1 p.2):Pieces w v ps:=by
 have h':=h;rcases h.2 with ⟨rfl,h0⟩ | ⟨g,cap,cur,rfl,hb,hg,hn,hc,hs,ht⟩
 ·exact .inl ⟨rfl,List.length_eq_zero_iff.1 h0⟩
 ·refine .inr ⟨g,0,cap,rfl,hn,hc,fun i hi=>⟨?_,hp _ (List.getElem_mem hi)⟩⟩;have:=World.ownsRow.cellAt h' i (by omega);rw[Nat.zero_add,this];simp[hi]
theorem q_apart{w:World}{B B':Nat}{o v:Value}{ps:List (Value×List Ent)}{es:List Ent}(h:OwnQ w B o ps)(he:OwnE w B' v es):∀ k,v.ownBlock=some k→o.ownBlock≠some k:=by
 intro k hk e;rcases h.2 with ⟨h1,_⟩ | ⟨g,cap,cur,hv,_,hg,_⟩
 ·rw[h1] at e;cases e
 ·rcases he.2 with ⟨h1,_⟩ | ⟨g',cap',cur',hv',_,hg',_⟩
  ·rw[h1] at hk;cases hk
  ·rw[hv] at e;rw[hv'] at hk;have e1:g=k:=Option.some.inj e;have e2:g'=k:=Option.some.inj hk;rw[e1] at hg;rw[e2,hg] at hg';simp at hg'
theorem ownE_blk{w w':World}{B:Nat}{v:Value}{es:List Ent}(h:OwnE w B v es)(hb:∀ k,v.ownBlock=some k→w'.heap[k]? = w.heap[k]?):OwnE w' B v es:=by
 refine⟨h.1,?_⟩;rcases h.2 with h2 | ⟨g,cap,cur,hv,hg,hh,r⟩
 ·exact .inl h2
 ·exact .inr ⟨g,cap,cur,hv,hg,by rw[hb g (by rw[hv];rfl)];exact hh,r⟩
def InQ(w0 w:World)(ps:List (Value×List Ent)):Prop:=∀ p∈ps,(RdE w0 p.1 p.2∨OwnE w w0.heap.size p.1 p.2)∧p.2.length≤300
theorem InQ.below{w0 w w':World}{ps:List (Value×List Ent)}(h:InQ w0 w ps)(hb:Below w.heap.size w w'):InQ w0 w' ps:=fun p hp=>by
 obtain⟨h1,h2⟩:=h p hp;refine⟨?_,h2⟩;rcases h1 with h1 | h1
 ·exact .inl h1
 ·exact .inr (h1.below hb)
theorem InQ.grown{w0 w w':World}{B:Nat}{o:Value}{ps ts:List (Value×List Ent)}(h:InQ w0 w ps)(ho:OwnQ w B o ts)(hg:w.grownBy w' o.ownBlock):InQ w0 w' ps:=fun p hp=>by
 obtain⟨h1,h2⟩:=h p hp;refine⟨?_,h2⟩;rcases h1 with h1 | h1
 ·exact .inl h1
 ·exact .inr (ownE_blk h1 (fun k hk=>hg.block k (oL h1 k hk).2 (fun e=>q_apart ho h1 k hk e.symm)))
theorem InQ.push{w0 w:World}{ps:List (Value×List Ent)}{u:Value}{es:List Ent}(h:InQ w0 w ps)(hu:OwnE w w0.heap.size u es)(hl:es.length≤300):InQ w0 w (ps++[(u,es)]):=fun p hp=>by
 rcases List.mem_append.1 hp with hp | hp
 ·exact h p hp
 ·rw[List.mem_singleton.1 hp];exact⟨.inr hu,hl⟩
theorem InQ.rd{w0 w:World}{ps:List (Value×List Ent)}(h:InQ w0 w ps)(hb:Below w0.heap.size w0 w):∀ p∈ps,RdE w p.1 p.2:=fun p hp=>by
 rcases (h p hp).1 with h1 | h1
 ·exact h1.below hb
 ·exact h1.rd
theorem zbQ(t:Tbl):(zu t).length≤300:=by
 cases h:zT t with
 | true=>exact zad (zac h).1
 | false=>unfold zu;rw[if_neg (by rw[h];simp)];simp
theorem zjz(ls:List (List Ent))(l:List Ent):lenS (ls++[l])=lenS ls+l.length:=by simp[lenS]
theorem zjF{X:TrX}(h:okL X.mem=false∨6<X.ys.length∨1<X.os.length):allOk X.tre=false:=by
 unfold allOk;show (okL X.mem&&decide ((X.ys.map (·.T)).length≤6)&&decide ((X.os.map (·.T)).length≤1)&&_)=false;rw[List.length_map,List.length_map];rcases h with h | h | h
 ·rw[h];rfl
 ·rw[decide_eq_false (by omega)];simp
 ·rw[decide_eq_false (show ¬ X.os.length≤1 by omega)];simp
theorem zlN{X:TrX}{t:TV}(ht:t∈X.ys++X.os)(h:(zu t.T).length=0):allOk X.tre=false:=by
 unfold allOk;have:(X.tre.young++X.tre.old).all (fun t=>!decide ((zu t).length=0))=false:=by
  rw[List.all_eq_false];refine⟨t.T,?_,by simp[h]⟩;show t.T∈X.ys.map (·.T)++X.os.map (·.T);rw[← List.map_append];exact List.mem_map_of_mem ht
 rw[this,Bool.and_false]
def zcq(w:World)(X:TrX)(e:Ending)(w':World):Prop:=∃ u,e=.returned (.tuple #[u,.bool (allT X.tre).2])∧OwnE w' w.heap.size u (allT X.tre).1∧Below w.heap.size w w'
theorem zh2{T:Tre}(h:allOk T=false):allT T=([],false):=by unfold allT;rw[if_neg (by rw[h];simp)]
theorem zj1{ts:List TV}{k:Nat}(hk:k<ts.length):ts.take (k+1)=ts.take k++[nthT ts k]:=by rw[List.take_succ_eq_append_getElem hk,zba hk]
def tl(ts:List TV)(k:Nat):List (List Ent):=(ts.take k).map (fun t=>zu t.T)
theorem zip{ts:List TV}{k:Nat}(hk:k<ts.length):tl ts (k+1)=tl ts k++[zu (nthT ts k).T]:=by unfold tl;rw[zj1 hk,List.map_append];rfl
theorem zl3(ts:List TV):tl ts ts.length=ts.map (fun t=>zu t.T):=by unfold tl;rw[List.take_length]
def full(ts:List TV)(k:Nat):Prop:=∀ i,i<k→(zu (nthT ts i).T).length≠0
theorem zjS{ts:List TV}{k:Nat}(h:full ts k)(hk:(zu (nthT ts k).T).length≠0):full ts (k+1):=fun i hi=>by
 by_cases e:i=k
 ·rw[e];exact hk
 ·exact h i (by omega)
theorem zl5{X:TrX}(h1:okL X.mem=true)(h2:X.ys.length≤6)(h3:X.os.length≤1)(h4:full X.ys X.ys.length)(h5:full X.os X.os.length) :
 allT X.tre=(zj (X.mem::tl X.ys X.ys.length++tl X.os X.os.length),decide ((zj (X.mem::tl X.ys X.ys.length++tl X.os X.os.length)).length=lenS (X.mem::tl X.ys X.ys.length++tl X.os X.os.length))):=by
 have hl:lsT X.tre=X.mem::tl X.ys X.ys.length++tl X.os X.os.length:=by
  rw[zl3,zl3];show X.mem::(X.ys.map (·.T)++X.os.map (·.T)).map zu=_;rw[List.map_append,List.map_map,List.map_map];rfl
 have ha:allOk X.tre=true:=by
  unfold allOk;show (okL X.mem&&decide ((X.ys.map (·.T)).length≤6)&&decide ((X.os.map (·.T)).length≤1)&&(X.ys.map (·.T)++X.os.map (·.T)).all _)=true;rw[List.length_map,List.length_map,h1,decide_eq_true h2,decide_eq_true h3];simp only[Bool.true_and];rw[List.all_eq_true];intro t ht;have hne:(zu t).length≠0:=by
   rcases List.mem_append.1 ht with ht | ht
   all_goals
    obtain⟨x,hx,rfl⟩:=List.mem_map.1 ht;obtain⟨i,hi,rfl⟩:=List.mem_iff_getElem.1 hx;rw[← zba hi];first | exact h4 i hi | exact h5 i hi
  simp[hne]
 unfold allT;rw[if_pos ha,hl]
theorem zjE(w:World)(x:Value)(t:TypeId)(n:Nat)(hn:n=w.heap.size):∀ j u,[x][j]? = some u→(w.alloc (.cells #[x] t)).cell? ((⟨n,0,none⟩:Addr).add j)=some u:=by
 intro j u h;subst hn;cases j with
 | zero=>cases h;simp[Addr.add,World.cell?_alloc_at]
 | succ j=>simp at h
theorem zga(us:List (Value×List Ent))(h:∀ p∈us,p.2.length≤300):(zj (us.map (·.2))).length≤300*us.length:=by
 have:=zis us h us.length (nR _);rwa [zly] at this
theorem zgy(X:TrX)(w:World)(hx:RdTr w X)(hf:FitTr X) :
 Calls Tryz.prog 47 #[.agg #[X.vm,X.vy,X.vo,.int .i64 X.seq,X.vs]] w fun e w'=>zcq w X e w':=by
 obtain⟨i0,hi,hz0,hz1,hz2⟩:=info_parts Tryz.infoL24;have HBAD:Hid (okL X.mem=false∨6<X.ys.length∨1<X.os.length→∀ W,Below w.heap.size w W→zcq w X (.returned (.tuple #[.slice (some ⟨W.heap.size,0,none⟩) 0 0,.bool false])) (W.alloc (.cells #[] 40))):=fun h W hb=>by
  refine⟨.slice (some ⟨W.heap.size,0,none⟩) 0 0,?_,?_,hb.alloc hb.size _⟩
  ·rw[zh2 (zjF h)]
  ·rw[zh2 (zjF h)];exact(zL W).mono hb.size
 have HNO:Hid (∀ t,t∈X.ys++X.os→(zu t.T).length=0→∀ W,Below w.heap.size w W→zcq w X (.returned (.tuple #[.slice (some ⟨W.heap.size,0,none⟩) 0 0,.bool false])) (W.alloc (.cells #[] 40))):=fun t ht h W hb=>by
  refine⟨.slice (some ⟨W.heap.size,0,none⟩) 0 0,?_,?_,hb.alloc hb.size _⟩
  ·rw[zh2 (zlN ht h)]
  ·rw[zh2 (zlN ht h)];exact(zL W).mono hb.size
 have HYES:Hid (okL X.mem=true→X.ys.length≤6→X.os.length≤1→full X.ys X.ys.length→full X.os X.os.length→∀ W u,OwnE W w.heap.size u (zj (X.mem::tl X.ys X.ys.length++tl X.os X.os.length))→Below w.heap.size w W→zcq w X (.returned (.tuple #[u,.bool (decide ((zj (X.mem::tl X.ys X.ys.length++tl X.os X.os.length)).length=lenS (X.mem::tl X.ys X.ys.length++tl X.os X.os.length)))])) W):=fun h1 h2 h3 h4 h5 W u ho hb=>by
  refine⟨u,?_,?_,hb⟩
  ·rw[zl5 h1 h2 h3 h4 h5]
  ·rw[zl5 h1 h2 h3 h4 h5];exact ho
 generalize zcq w X=GOAL at HBAD HNO HYES ⊢;obtain⟨vm,vy,vo,vs,mem,ys,os,seq,snaps⟩:=X;obtain⟨hxm,hxy,hxo,hxs⟩:=hx;obtain⟨hfm,hfy,hfo⟩:=hf;simp only at hxm hxy hxo hxs hfm hfy hfo HBAD HNO HYES ⊢;obtain⟨am,cm,hvm,hlm,hmm,-⟩:=id hxm;obtain⟨ay,cy,hvy,hly,hmy,-⟩:=id hxy;obtain⟨ao,co,hvo,hlo,hmo,-⟩:=id hxo;obtain⟨mn,hmn⟩:∃ mn,mn=mem.length:=⟨_,rfl⟩;obtain⟨yn,hyn⟩:∃ yn,yn=ys.length:=⟨_,rfl⟩;obtain⟨on,hon⟩:∃ on,on=os.length:=⟨_,rfl⟩;rw[← hmn] at hvm hlm;rw[← hyn] at hvy hly;rw[← hon] at hvo hlo;subst hvm;subst hvy;subst hvo;unfold maxLen at hmm hmy hmo;have HMN:Hid (mn=mem.length):=hmn;have HYN:Hid (yn=ys.length):=hyn;have HON:Hid (on=os.length):=hon;have HFM:Hid (∀ e∈mem,Fits e):=hfm;have HFY:Hid (∀ t∈ys,∀ s∈t.T.blocks,s.size≤1000000000):=hfy;have HFO:Hid (∀ t∈os,∀ s∈t.T.blocks,s.size≤1000000000):=hfo;clear hmn hyn hon hfm hfy hfo hxs;have ht0:TreAt (w.alloc (.cells #[.slice am mn cm,.slice ay yn cy,.slice ao on co,.int .i64 seq,vs] 28)) w.heap.size ⟨.slice am mn cm,.slice ay yn cy,.slice ao on co,vs,mem,ys,os,seq,snaps⟩:=zam w ⟨.slice am mn cm,.slice ay yn cy,.slice ao on co,vs,mem,ys,os,seq,snaps⟩ 28;have b0:=ze w (.cells #[.slice am mn cm,.slice ay yn cy,.slice ao on co,.int .i64 seq,vs] 28);have hq0:=zlI (w.alloc (.cells #[.slice am mn cm,.slice ay yn cy,.slice ao on co,.int .i64 seq,vs] 28)) (.slice am mn cm) mem;have b0':=ze (w.alloc (.cells #[.slice am mn cm,.slice ay yn cy,.slice ao on co,.int .i64 seq,vs] 28)) (.cells #[.slice am mn cm] 24);have ht0':=ht0.below b0'
 have b1:=b0.trans (b0'.mono b0.size);have hs0:(w.alloc (.cells #[.slice am mn cm,.slice ay yn cy,.slice ao on co,.int .i64 seq,vs] 28)).heap.size=w.heap.size+1:=by simp
 rw[hs0] at hq0;obtain⟨q0,q1,q2,q3,q4⟩:=id ht0;obtain⟨p0,p1,p2,p3,p4⟩:=id ht0';simp only at q0 q1 q2 q3 q4 p0 p1 p2 p3 p4;go_enter Tryz.func47,Tryz.ntmps47
 go_wp2_with fail
 refine(za4 _ mem _ (hxm.below b1) HFM.out).mono ?_;rintro e w1 ⟨rfl,hb1⟩;have ht1:=ht0'.below hb1;have b2:=b1.trans (hb1.mono b1.size);have hq1:=hq0.below hb1;have hsz1:w.heap.size+1≤w1.heap.size:=by have:=b0'.size;have:=hb1.size;omega
 clear ht0 ht0' hb1 b0 b0' b1 hq0 hs0 q0 q1 q2 q3 q4 p0 p1 p2 p3 p4;obtain⟨q0,q1,q2,q3,q4⟩:=id ht1;simp only at q0 q1 q2 q3 q4;obtain⟨ok,hok⟩:∃ ok,ok=okL mem:=⟨_,rfl⟩;rw[← hok];have HOK:Hid (ok=okL mem):=hok;clear hok;cases ok with
 | false =>
  have RES:=HBAD.out (.inl HOK.out.symm) w1 b2;clear HBAD HNO HYES ht1 hq1;go_wp2;exact RES
 | true =>
  by_cases hy6:6<yn
  ·skip
   have RES:=HBAD.out (.inr (.inl (by rw[← HYN.out];exact hy6))) w1 b2;have hyi:(6:Int)<(yn:Int):=(by omega);clear HBAD HNO HYES ht1 hq1;go_wp2;exact RES
  ·have hyi:¬ (6:Int)<(yn:Int):=(by omega);by_cases ho1:1<on
   ·skip
    have RES:=HBAD.out (.inr (.inr (by rw[← HON.out];exact ho1))) w1 b2;have hoi:(1:Int)<(on:Int):=(by omega);clear HBAD HNO HYES ht1 hq1;go_wp2;exact RES
   ·have hoi:¬ (1:Int)<(on:Int):=(by omega);have hmem3:mn≤300:=(by rw[HMN.out];exact zad HOK.out.symm);have HI1:Hid (InQ w w1 [(.slice am mn cm,mem)]):=fun p hp=>by
     rw[List.mem_singleton.1 hp];exact⟨.inl hxm,by rw[← HMN.out];exact hmem3⟩
    clear HBAD;go_wp2;go_loopw [4,5,6] (fun o q i wr=>∃ (k n:Nat) (us:List (Value×List Ent)),k≤yn∧i=.int .i64 k∧q=.int .i64 n∧n≤300*(k+1)∧us.length=k+1∧OwnQ wr (w.heap.size+1) o us∧Hid (us.map (·.2)=mem::tl ys k)∧Hid (n=lenS (mem::tl ys k))∧Hid (full ys k)∧Hid (InQ w wr us)∧TreAt wr w.heap.size ⟨.slice am mn cm,.slice ay yn cy,.slice ao on co,vs,mem,ys,os,seq,snaps⟩∧Below w.heap.size w wr∧w.heap.size+1≤wr.heap.size) (fun _ _ i _=>yn-(intOf i).toNat)
    case atStart=>exact⟨0,mn,_,Nat.zero_le _,rfl,rfl,by omega,rfl,hq1,rfl,by unfold Hid;rw[HMN.out];simp[lenS,tl],(fun i hi=>by omega),HI1,ht1,b2,hsz1⟩
    case round =>
     obtain⟨k,n,us,hk,rfl,rfl,hn3,hul,hoq,HUM,HN,HF,HIQ,htA,bA,hszA⟩:=hrel;clear ht1 hq1 HI1 b2 hsz1 q0 q1 q2 q3 q4;obtain⟨q0,q1,q2,q3,q4⟩:=id htA;simp only at q0 q1 q2 q3 q4;by_cases hlt:k<yn
     ·skip
      have hkl:k<ys.length:=(by rw[← HYN.out];exact hlt);have hli:(k:Int)<(yn:Int):=(by omega);have hkc:k<cy:=(by omega);have hmt:nthT ys k∈ys:=(by rw[zba hkl];exact List.getElem_mem hkl);obtain⟨b,off,rfl,hc,hri,hrs⟩:=(hxy.below bA).at k hkl;have HNO1:Hid ((zu (nthT ys k).T).length=0→∀ W,Below w.heap.size w W→GOAL (.returned (.tuple #[.slice (some ⟨W.heap.size,0,none⟩) 0 0,.bool false])) (W.alloc (.cells #[] 40))):=fun h W hb=>HNO.out _ (List.mem_append_left _ hmt) h W hb
      have HTS:Hid (tl ys (k+1)=tl ys k++[zu (nthT ys k).T]):=zip hkl;have HFS:Hid ((zu (nthT ys k).T).length≠0→full ys (k+1)):=fun h=>zjS HF.out h
      have HEN:Hid (∀ W,RdI W (nthT ys k).vb (nthT ys k).T.bits→RdS W (nthT ys k).vk (nthT ys k).T.blocks→Calls Tryz.prog 82 #[.agg #[.string (nthT ys k).T.first,.string (nthT ys k).T.last,(nthT ys k).vb,(nthT ys k).vk]] W fun e w'=>∃ u,e=.returned u∧OwnE w' W.heap.size u (zu (nthT ys k).T)∧Below W.heap.size W w'):=fun W h1 h2=>zbx _ _ _ W h1 h2 (HFY.out _ hmt)
      have hel:=zbQ (nthT ys k).T;generalize zu (nthT ys k).T=E at HNO1 HTS HFS HEN hel;generalize nthT ys k=t at hc hri hrs HEN;obtain⟨c0,c1,c2,c3⟩:=id hc;clear hmt hkl;go_wp2_with fail
      refine(HEN.out _ hri hrs).mono ?_;rintro e w2 ⟨u,rfl,ho2,hb2⟩;have ht2:=htA.below hb2;have b2:=bA.trans (hb2.mono bA.size);have hq2:=hoq.below hb2;have HI2:Hid (InQ w w2 us):=HIQ.out.below hb2;have ho3:=ho2.mono bA.size;have hsz2:=nT hszA hb2.size;obtain⟨aE,cE,hvE,-⟩:=id ho3.rd;obtain⟨nE,hnE⟩:∃ nE,nE=E.length:=⟨_,rfl⟩;rw[← hnE] at hvE hel;subst hvE;have HNE:Hid (nE=E.length):=hnE;have hsz3:w.heap.size+1≤w2.heap.size:=hsz2;clear hnE HEN hc hri hrs c0 c1 c2 c3 htA hb2 bA hoq HIQ ho2 hszA q0 q1 q2 q3 q4;by_cases hE0:nE=0
      ·have RES:=HNO1.out (by rw[← HNE.out];exact hE0) w2 b2;subst hE0;clear HNO HNO1 HYES hq2 HI2 ht2 ho3;go_wp2;exact RES
      ·have hEi:¬ (nE:Int)=0:=(by omega);have HF2:Hid (full ys (k+1)):=HFS.out (by rw[← HNE.out];exact hE0);clear HNO1 HFS;go_wp2_with (at_builtin;(refine wpList_append_own _ rfl _ _ 60 rfl (w.heap.size+1) 24 i0 (.slice none 0 0) 1 24 Tryz.underlying60 hi hz0 hz1 hz2 rfl (by decide) _ _ _ rfl (World.ownsRow.alloc hq2 _) ⟨w2.heap.size,0,none⟩ 1 1 [.slice aE nE cE] rfl rfl ?c1 ?c2 ?c3 ?c4 ?c5 ?_))
       case c1=>exact zjE _ _ _ _ rfl
       case c2=>intro z hz;simp at hz;subst hz;rfl
       case c3=>unfold maxLen;omega
       case c4=>omega
       case c5=>simp;omega
       intro v5 w5 ho5 hg5 _;have bb1:=ze w2 (.cells #[.slice aE nE cE] 24);have hqA:=hq2.below bb1;rw[← hul] at ho5;have r1:=zdK (zs:=E) ho5;have R2:Hid (InQ w w5 (us++[(.slice aE nE cE,E)])):=((HI2.out.push ho3 (by rw[← HNE.out];exact hel)).below bb1).grown hqA hg5;have ht5:=(ht2.below bb1).of_block (hg5.block w.heap.size (by have:=bb1.size;omega) (fun e=>by have:=(oL hq2 _ e.symm).1;omega));have b5:Below w.heap.size w w5:=(b2.alloc b2.size _).grown hg5 (by simp;omega) (fun k hk=>by have:=(oL hq2 k hk).1;omega);have hsz5:w.heap.size+1≤w5.heap.size:=(by have:=hg5.size;have:=bb1.size;omega);have HU5:Hid ((us++[((.slice aE nE cE:Value),E)]).map (·.2)=mem::tl ys (k+1)):=(by unfold Hid;rw[List.map_append,HUM.out,HTS.out];simp);have HN5:Hid (n+nE=lenS (mem::tl ys (k+1))):=(by unfold Hid;rw[HTS.out,HN.out,HNE.out,← zjz];simp);have hul5:(us++[((.slice aE nE cE:Value),E)]).length=k+1+1:=(by rw[lA,hul];rfl);clear hq2 HI2 ho3 ho5 hg5 bb1 hqA ht2 b2 HUM HN HTS HNO HYES;go_wp2;go_roundw
       case rel=>exact⟨k+1,n+nE,_,by omega,by go_num,by go_num,by omega,by omega,r1,HU5,HN5,HF2,R2,ht5,b5,hsz5⟩
       case measure=>simp[intOf];omega
     ·skip
      have hke:k=yn:=(by omega);subst hke;clear hly hmy;have HUM1:Hid (us.map (·.2)=mem::tl ys k++tl os 0):=(by have:=HUM.out;unfold Hid;rw[this];simp[tl]);have HN1:Hid (n=lenS (mem::tl ys k++tl os 0)):=(by have:=HN.out;unfold Hid;rw[this];simp[tl]);go_wp2;go_loopw [4,5,8] (fun o q i wr=>∃ (j n:Nat) (us:List (Value×List Ent)),j≤on∧i=.int .i64 j∧q=.int .i64 n∧n≤300*(k+j+1)∧us.length=k+j+1∧OwnQ wr (w.heap.size+1) o us∧Hid (us.map (·.2)=mem::tl ys k++tl os j)∧Hid (n=lenS (mem::tl ys k++tl os j))∧Hid (full os j)∧Hid (InQ w wr us)∧TreAt wr w.heap.size ⟨.slice am mn cm,.slice ay k cy,.slice ao on co,vs,mem,ys,os,seq,snaps⟩∧Below w.heap.size w wr∧w.heap.size+1≤wr.heap.size) (fun _ _ i _=>on-(intOf i).toNat)
      case atStart=>exact⟨0,n,us,Nat.zero_le _,rfl,rfl,hn3,hul,hoq,HUM1,HN1,(fun i hi=>by omega),HIQ,htA,bA,hszA⟩
      case round =>
       clear HUM1 HN1 HN hn3 hul hoq HUM HIQ htA bA hszA q0 q1 q2 q3 q4;obtain⟨j,n,us,hj,rfl,rfl,hn3,hul,hoq,HUM,HN,HFo,HIQ,htA,bA,hszA⟩:=hrel;obtain⟨q0,q1,q2,q3,q4⟩:=id htA;simp only at q0 q1 q2 q3 q4;by_cases hlt:j<on
       ·skip
        have hkl:j<os.length:=(by rw[← HON.out];exact hlt);have hli:(j:Int)<(on:Int):=(by omega);have hkc:j<co:=(by omega);have hmt:nthT os j∈os:=(by rw[zba hkl];exact List.getElem_mem hkl);obtain⟨b,off,rfl,hc,hri,hrs⟩:=(hxo.below bA).at j hkl;have HNO1:Hid ((zu (nthT os j).T).length=0→∀ W,Below w.heap.size w W→GOAL (.returned (.tuple #[.slice (some ⟨W.heap.size,0,none⟩) 0 0,.bool false])) (W.alloc (.cells #[] 40))):=fun h W hb=>HNO.out _ (List.mem_append_right _ hmt) h W hb
        have HTS:Hid (tl os (j+1)=tl os j++[zu (nthT os j).T]):=zip hkl;have HFS:Hid ((zu (nthT os j).T).length≠0→full os (j+1)):=fun h=>zjS HFo.out h
        have HEN:Hid (∀ W,RdI W (nthT os j).vb (nthT os j).T.bits→RdS W (nthT os j).vk (nthT os j).T.blocks→Calls Tryz.prog 82 #[.agg #[.string (nthT os j).T.first,.string (nthT os j).T.last,(nthT os j).vb,(nthT os j).vk]] W fun e w'=>∃ u,e=.returned u∧OwnE w' W.heap.size u (zu (nthT os j).T)∧Below W.heap.size W w'):=fun W h1 h2=>zbx _ _ _ W h1 h2 (HFO.out _ hmt)
        have hel:=zbQ (nthT os j).T;generalize zu (nthT os j).T=E at HNO1 HTS HFS HEN hel;generalize nthT os j=t at hc hri hrs HEN;obtain⟨c0,c1,c2,c3⟩:=id hc;clear hmt hkl;go_wp2_with fail
        refine(HEN.out _ hri hrs).mono ?_;rintro e w2 ⟨u,rfl,ho2,hb2⟩;have ht2:=htA.below hb2;have b2:=bA.trans (hb2.mono bA.size);have hq2:=hoq.below hb2;have HI2:Hid (InQ w w2 us):=HIQ.out.below hb2;have ho3:=ho2.mono bA.size;have hsz2:=nT hszA hb2.size;obtain⟨aE,cE,hvE,-⟩:=id ho3.rd;obtain⟨nE,hnE⟩:∃ nE,nE=E.length:=⟨_,rfl⟩;rw[← hnE] at hvE hel;subst hvE;have HNE:Hid (nE=E.length):=hnE;have hsz3:w.heap.size+1≤w2.heap.size:=hsz2;clear hnE HEN hc hri hrs c0 c1 c2 c3 htA hb2 bA hoq HIQ ho2 hszA q0 q1 q2 q3 q4;by_cases hE0:nE=0
        ·have RES:=HNO1.out (by rw[← HNE.out];exact hE0) w2 b2;subst hE0;clear HNO HNO1 HYES hq2 HI2 ht2 ho3;go_wp2;exact RES
        ·have hEi:¬ (nE:Int)=0:=(by omega);have HF2:Hid (full os (j+1)):=HFS.out (by rw[← HNE.out];exact hE0);clear HNO1 HFS;go_wp2_with (at_builtin;(refine wpList_append_own _ rfl _ _ 60 rfl (w.heap.size+1) 24 i0 (.slice none 0 0) 1 24 Tryz.underlying60 hi hz0 hz1 hz2 rfl (by decide) _ _ _ rfl (World.ownsRow.alloc hq2 _) ⟨w2.heap.size,0,none⟩ 1 1 [.slice aE nE cE] rfl rfl ?c1 ?c2 ?c3 ?c4 ?c5 ?_))
         case c1=>exact zjE _ _ _ _ rfl
         case c2=>intro z hz;simp at hz;subst hz;rfl
         case c3=>unfold maxLen;omega
         case c4=>omega
         case c5=>simp;omega
         intro v5 w5 ho5 hg5 _;have bb1:=ze w2 (.cells #[.slice aE nE cE] 24);have hqA:=hq2.below bb1;rw[← hul] at ho5;have r1:=zdK (zs:=E) ho5;have R2:Hid (InQ w w5 (us++[(.slice aE nE cE,E)])):=((HI2.out.push ho3 (by rw[← HNE.out];exact hel)).below bb1).grown hqA hg5;have ht5:=(ht2.below bb1).of_block (hg5.block w.heap.size (by have:=bb1.size;omega) (fun e=>by have:=(oL hq2 _ e.symm).1;omega));have b5:Below w.heap.size w w5:=(b2.alloc b2.size _).grown hg5 (by simp;omega) (fun k hk=>by have:=(oL hq2 k hk).1;omega);have hsz5:w.heap.size+1≤w5.heap.size:=(by have:=hg5.size;have:=bb1.size;omega);have HU5:Hid ((us++[((.slice aE nE cE:Value),E)]).map (·.2)=mem::tl ys k++tl os (j+1)):=(by unfold Hid;rw[List.map_append,HUM.out,HTS.out];simp);have HN5:Hid (n+nE=lenS (mem::tl ys k++tl os (j+1))):=(by unfold Hid;rw[HTS.out,HN.out,HNE.out,← zjz];simp);have hul5:(us++[((.slice aE nE cE:Value),E)]).length=k+j+1+1:=(by rw[lA,hul];rfl);clear hq2 HI2 ho3 ho5 hg5 bb1 hqA ht2 b2 HUM HN HTS HNO HYES;go_wp2;go_roundw
         case rel=>exact⟨j+1,n+nE,_,by omega,by go_num,by go_num,by omega,by omega,r1,HU5,HN5,HF2,R2,ht5,b5,hsz5⟩
         case measure=>simp[intOf];omega
       ·skip
        have hje:j=on:=(by omega);subst hje;have hpc:=hoq.pieces (HIQ.out.rd bA);have HM:=zfw _ us _ hpc (by omega) (fun p hp=>(HIQ.out p hp).2);have HM1:Hid (Calls _ _ _ _ _):=HM;clear HM hpc;have HY2:Hid (∀ W u,OwnE W w.heap.size u (zj (us.map (·.2)))→Below w.heap.size w W→GOAL (.returned (.tuple #[u,.bool (decide ((zj (us.map (·.2))).length=n))])) W):=fun W u ho hb=>by
         rw[HUM.out,HN.out];rw[HUM.out] at ho;have hy:=HYN.out;have hq:=HON.out;rw[hy,hq] at ho ⊢;exact HYES.out HOK.out.symm (by omega) (by omega) (by rw[← hy];exact HF.out) (by rw[← hq];exact HFo.out) W u ho hb
        clear HYES HNO;have hml:(zj (us.map (·.2))).length≤10000:=by
         have:=zga us (fun p hp=>(HIQ.out p hp).2);omega
        go_wp2_with fail
        refine HM1.out.mono ?_;rintro e w2 ⟨u,rfl,ho2,hb2⟩;have b2:=bA.trans (hb2.mono bA.size);have hy3:=HY2.out w2 u (ho2.mono bA.size) b2;obtain⟨a2,c2,hv2,-⟩:=id ho2.rd;generalize zj (us.map (·.2))=M at ho2 hy3 hv2 hml;obtain⟨z,hz⟩:∃ z,z=M.length:=⟨_,rfl⟩;rw[← hz] at hv2 hml hy3;subst hv2;have HR:Hid (GOAL _ _):=hy3;clear hz hy3 HM1 HY2 hoq;by_cases hzn:z=n
        ·subst hzn;rw[decide_eq_true rfl] at HR;go_wp2;exact HR.out
        ·rw[decide_eq_false hzn] at HR;have hzi:((z:Int)==(n:Int))=false:=(by rw[beq_eq_false_iff_ne];omega);go_wp2;exact HR.out
end Go.Proofs.YtjlnchhgkfnldaaGreat
