import Derived.Test.YtannfbpohhnnkaaGreatDoorMrgSpec3
import Derived.Deep.LoopGhost
namespace Go.Proofs.YtannfbpohhnnkaaGreatDoor
set_option maxHeartbeats 16000000
set_option maxRecDepth 100000
open Go.RowKit
structure TV where
 T:Tbl
 vb:Value
 vk:Value
def zeroTV:TV:=⟨zeroT,.slice none 0 0,.slice none 0 0⟩
def nthT(ts:List TV)(i:Nat):TV:=ts.getD i zeroTV
theorem zak{ts:List TV}{i:Nat}(h:i<ts.length):nthT ts i=ts[i]:=by simp[nthT,List.getD,List.getElem?_eq_getElem h]
def TabAt(w:World)(b o:Nat)(t:TV):Prop :=
 w.cell? ⟨b,o,none⟩=some (.string t.T.first)∧w.cell? ⟨b,o+1,none⟩=some (.string t.T.last)∧w.cell? ⟨b,o+2,none⟩=some t.vb∧w.cell? ⟨b,o+3,none⟩=some t.vk
theorem TabAt.lt{w:World}{b o:Nat}{t:TV}(h:TabAt w b o t):b<w.heap.size:=World.block_lt_of_cell? w _ h.1
theorem TabAt.of_block{w w':World}{b o:Nat}{t:TV}(h:TabAt w b o t)(hb:w'.heap[b]? = w.heap[b]?):TabAt w' b o t :=
 ⟨(World.cell?_of_block (a:=⟨b,o,none⟩) hb).trans h.1,(World.cell?_of_block (a:=⟨b,o+1,none⟩) hb).trans h.2.1,(World.cell?_of_block (a:=⟨b,o+2,none⟩) hb).trans h.2.2.1,(World.cell?_of_block (a:=⟨b,o+3,none⟩) hb).trans h.2.2.2⟩
theorem TabAt.below{w w':World}{b o:Nat}{t:TV}(h:TabAt w b o t)(hb:Below w.heap.size w w'):TabAt w' b o t:=h.of_block (hb.block b h.lt)
def RdTs(w:World)(v:Value)(ts:List TV):Prop :=
 ∃ a cap,v=.slice a ts.length cap∧ts.length≤cap∧cap≤maxLen∧(ts=[]∨∃ b off,a=some ⟨b,off,none⟩∧∀ i,i<ts.length→TabAt w b (off+i*4) (nthT ts i))∧∀ t∈ts,RdI w t.vb t.T.bits∧RdS w t.vk t.T.blocks
theorem RdTs.below{w w':World}{v:Value}{ts:List TV}(h:RdTs w v ts)(hb:Below w.heap.size w w'):RdTs w' v ts:=by
 obtain⟨a,cap,hv,h1,h2,h3,h4⟩:=h;refine⟨a,cap,hv,h1,h2,?_,fun t ht=>⟨(h4 t ht).1.below hb,(h4 t ht).2.below hb⟩⟩;rcases h3 with h3 | ⟨b,off,ha,hc⟩
 ·exact .inl h3
 ·exact .inr ⟨b,off,ha,fun i hi=>(hc i hi).below hb⟩
theorem RdTs.at{w:World}{a:Option Addr}{n cap:Nat}{ts:List TV}(h:RdTs w (.slice a n cap) ts)(i:Nat)(hi:i<ts.length):∃ b off,a=some ⟨b,off,none⟩∧TabAt w b (off+i*4) (nthT ts i)∧RdI w (nthT ts i).vb (nthT ts i).T.bits∧RdS w (nthT ts i).vk (nthT ts i).T.blocks:=by
 obtain⟨a',cap',hv,_,_,h3,h4⟩:=h;simp only[Value.slice.injEq] at hv;obtain⟨rfl,_,_⟩:=hv;rcases h3 with rfl | ⟨b,off,ha,hc⟩
 ·simp at hi
 ·have:=h4 (nthT ts i) (by rw[zak hi];exact List.getElem_mem hi);exact⟨b,off,ha,hc i hi,this.1,this.2⟩
structure TrX where
 vm:Value
 vy:Value
 vo:Value
 vs:Value
 mem:List Ent
 ys:List TV
 os:List TV
 seq:Int
 snaps:List Int
def TrX.tre(X:TrX):Tre:=⟨X.mem,X.ys.map (·.T),X.os.map (·.T),X.seq,X.snaps⟩
structure RdTr (w:World) (X:TrX):Prop where
 mem:RdE w X.vm X.mem
 young:RdTs w X.vy X.ys
 old:RdTs w X.vo X.os
 snaps:RdI w X.vs X.snaps
theorem RdTr.below{w w':World}{X:TrX}(h:RdTr w X)(hb:Below w.heap.size w w'):RdTr w' X:=⟨h.mem.below hb,h.young.below hb,h.old.below hb,h.snaps.below hb⟩
structure FitTr (X:TrX):Prop where
 mem:∀ e∈X.mem,Fits e
 young:∀ t∈X.ys,∀ s∈t.T.blocks,s.size≤1000000000
 old:∀ t∈X.os,∀ s∈t.T.blocks,s.size≤1000000000
def TreAt(w:World)(b:Nat)(X:TrX):Prop :=
 w.cell? ⟨b,0,none⟩=some X.vm∧w.cell? ⟨b,1,none⟩=some X.vy∧w.cell? ⟨b,2,none⟩=some X.vo∧w.cell? ⟨b,3,none⟩=some (.int .i64 X.seq)∧w.cell? ⟨b,4,none⟩=some X.vs
theorem TreAt.lt{w:World}{b:Nat}{X:TrX}(h:TreAt w b X):b<w.heap.size:=World.block_lt_of_cell? w _ h.1
theorem TreAt.of_block{w w':World}{b:Nat}{X:TrX}(h:TreAt w b X)(hb:w'.heap[b]? = w.heap[b]?):TreAt w' b X :=
 ⟨(World.cell?_of_block (a:=⟨b,0,none⟩) hb).trans h.1,(World.cell?_of_block (a:=⟨b,1,none⟩) hb).trans h.2.1,(World.cell?_of_block (a:=⟨b,2,none⟩) hb).trans h.2.2.1,(World.cell?_of_block (a:=⟨b,3,none⟩) hb).trans h.2.2.2.1,(World.cell?_of_block (a:=⟨b,4,none⟩) hb).trans h.2.2.2.2⟩
theorem TreAt.below{w w':World}{b:Nat}{X:TrX}(h:TreAt w b X)(hb:Below w.heap.size w w'):TreAt w' b X:=h.of_block (hb.block b h.lt)
theorem zaI(w:World)(X:TrX)(t:TypeId):TreAt (w.alloc (.cells #[X.vm,X.vy,X.vo,.int .i64 X.seq,X.vs] t)) w.heap.size X:=by
 refine⟨?_,?_,?_,?_,?_⟩<;>simp[World.cell?_alloc_at]
open Go.RowKit
theorem Tryz.infoL31:(Tryz.prog.info? 31).map (fun i=>(i.zero,i.size,i.bytes))=some (some (.slice none 0 0),1,24):=by kernel_rfl
def OwnQ(w:World)(base:Nat)(v:Value)(ps:List (Value×List Ent)):Prop:=w.ownsRow base 31 1 v ps.length (ps.map (·.1))
theorem OwnQ.below{w w':World}{base:Nat}{v:Value}{ps:List (Value×List Ent)}(h:OwnQ w base v ps)(hb:Below w.heap.size w w'):OwnQ w' base v ps:=zaB h hb
theorem zg0{w1:World}{B:Nat}{v':Value}{ps:List (Value×List Ent)}{u:Value}{zs:List Ent}(h:w1.ownsRow B 31 1 v' (ps.length+1) (ps.map (·.1)++[u])):OwnQ w1 B v' (ps++[(u,zs)]):=by
 unfold OwnQ;rw[List.map_append,List.length_append];exact h
theorem ownQ_one(w:World)(u:Value)(zs:List Ent):OwnQ (w.alloc (.cells #[u] 31)) w.heap.size (.slice (some ⟨w.heap.size,0,none⟩) 1 1) [(u,zs)]:=World.ownsRow_lit w #[u] 1 (Nat.le_refl _) (by unfold maxLen;omega) rfl
theorem OwnQ.pieces{w:World}{base:Nat}{v:Value}{ps:List (Value×List Ent)}(h:OwnQ w base v ps)(hp:∀ p∈ps,RdE w p.1 p.2):Pieces w v ps:=by
 have h':=h;rcases h.2 with ⟨rfl,h0⟩ | ⟨g,cap,cur,rfl,hb,hg,hn,hc,hs,ht⟩
 ·exact .inl ⟨rfl,List.length_eq_zero_iff.1 h0⟩
 ·refine .inr ⟨g,0,cap,rfl,hn,hc,fun i hi=>⟨?_,hp _ (List.getElem_mem hi)⟩⟩;have:=World.ownsRow.cellAt h' i (by omega);rw[Nat.zero_add,this];simp[hi]
theorem q_apart{w:World}{B B':Nat}{o v:Value}{ps:List (Value×List Ent)}{es:List Ent}(h:OwnQ w B o ps)(he:OwnE w B' v es):∀ k,v.ownBlock=some k→o.ownBlock≠some k:=by
 intro k hk e;rcases h.2 with ⟨h1,_⟩ | ⟨g,cap,cur,hv,_,hg,_⟩
 ·rw[h1] at e;cases e
 ·rcases he.2 with ⟨h1,_⟩ | ⟨g',cap',cur',hv',_,hg',_⟩
  ·rw[h1] at hk;cases hk
  ·rw[hv] at e;rw[hv'] at hk;have e1:g=k:=Option.some.inj e;have e2:g'=k:=Option.some.inj hk;rw[e1] at hg;rw[e2,hg] at hg';simp at hg'
theorem ownE_blk{w w':World}{B:Nat}{v:Value}{es:List Ent}(h:OwnE w B v es)(hb:∀ k,v.ownBlock=some k→w'.heap[k]? = w.heap[k]?):OwnE w' B v es:=by
 refine⟨h.1,?_⟩;rcases h.2 with h2 | ⟨g,cap,cur,hv,hg,hh,r⟩
 ·exact .inl h2
 ·exact .inr ⟨g,cap,cur,hv,hg,by rw[hb g (by rw[hv];rfl)];exact hh,r⟩
def InQ(w0 w:World)(ps:List (Value×List Ent)):Prop:=∀ p∈ps,(RdE w0 p.1 p.2∨OwnE w w0.heap.size p.1 p.2)∧p.2.length≤300
theorem InQ.below{w0 w w':World}{ps:List (Value×List Ent)}(h:InQ w0 w ps)(hb:Below w.heap.size w w'):InQ w0 w' ps:=fun p hp=>by
 obtain⟨h1,h2⟩:=h p hp;refine⟨?_,h2⟩;rcases h1 with h1 | h1
 ·exact .inl h1
 ·exact .inr (h1.below hb)
theorem InQ.grown{w0 w w':World}{B:Nat}{o:Value}{ps ts:List (Value×List Ent)}(h:InQ w0 w ps)(ho:OwnQ w B o ts)(hg:w.grownBy w' o.ownBlock):InQ w0 w' ps:=fun p hp=>by
 obtain⟨h1,h2⟩:=h p hp;refine⟨?_,h2⟩;rcases h1 with h1 | h1
 ·exact .inl h1
 ·exact .inr (ownE_blk h1 (fun k hk=>hg.block k (World.ownsRow.lt h1 k hk).2 (fun e=>q_apart ho h1 k hk e.symm)))
theorem InQ.push{w0 w:World}{ps:List (Value×List Ent)}{u:Value}{es:List Ent}(h:InQ w0 w ps)(hu:OwnE w w0.heap.size u es)(hl:es.length≤300):InQ w0 w (ps++[(u,es)]):=fun p hp=>by
 rcases List.mem_append.1 hp with hp | hp
 ·exact h p hp
 ·rw[List.mem_singleton.1 hp];exact⟨.inr hu,hl⟩
theorem InQ.rd{w0 w:World}{ps:List (Value×List Ent)}(h:InQ w0 w ps)(hb:Below w0.heap.size w0 w):∀ p∈ps,RdE w p.1 p.2:=fun p hp=>by
 rcases (h p hp).1 with h1 | h1
 ·exact h1.below hb
 ·exact h1.rd
theorem zda(t:Tbl):(zp t).length≤300:=by
 cases h:zA t with
 | true=>exact zZ (zab h).1
 | false=>unfold zp;rw[if_neg (by rw[h];simp)];simp
theorem zhb{ts:List TV}{k:Nat}(hk:k<ts.length):ts.take (k+1)=ts.take k++[nthT ts k]:=by rw[List.take_succ_eq_append_getElem hk,zak hk]
def tl(ts:List TV)(k:Nat):List (List Ent):=(ts.take k).map (fun t=>zp t.T)
theorem zpM{ts:List TV}{k:Nat}(hk:k<ts.length):tl ts (k+1)=tl ts k++[zp (nthT ts k).T]:=by unfold tl;rw[zhb hk,List.map_append];rfl
theorem tl_all(ts:List TV):tl ts ts.length=ts.map (fun t=>zp t.T):=by unfold tl;rw[List.take_length]
def full(ts:List TV)(k:Nat):Prop:=∀ i,i<k→(zp (nthT ts i).T).length≠0
theorem zpv(w:World)(x:Value)(t:TypeId)(n:Nat)(hn:n=w.heap.size):∀ j u,[x][j]? = some u→(w.alloc (.cells #[x] t)).cell? ((⟨n,0,none⟩:Addr).add j)=some u:=by
 intro j u h;subst hn;cases j with
 | zero=>cases h;simp[Addr.add,World.cell?_alloc_at]
 | succ j=>simp at h
theorem zke(us:List (Value×List Ent))(h:∀ p∈us,p.2.length≤300):(zk (us.map (·.2))).length≤300*us.length:=by
 have:=ziF us h us.length (Nat.le_refl _);rwa [zmD] at this
end Go.Proofs.YtannfbpohhnnkaaGreatDoor
