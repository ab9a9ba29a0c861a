import Derived.Test.YtannfbpohhnnkaaGreatDoorG04
import Derived.Deep.RegionLaw
import Derived.Maps.AppendAt
namespace Go.Proofs.YtannfbpohhnnkaaGreatDoor
set_option maxHeartbeats 16000000
set_option maxRecDepth 100000
theorem seen_iff{es:List Ent}(hs:Sr es)(k:ByteArray)(q:Int)(e:Ent):seenL es k q=some e↔e∈es∧e.key=k∧e.seq≤q∧∀ x∈es,x.key=k→x.seq≤q→x.seq≤e.seq:=by
 unfold seenL;rw[zq4 _ es hs e];simp only[seenP,kEq,Bool.and_eq_true,decide_eq_true_eq];constructor
 ·rintro ⟨h1,⟨h2,h3⟩,h4⟩;refine⟨h1,h2,h3,fun x hx hk hq=>?_⟩;rcases h4 x hx ⟨hk,hq⟩ with h | h
  ·rw[h];exact Int.le_refl _
  ·rw[zaX,h2,hk,zW] at h;rcases h with h | h
   ·cases h
   ·omega
 ·rintro ⟨h1,h2,h3,h4⟩;refine⟨h1,⟨h2,h3⟩,fun x hx ⟨hk,hq⟩=>?_⟩;have:=h4 x hx hk hq;by_cases he:x.seq=e.seq
  ·exact .inl (ks_eq hs hx h1 (by rw[hk,h2]) he)
  ·right
   rw[zaX];exact .inr ⟨by rw[h2,hk],by omega⟩
theorem zqx{es:List Ent}(k:ByteArray)(q:Int):seenL es k q=none↔∀ x∈es,x.key=k→¬ x.seq≤q:=by
 unfold seenL;rw[List.find?_eq_none];simp only[seenP,kEq,Bool.and_eq_true,decide_eq_true_eq,not_and]
theorem TreeP.sr{T:Tre}(h:TreeP T):Sr (zk (lsT T)):=zeW (ze7 h.mem)
theorem TreeP.all{T:Tre}(h:TreeP T)(z:Ent):z∈zk (lsT T)↔∃ l∈lsT T,z∈l:=zbA (ze7 h.mem) h.apart z
structure Wri where
 key:ByteArray
 val:ByteArray
 gone:Bool
def wriE(x:Wri)(s:Int):Ent:=⟨x.key,x.val,s,x.gone⟩
def wriOk(x:Wri):Bool:=okE (wriE x 1)
theorem zmW{x:Wri}(h:wriOk x=true){s:Int}(h1:1≤s)(h2:s≤1000000):okE (wriE x s)=true:=by
 unfold wriOk okE at h;unfold okE;simp only[wriE,Bool.and_eq_true] at h ⊢;exact⟨⟨h.1.1,decide_eq_true h1⟩,decide_eq_true h2⟩
def put1(T:Tre)(x:Wri):Tre:=⟨insE T.mem (wriE x (T.seq+1)),T.young,T.old,T.seq+1,T.snaps⟩
theorem zjd(es:List Ent)(e z:Ent):z∈insE es e↔z=e∨z∈es:=by
 unfold insE;rw[List.mem_append,List.mem_cons];have:z∈es↔z∈es.take (atE es e)∨z∈es.drop (atE es e):=by
  conv=>lhs;rw[← List.take_append_drop (atE es e) es]
  rw[List.mem_append]
 rw[this];constructor
 ·rintro (h | h | h)
  ·exact .inr (.inl h)
  ·exact .inl h
  ·exact .inr (.inr h)
 ·rintro (h | h | h)
  ·exact .inr (.inl h)
  ·exact .inl h
  ·exact .inr (.inr h)
theorem zlJ(seq:Int)(ss:List Int):zao seq ss=true↔(∀ s∈ss,0≤s∧s≤seq)∧ss.Pairwise (· < ·):=by
 unfold zao;rw[List.all_eq_true];have gd2:∀ i (hi:i<ss.length),ss.getD i 0=ss[i]:=fun i hi=>by simp[List.getD,List.getElem?_eq_getElem hi]
 constructor
 ·intro h;have h1:∀ i (hi:i<ss.length),(0≤ss[i]∧ss[i]≤seq)∧(i=0∨ss.getD (i-1) 0<ss[i]):=fun i hi=>by
   have:=h i (List.mem_range.2 hi);simp only[Bool.and_eq_true,Bool.or_eq_true,decide_eq_true_eq] at this;rw[gd2 i hi] at this;exact this
  refine⟨fun s hs=>?_,?_⟩
  ·obtain⟨i,hi,rfl⟩:=List.getElem_of_mem hs;exact(h1 i hi).1
  ·rw[List.pairwise_iff_getElem];intro i j hi hj hij;have step:∀ d (hd:i+d+1<ss.length),ss[i]<ss[i+d+1]:=by
    intro d;induction d with
    | zero =>
     intro hd;rcases (h1 (i+1) (by omega)).2 with h0 | h0
     ·omega
     ·rw[show i+1-1=i by omega,gd2 i hi] at h0;exact h0
    | succ d ih =>
     intro hd;have a:=ih (by omega);rcases (h1 (i+(d+1)+1) hd).2 with h0 | h0
     ·omega
     ·rw[show i+(d+1)+1-1=i+d+1 by omega,gd2 _ (by omega)] at h0;omega
   have:=step (j-i-1) (by omega);simp only[show i+(j-i-1)+1=j by omega] at this;exact this
 ·rintro ⟨h1,h2⟩ i hi;rw[List.mem_range] at hi;simp only[Bool.and_eq_true,Bool.or_eq_true,decide_eq_true_eq];rw[gd2 i hi];have:=h1 _ (List.getElem_mem hi);refine⟨this,?_⟩;by_cases h0:i=0
  ·exact .inl h0
  ·right
   rw[gd2 (i-1) (by omega)];exact List.pairwise_iff_getElem.1 h2 (i-1) i (by omega) hi (by omega)
theorem snaps_up{a b:Int}{ss:List Int}(h:zao a ss=true)(hab:a≤b):zao b ss=true:=by
 rw[zlJ] at h ⊢;exact⟨fun s hs=>⟨(h.1 s hs).1,by have:=(h.1 s hs).2;omega⟩,h.2⟩
theorem zjH{T:Tre}(h:TreeP T){x:Wri}(hx:wriOk x=true)(hs:T.seq<1000000)(hl:T.mem.length<300):TreeP (put1 T x):=by
 have hd:=List.pairwise_cons.1 h.apart;have he:okE (wriE x (T.seq+1))=true:=zmW hx (by have:=h.seq0;omega) (by omega);have hno:∀ y,(∃ l∈lsT T,y∈l)→zz y (wriE x (T.seq+1))=false:=fun y ⟨l,hl,hy⟩=>by
  cases hk:zz y (wriE x (T.seq+1)) with
  | false=>rfl
  | true =>
   have h1:=((zaG _ _).1 hk).2;have h2:=h.top l hl y hy;simp only[wriE] at h1;omega
 have hpk:putOk T.mem (wriE x (T.seq+1))=true:=by
  simp only[putOk,Bool.and_eq_true,Bool.not_eq_true',decide_eq_false_iff_not];refine⟨⟨⟨h.mem,he⟩,by omega⟩,?_⟩;cases hk:hasKS T.mem (wriE x (T.seq+1)) with
  | false=>rfl
  | true =>
   unfold hasKS at hk;rw[List.any_eq_true] at hk;obtain⟨y,hy,hyk⟩:=hk;have:=hno y ⟨T.mem,List.mem_cons_self,hy⟩;rw[hyk] at this;cases this
 refine⟨insE_ok hpk,h.young,h.old,h.full,?_,by show (0:Int)≤T.seq+1;have:=h.seq0;omega,by show T.seq+1≤1000000;omega,h.few,snaps_up h.snaps (show T.seq≤T.seq+1 by omega),fun l hl e hel=>?_,fun a ha l hl y hy hk=>?_⟩
 ·show (insE T.mem (wriE x (T.seq+1))::tabL T).Pairwise Dsj;rw[List.pairwise_cons];refine⟨fun l hl a ha y hy=>?_,hd.2⟩;rcases (zjd _ _ _).1 ha with rfl | ha
  ·cases hk:zz (wriE x (T.seq+1)) y with
   | false=>rfl
   | true=>have:=hno y ⟨l,List.mem_cons_of_mem _ hl,hy⟩;rw[zap hk] at this;cases this
  ·exact hd.1 l hl a ha y hy
 ·show e.seq≤T.seq+1;rcases List.mem_cons.1 (show l∈insE T.mem (wriE x (T.seq+1))::tabL T from hl) with rfl | hl
  ·rcases (zjd _ _ _).1 hel with rfl | hel
   ·exact Int.le_refl _
   ·have:=h.top T.mem List.mem_cons_self e hel;omega
  ·have:=h.top l (List.mem_cons_of_mem _ hl) e hel;omega
 ·rcases (zjd _ _ _).1 ha with rfl | ha
  ·have:=h.top l (List.mem_cons_of_mem _ hl) y hy;show y.seq<T.seq+1;omega
  ·exact h.newer a ha l hl y hy hk
def zh6(T:Tre):Tre:=⟨[],zq T.mem::T.young,T.old,T.seq,T.snaps⟩
theorem spill_ls{T:Tre}(hm:okL T.mem=true)(h0:T.mem.length≠0):lsT (zh6 T)=[]::T.mem::tabL T:=by
 unfold lsT tabL zh6;have:zN T.mem=true:=by simp[zN,hm,h0]
 simp[zfa this]
theorem znI{T:Tre}(h:TreeP T)(h0:T.mem.length≠0)(hy:T.young.length<6):TreeP (zh6 T):=by
 have hls:=spill_ls h.mem h0;have hb:zN T.mem=true:=by simp[zN,h.mem,h0]
 refine⟨rfl,by show T.young.length+1≤6;omega,h.old,fun t ht=>?_,?_,h.seq0,h.seq1,h.few,h.snaps,fun l hl e he=>?_,fun x hx=>by cases hx⟩
 ·rcases List.mem_cons.1 (show t∈zq T.mem::(T.young++T.old) from ht) with rfl | ht
  ·exact ziE hb
  ·exact h.full t ht
 ·rw[hls,List.pairwise_cons];exact⟨(fun l _ x hx=>by cases hx),h.apart⟩
 ·rw[hls] at hl;rcases List.mem_cons.1 hl with rfl | hl
  ·cases he
  ·exact h.top l hl e he
def sinkL(T:Tre):List Ent:=zB (zbq (zk (tabL T)) (T.snaps++[T.seq]))
def sinkT(T:Tre):Tre:=⟨T.mem,[],if (sinkL T).length=0 then [] else [zq (sinkL T)],T.seq,T.snaps⟩
theorem zo5{T:Tre}(h:TreeP T):(tabL T).Pairwise Dsj:=(List.pairwise_cons.1 h.apart).2
theorem zqW{T:Tre}(h:TreeP T)(z:Ent):z∈zk (tabL T)↔∃ l∈tabL T,z∈l:=zbA (zk6 T) (zo5 h) z
theorem zlx{T:Tre}(h:TreeP T){l:List Ent}(hl:l∈tabL T){e:Ent}(he:e∈l):okE e=true:=by
 obtain⟨t,ht,rfl⟩:=List.mem_map.1 hl;exact((za0 _).1 (zab (h.full t ht)).1).2.1 e he
theorem zo4{T:Tre}(h:TreeP T)(hn:(zk (tabL T)).length≤300):okL (zk (tabL T))=true:=by
 rw[za0];refine⟨hn,fun e he=>?_,zeW (zk6 T)⟩;obtain⟨l,hl,hel⟩:=(zqW h e).1 he;exact zlx h hl hel
theorem zmG{T:Tre}(h:TreeP T)(hn:(zk (tabL T)).length≤300):(sinkL T).Sublist (zk (tabL T)):=(zd2 _).trans (zkj (zo4 h hn) _)
theorem ziA{T:Tre}(h:TreeP T)(hn:(zk (tabL T)).length≤300):okL (sinkL T)=true:=zma (zo4 h hn) (zmG h hn)
theorem zmK{T:Tre}(h:TreeP T)(hn:(zk (tabL T)).length≤300):tabL (sinkT T)=if (sinkL T).length=0 then [] else [sinkL T]:=by
 unfold tabL sinkT;by_cases h0:(sinkL T).length=0
 ·simp[h0]
 ·have:zN (sinkL T)=true:=by simp[zN,ziA h hn,h0]
  simp[h0,zfa this]
theorem sink_in{T:Tre}(h:TreeP T)(hn:(zk (tabL T)).length≤300){l:List Ent}(hl:l∈tabL (sinkT T)){e:Ent}(he:e∈l):e∈sinkL T:=by
 rw[zmK h hn] at hl;split at hl
 ·cases hl
 ·rw[List.mem_singleton.1 hl] at he;exact he
theorem zqU{T:Tre}(h:TreeP T)(hn:(zk (tabL T)).length≤300):TreeP (sinkT T):=by
 have hin:∀ l∈tabL (sinkT T),∀ e∈l,∃ m∈tabL T,e∈m:=fun l hl e he=>(zqW h e).1 ((zmG h hn).subset (sink_in h hn hl he))
 have hd:=List.pairwise_cons.1 h.apart;refine⟨h.mem,Nat.zero_le _,?_,fun t ht=>?_,?_,h.seq0,h.seq1,h.few,h.snaps,fun l hl e he=>?_,fun x hx l hl y hy hk=>?_⟩
 ·unfold sinkT;split
  ·exact Nat.zero_le _
  ·exact Nat.le_refl _
 ·have ht':t∈(if (sinkL T).length=0 then [] else [zq (sinkL T)]):=by simpa [sinkT] using ht
  split at ht'
  ·cases ht'
  ·rename_i h0;rw[List.mem_singleton.1 ht'];exact ziE (by simp[zN,ziA h hn,h0])
 ·show (T.mem::tabL (sinkT T)).Pairwise Dsj;rw[List.pairwise_cons];refine⟨fun l hl x hx y hy=>?_,?_⟩
  ·obtain⟨m,hm,hym⟩:=hin l hl y hy;exact hd.1 m hm x hx y hym
  ·rw[zmK h hn];split
   ·exact List.Pairwise.nil
   ·exact List.pairwise_singleton _ _
 ·rcases List.mem_cons.1 (show l∈T.mem::tabL (sinkT T) from hl) with rfl | hl
  ·exact h.top T.mem List.mem_cons_self e he
  ·obtain⟨m,hm,hem⟩:=hin l hl e he;exact h.top m (List.mem_cons_of_mem _ hm) e hem
 ·obtain⟨m,hm,hym⟩:=hin l hl y hy;exact h.newer x hx m hm y hym hk
theorem zeZ:TreeP zey:=by
 refine⟨rfl,Nat.zero_le _,Nat.zero_le _,(fun t ht=>by cases ht),List.pairwise_singleton _ _,Int.le_refl _,by decide,Nat.zero_le _,rfl,fun l hl e he=>?_,(fun x hx=>by cases hx)⟩;rw[List.mem_singleton.1 (show l∈[([]:List Ent)] from hl)] at he;cases he
open Go.RowKit
def zeroW:Wri:=⟨⟨#[]⟩,⟨#[]⟩,false⟩
def nthW(xs:List Wri)(i:Nat):Wri:=xs.getD i zeroW
theorem zdE{xs:List Wri}{i:Nat}(h:i<xs.length):nthW xs i=xs[i]:=by simp[nthW,List.getD,List.getElem?_eq_getElem h]
theorem zpT(a:Wri)(r:List Wri):nthW (a::r) 0=a:=by simp[nthW]
theorem zq7(a:Wri)(r:List Wri)(i:Nat):nthW (a::r) (i+1)=nthW r i:=by simp[nthW,List.getD]
theorem Tryz.infoW77:(Tryz.prog.info? 77).map (fun i=>(i.zero,i.size,i.bytes))=some (some (.agg #[.string ⟨#[]⟩,.string ⟨#[]⟩,.bool false]),3,40):=by kernel_rfl
def WC(e:Wri):List Value:=[.string e.key,.string e.val,.bool e.gone]
def WA(e:Wri):Value:=.agg #[.string e.key,.string e.val,.bool e.gone]
def WV(es:List Wri):List Value:=es.flatMap WC
theorem zha:∀ es:List Wri,(WV es).length=es.length*3
 | []=>rfl
 | a::r=>by
  have:=zha r;unfold WV at this ⊢;rw[List.flatMap_cons,List.length_append,this,List.length_cons];simp[WC];omega
theorem zpx(a b:List Wri):WV (a++b)=WV a++WV b:=by simp[WV]
theorem WV_one(e:Wri):WV [e]=WC e:=by simp[WV]
theorem zqG(a:Wri)(r:List Wri):WV (a::r)=WC a++WV r:=by simp[WV]
theorem zoW:∀ (es:List Wri) (i:Nat),i<es.length→∀ j,j<3→(WV es)[i*3+j]? = (WC (nthW es i))[j]?
 | [],i,h,_,_=>by simp at h
 | a::r,0,_,j,hj=>by
  rw[zqG,zpT,Nat.zero_mul,Nat.zero_add,List.getElem?_append_left (by simp[WC];exact hj)]
 | a::r,i+1,h,j,hj=>by
  rw[zqG,zq7,← zoW r i (by simpa using h) j hj,List.getElem?_append_right (by simp[WC];omega)];congr 1
  simp[WC];omega
theorem zol(es:List Wri):∀ u∈WV es,u.oneCell'=true:=by
 intro u hu;simp only[WV,List.mem_flatMap] at hu;obtain⟨e,_,he⟩:=hu;simp only[WC,List.mem_cons,List.not_mem_nil,or_false] at he;rcases he with rfl | rfl | rfl<;>rfl
def WriAt(w:World)(b o:Nat)(e:Wri):Prop :=
 w.cell? ⟨b,o,none⟩=some (.string e.key)∧w.cell? ⟨b,o+1,none⟩=some (.string e.val)∧w.cell? ⟨b,o+2,none⟩=some (.bool e.gone)
def OwnW(w:World)(base:Nat)(v:Value)(es:List Wri):Prop:=w.ownsRow base 77 3 v es.length (WV es)
def RdW(w:World)(v:Value)(es:List Wri):Prop :=
 ∃ a cap,v=.slice a es.length cap∧es.length≤cap∧cap≤maxLen∧(a=none→cap=0) ∧
  (es=[]∨∃ b off,a=some ⟨b,off,none⟩∧∀ i,i<es.length→WriAt w b (off+i*3) (nthW es i))
theorem WriAt.lt{w:World}{b o:Nat}{e:Wri}(h:WriAt w b o e):b<w.heap.size:=World.block_lt_of_cell? w _ h.1
theorem WriAt.of_block{w w':World}{b o:Nat}{e:Wri}(h:WriAt w b o e)(hb:w'.heap[b]? = w.heap[b]?):WriAt w' b o e :=
 ⟨(World.cell?_of_block (a:=⟨b,o,none⟩) hb).trans h.1,(World.cell?_of_block (a:=⟨b,o+1,none⟩) hb).trans h.2.1,(World.cell?_of_block (a:=⟨b,o+2,none⟩) hb).trans h.2.2⟩
theorem WriAt.below{w w':World}{b o:Nat}{e:Wri}(h:WriAt w b o e)(hb:Below w.heap.size w w'):WriAt w' b o e:=h.of_block (hb.block b h.lt)
theorem zps{w:World}{base g cap n:Nat}{es:List Wri}(h:w.ownsRow base 77 3 (.slice (some ⟨g,0,none⟩) n cap) n (WV es))(hn:n=es.length)(i:Nat)(hi:i<n):WriAt w g (i*3) (nthW es i):=by
 subst hn;have c:∀ j,j<3→w.cell? ⟨g,i*3+j,none⟩=(WC (nthW es i))[j]?:=fun j hj=>(h.cellAt (i*3+j) (by omega)).trans (zoW es i hi j hj)
 exact⟨c 0 (by omega),c 1 (by omega),c 2 (by omega)⟩
theorem OwnW.rd{w:World}{base:Nat}{v:Value}{es:List Wri}(h:OwnW w base v es):RdW w v es:=by
 have h':=h;rcases h.2 with ⟨rfl,h0⟩ | ⟨g,cap,cur,rfl,hb,hg,hn,hc,hs,ht⟩
 ·have:es=[]:=List.length_eq_zero_iff.1 h0;subst this;exact⟨none,0,rfl,Nat.le_refl _,Nat.zero_le _,fun _=>rfl,.inl rfl⟩
 ·refine⟨some ⟨g,0,none⟩,cap,rfl,hn,hc,(fun h=>by cases h),.inr ⟨g,0,rfl,fun i hi=>?_⟩⟩;rw[Nat.zero_add];exact zps h' rfl i hi
theorem OwnW.below{w w':World}{base:Nat}{v:Value}{es:List Wri}(h:OwnW w base v es)(hb:Below w.heap.size w w'):OwnW w' base v es:=zaB h hb
theorem OwnW.drewN{w:World}{base:Nat}{v:Value}{es:List Wri}(h:OwnW w base v es)(q:Nat):OwnW (w.drewN q) base v es:=h
theorem OwnW.mono{w:World}{base base':Nat}{v:Value}{es:List Wri}(h:OwnW w base v es)(hb:base'≤base):OwnW w base' v es:=by
 refine⟨h.1,?_⟩;rcases h.2 with h2 | ⟨g,cap,cur,hv,hg,r⟩
 ·exact .inl h2
 ·exact .inr ⟨g,cap,cur,hv,Nat.le_trans hb hg,r⟩
theorem RdW.below{w w':World}{v:Value}{es:List Wri}(h:RdW w v es)(hb:Below w.heap.size w w'):RdW w' v es:=by
 obtain⟨a,cap,hv,h1,h2,h0,h3⟩:=h;refine⟨a,cap,hv,h1,h2,h0,?_⟩;rcases h3 with h3 | ⟨b,off,ha,hc⟩
 ·exact .inl h3
 ·exact .inr ⟨b,off,ha,fun i hi=>(hc i hi).below hb⟩
theorem RdW.drewN{w:World}{v:Value}{es:List Wri}(h:RdW w v es)(q:Nat):RdW (w.drewN q) v es:=h
theorem zdz(w:World):OwnW (w.alloc (.cells #[] 77)) w.heap.size (.slice (some ⟨w.heap.size,0,none⟩) 0 0) []:=World.ownsRow_lit w #[] 0 (Nat.le_refl _) (Nat.zero_le _) rfl
theorem zkp{w1:World}{B:Nat}{v':Value}{ys zs:List Wri}(h:w1.ownsRow B 77 3 v' (ys.length+zs.length) (WV ys++WV zs)):OwnW w1 B v' (ys++zs):=by
 unfold OwnW;rw[zpx,List.length_append];exact h
theorem RdW.at{w:World}{a:Option Addr}{n cap:Nat}{es:List Wri}(h:RdW w (.slice a n cap) es)(hn:n=es.length)(i:Nat)(hi:i<es.length):∃ b off,a=some ⟨b,off,none⟩∧WriAt w b (off+i*3) (nthW es i):=by
 obtain⟨a',cap',hv,_,_,_,h3⟩:=h;simp only[Value.slice.injEq] at hv;obtain⟨rfl,_,_⟩:=hv;rcases h3 with rfl | ⟨b,off,ha,hc⟩
 ·simp at hi
 ·exact⟨b,off,ha,hc i hi⟩
theorem WV_nth{es:List Wri}{j:Nat}{u:Value}(h:(WV es)[j]? = some u):j / 3<es.length∧(WC (nthW es (j / 3)))[j % 3]? = some u:=by
 have hj:j<(WV es).length:=(List.getElem?_eq_some_iff.1 h).1;rw[zha] at hj;have h1:j / 3<es.length:=by omega
 refine⟨h1,?_⟩;have h2:=zoW es (j / 3) h1 (j % 3) (by omega);rw[show j / 3*3+j % 3=j by omega] at h2;rw[← h2];exact h
theorem WriAt.cellAt{w:World}{b o:Nat}{e:Wri}(h:WriAt w b o e){j:Nat}{u:Value}(hu:(WC e)[j]? = some u):w.cell? ⟨b,o+j,none⟩=some u:=by
 obtain⟨h0,h1,h2⟩:=h;match j,hu with
 | 0,hu=>simp[WC] at hu;subst hu;exact h0
 | 1,hu=>simp[WC] at hu;subst hu;exact h1
 | 2,hu=>simp[WC] at hu;subst hu;exact h2
theorem zfW{w:World}{b off:Nat}{es:List Wri}(h:∀ i,i<es.length→WriAt w b (off+i*3) (nthW es i)):∀ j u,(WV es)[j]? = some u→w.cell? ((⟨b,off,none⟩:Addr).add j)=some u:=by
 intro j u hu;obtain⟨h1,h2⟩:=WV_nth hu;have:=(h _ h1).cellAt h2;rw[Addr.add_lit];rw[show off+j / 3*3+j % 3=off+j by omega] at this;exact this
end Go.Proofs.YtannfbpohhnnkaaGreatDoor
namespace Go.Proofs.YtannfbpohhnnkaaGreatDoor
set_option maxHeartbeats 16000000
set_option maxRecDepth 100000
open Go.RowKit
theorem zhv(ty:TypeId){w:World}{base:Nat}{v u:Value}{ys zs:List Wri}(hown:OwnW w base v ys)(hr:RdW w u zs)(hl:ys.length+zs.length≤1000000000)(hbase:base≤w.heap.size) :
 ∃ v' w',(Builtin.append_ #[47,47] ty #[v,u]).run Tryz.prog w=.ok v' w'∧OwnW w' base v' (ys++zs)∧w.grownBy w' v.ownBlock:=by
 obtain⟨i0,hi,hz0,hz1,hz2⟩:=info_parts Tryz.infoW77;obtain⟨a,cap,rfl,h1,h2,h0,h3⟩:=hr;have row:∀ ad news,news=WV zs→(∀ j u,news[j]? = some u→w.cell? (ad.add j)=some u)→∃ v' w',(Builtin.append_ #[47,47] ty #[v,.slice (some ad) zs.length cap]).run Tryz.prog w=.ok v' w'∧OwnW w' base v' (ys++zs)∧w.grownBy w' v.ownBlock:=by
  intro ad news hn hc;subst hn;obtain⟨v',w',hrun,r1,r2,_⟩:=run_append_own (P:=Tryz.prog) w base 47 ty 77 i0 _ 3 40 Tryz.underlying47 hi hz0 hz1 hz2 rfl (by decide) v ys.length (WV ys) hown ad zs.length cap (WV zs) (by rw[zha]) hc (zol zs) (by unfold maxLen;omega) (by omega) hbase;exact⟨v',w',hrun,zkp r1,r2⟩
 cases a with
 | some ad =>
  refine row ad (WV zs) rfl ?_;rcases h3 with rfl | ⟨b,off,ha,hc⟩
  ·intro j u hj;simp[WV] at hj
  ·cases ha;exact zfW hc
 | none =>
  have hc0:=h0 rfl;subst hc0;rcases h3 with rfl | ⟨b,off,ha,hc⟩
  ·refine⟨v,w,run_append_owned_none (P:=Tryz.prog) w base 47 ty 77 i0 3 Tryz.underlying47 hi v ys.length (WV ys) hown,by simpa using hown,⟨rfl,rfl,rfl,Nat.le_refl _,fun _ _ _=>rfl⟩⟩
  ·cases ha
theorem zgb{w:World}{ops:Array Oper}{o:Oper}{a:Act}{K:Act→World→Prop}{Q:Exit→Act→World→Prop}{E:Prop}(hgd:o.guard=none)(d:Nat)(hd:o.dst=some d)(s x:Operand)
 (ho:o.op=.call { callee:=.builtin .append,args:=#[s,x],argTypes:=#[47,47] }) (base:Nat) (v u:Value) (ys zs:List Wri) (hs:a.eval s=v) (hx:a.eval x=u) (hown:OwnW w base v ys) (hr:RdW w u zs) (hl:ys.length+zs.length≤1000000000) (hbase:base≤w.heap.size)
 (h:∀ v' w',OwnW w' base v' (ys++zs)→w.grownBy w' v.ownBlock→K (a.put (some d) v') w') :
 if Region.wanted o (yielded ops a.tmps)=true then Oper.wp Tryz.prog o a w K Q else E:=by
 have hw:Region.wanted o (yielded ops a.tmps)=true:=by simp[Region.wanted,hgd]
 rw[if_pos hw];obtain⟨v',w',hrun,r1,r2⟩:=zhv o.type hown hr hl hbase;unfold Oper.wp;simp[execOp,ho,resolve,invoke,builtin,hs,hx,hrun,Result.andThen];have h':=h v' w' r1 r2;rw[← hd] at h';exact h'
theorem rdW_one{w:World}{b:Nat}{x:Wri}(h:WriAt w b 0 x):RdW w (.slice (some ⟨b,0,none⟩) 1 1) [x] :=
 ⟨_,1,rfl,Nat.le_refl _,by unfold maxLen;omega,(fun h=>by cases h),.inr ⟨b,0,rfl,fun i hi=>by
  have:i=0:=by simpa using hi
  subst this;exact h⟩⟩
theorem zhg(w:World)(x:Wri)(t:TypeId):WriAt (w.alloc (.cells #[.string x.key,.string x.val,.bool x.gone] t)) w.heap.size 0 x:=by
 refine⟨?_,?_,?_⟩<;>simp
end Go.Proofs.YtannfbpohhnnkaaGreatDoor
namespace Go.Proofs.YtannfbpohhnnkaaGreatDoor
set_option maxHeartbeats 16000000
set_option maxRecDepth 100000
open Go.RowKit
open Go.RowKit
theorem Tryz.info2:(Tryz.prog.info? 2).map (fun i=>(i.zero,i.size,i.bytes))=some (some (.int .i64 0),1,8):=by kernel_rfl
def IV(ns:List Int):List Value:=ns.map (Value.int .i64)
theorem zeY(ns:List Int):(IV ns).length=ns.length:=by simp[IV]
theorem zq0(a b:List Int):IV (a++b)=IV a++IV b:=by simp[IV]
theorem zmk(ns:List Int)(i:Nat)(h:i<ns.length):(IV ns)[i]? = some (.int .i64 ns[i]):=by simp[IV,h]
theorem IV_set(ns:List Int)(i:Nat)(n:Int):IV (ns.set i n)=(IV ns).set i (.int .i64 n):=by simp[IV,List.map_set]
theorem zip(ns:List Int):∀ u∈IV ns,u.oneCell'=true:=by
 intro u hu;obtain⟨_,_,rfl⟩:=List.mem_map.1 hu;rfl
def OwnI(w:World)(base:Nat)(v:Value)(ns:List Int):Prop:=w.ownsRow base 2 1 v ns.length (IV ns)
def RdI(w:World)(v:Value)(ns:List Int):Prop :=
 ∃ a cap,v=.slice a ns.length cap∧ns.length≤cap∧cap≤maxLen∧(a=none→cap=0) ∧
  (ns=[]∨∃ b off,a=some ⟨b,off,none⟩∧∀ i (h:i<ns.length),w.cell? ⟨b,off+i,none⟩=some (.int .i64 ns[i]))
theorem OwnI.rd{w:World}{base:Nat}{v:Value}{ns:List Int}(h:OwnI w base v ns):RdI w v ns:=by
 have h':=h;rcases h.2 with ⟨rfl,h0⟩ | ⟨g,cap,cur,rfl,hb,hg,hn,hc,hs,ht⟩
 ·have:ns=[]:=List.length_eq_zero_iff.1 h0;subst this;exact⟨none,0,rfl,Nat.le_refl _,Nat.zero_le _,fun _=>rfl,.inl rfl⟩
 ·refine⟨some ⟨g,0,none⟩,cap,rfl,hn,hc,(fun h=>by cases h),.inr ⟨g,0,rfl,fun i hi=>?_⟩⟩;have:=h'.cellAt i (by omega);rw[zmk ns i hi] at this;simpa using this
theorem OwnI.below{w w':World}{base:Nat}{v:Value}{ns:List Int}(h:OwnI w base v ns)(hb:Below w.heap.size w w'):OwnI w' base v ns:=zaB h hb
theorem OwnI.drewN{w:World}{base:Nat}{v:Value}{ns:List Int}(h:OwnI w base v ns)(q:Nat):OwnI (w.drewN q) base v ns:=h
theorem OwnI.mono{w:World}{base base':Nat}{v:Value}{ns:List Int}(h:OwnI w base v ns)(hb:base'≤base):OwnI w base' v ns:=by
 refine⟨h.1,?_⟩;rcases h.2 with h2 | ⟨g,cap,cur,hv,hg,r⟩
 ·exact .inl h2
 ·exact .inr ⟨g,cap,cur,hv,Nat.le_trans hb hg,r⟩
theorem RdI.below{w w':World}{v:Value}{ns:List Int}(h:RdI w v ns)(hb:Below w.heap.size w w'):RdI w' v ns:=by
 obtain⟨a,cap,hv,h1,h2,h0,h3⟩:=h;refine⟨a,cap,hv,h1,h2,h0,?_⟩;rcases h3 with h3 | ⟨b,off,ha,hc⟩
 ·exact .inl h3
 ·exact .inr ⟨b,off,ha,fun i hi=>by rw[hb.cell (World.block_lt_of_cell? w _ (hc i hi))];exact hc i hi⟩
theorem RdI.drewN{w:World}{v:Value}{ns:List Int}(h:RdI w v ns)(q:Nat):RdI (w.drewN q) v ns:=h
theorem zcy(w:World):OwnI (w.alloc (.cells #[] 2)) w.heap.size (.slice (some ⟨w.heap.size,0,none⟩) 0 0) []:=World.ownsRow_lit w #[] 0 (Nat.le_refl _) (Nat.zero_le _) rfl
theorem zeV(w:World)(n:Int):OwnI (w.alloc (.cells #[.int .i64 n] 2)) w.heap.size (.slice (some ⟨w.heap.size,0,none⟩) 1 1) [n]:=World.ownsRow_lit w #[.int .i64 n] 1 (Nat.le_refl _) (by unfold maxLen;omega) rfl
theorem zqE{w:World}{B:Nat}{v:Value}{ns:List Int}(h:OwnI w B v ns):∀ k,v.ownBlock=some k→k<w.heap.size:=fun k hk=>(World.ownsRow.lt h k hk).2
theorem zjU{w1:World}{B:Nat}{v':Value}{ys zs:List Int}(h:w1.ownsRow B 2 1 v' (ys.length+zs.length) (IV ys++IV zs)):OwnI w1 B v' (ys++zs):=by
 unfold OwnI;rw[zq0,List.length_append];exact h
theorem zjC{w:World}{B:Nat}{v:Value}{ns:List Int}(h:OwnI w B v ns)(hn:ns≠[]):∃ g cap,v=.slice (some ⟨g,0,none⟩) ns.length cap:=by
 rcases h.2 with ⟨_,h0⟩ | ⟨g,cap,cur,hv,_⟩
 ·exact absurd (List.length_eq_zero_iff.1 h0) hn
 ·exact⟨g,cap,hv⟩
theorem RdI.at{w:World}{a:Option Addr}{n cap:Nat}{ns:List Int}(h:RdI w (.slice a n cap) ns)(i:Nat)(hi:i<ns.length):∃ b off,a=some ⟨b,off,none⟩∧w.cell? ⟨b,off+i,none⟩=some (.int .i64 ns[i]):=by
 obtain⟨a',cap',hv,_,_,_,h3⟩:=h;simp only[Value.slice.injEq] at hv;obtain⟨rfl,_,_⟩:=hv;rcases h3 with rfl | ⟨b,off,ha,hc⟩
 ·simp at hi
 ·exact⟨b,off,ha,hc i hi⟩
theorem znb{w:World}{a:Option Addr}{n cap k:Nat}{ns:List Int}(h:RdI w (.slice a n cap) ns)(hk:k≤ns.length):RdI w (.slice a k cap) (ns.take k):=by
 obtain⟨a',cap',hv,h1,h2,h0,h3⟩:=h;simp only[Value.slice.injEq] at hv;obtain⟨rfl,_,rfl⟩:=hv;have hl:(ns.take k).length=k:=by rw[List.length_take];omega
 refine⟨a,cap,by rw[hl],by omega,h2,h0,?_⟩;rcases h3 with rfl | ⟨b,off,ha,hc⟩
 ·exact .inl (by simp)
 ·exact .inr ⟨b,off,ha,fun i hi=>by rw[List.getElem_take];exact hc i (by omega)⟩
theorem rdI_cut{w:World}{b off n cap k:Nat}{ns:List Int}(h:RdI w (.slice (some ⟨b,off,none⟩) n cap) ns)(hk:k≤ns.length):RdI w (.slice (if cap=k then some ⟨b,off,none⟩ else some ⟨b,off+k,none⟩) (ns.length-k) (cap-k)) (ns.drop k):=by
 obtain⟨a',cap',hv,h1,h2,h0,h3⟩:=h;simp only[Value.slice.injEq] at hv;obtain⟨rfl,_,rfl⟩:=hv;have hl:(ns.drop k).length=ns.length-k:=List.length_drop;split
 ·rename_i hck;have hl0:ns.length-k=0:=by omega
  rw[hl0];exact⟨_,_,by rw[hl,hl0],by rw[hl];omega,by omega,(fun h=>by cases h),.inl (List.drop_eq_nil_of_le (by omega))⟩
 ·refine⟨_,_,by rw[hl],by omega,by omega,(fun h=>by cases h),?_⟩;rcases h3 with rfl | ⟨b',off',ha,hc⟩
  ·exact .inl (by simp)
  ·cases ha
   refine .inr ⟨b,off+k,rfl,fun i hi=>?_⟩;have:=hc (k+i) (by omega);rw[← Nat.add_assoc] at this;rw[this,List.getElem_drop]
theorem zdl(ty:TypeId){w:World}{base:Nat}{v u:Value}{ys zs:List Int}(hown:OwnI w base v ys)(hr:RdI w u zs)(hl:ys.length+zs.length≤1000000000)(hbase:base≤w.heap.size) :
 ∃ v' w',(Builtin.append_ #[24,24] ty #[v,u]).run Tryz.prog w=.ok v' w'∧OwnI w' base v' (ys++zs)∧w.grownBy w' v.ownBlock:=by
 obtain⟨i0,hi,hz0,hz1,hz2⟩:=info_parts Tryz.info2;obtain⟨a,cap,rfl,h1,h2,h0,h3⟩:=hr;have row:∀ ad,(∀ j u,(IV zs)[j]? = some u→w.cell? (ad.add j)=some u)→∃ v' w',(Builtin.append_ #[24,24] ty #[v,.slice (some ad) zs.length cap]).run Tryz.prog w=.ok v' w'∧OwnI w' base v' (ys++zs)∧w.grownBy w' v.ownBlock:=by
  intro ad hc;obtain⟨v',w',hrun,r1,r2,_⟩:=run_append_own (P:=Tryz.prog) w base 24 ty 2 i0 _ 1 8 Tryz.underlying24 hi hz0 hz1 hz2 rfl (by decide) v ys.length (IV ys) hown ad zs.length cap (IV zs) (by rw[zeY];omega) hc (zip zs) (by unfold maxLen;omega) (by omega) hbase;exact⟨v',w',hrun,zjU r1,r2⟩
 cases a with
 | some ad =>
  refine row ad ?_;rcases h3 with rfl | ⟨b,off,ha,hc⟩
  ·intro j u hj;simp[IV] at hj
  ·cases ha
   intro j u hj;have hjl:j<zs.length:=by have:=(List.getElem?_eq_some_iff.1 hj).1;rwa [zeY] at this
   rw[zmk zs j hjl] at hj;cases hj
   rw[Addr.add_lit];exact hc j hjl
 | none =>
  have hc0:=h0 rfl;subst hc0;rcases h3 with rfl | ⟨b,off,ha,hc⟩
  ·refine⟨v,w,run_append_owned_none (P:=Tryz.prog) w base 24 ty 2 i0 1 Tryz.underlying24 hi v ys.length (IV ys) hown,by simpa using hown,⟨rfl,rfl,rfl,Nat.le_refl _,fun _ _ _=>rfl⟩⟩
  ·cases ha
theorem zaf{w:World}{ops:Array Oper}{rest:List Oper}{o:Oper}{a:Act}{Q:Exit→Act→World→Prop}(hgd:o.guard=none)(s x:Operand)
 (ho:o.op=.call { callee:=.builtin .append,args:=#[s,x],argTypes:=#[24,24] }) (base:Nat) (v u:Value) (ys zs:List Int) (hs:a.eval s=v) (hx:a.eval x=u) (hown:OwnI w base v ys) (hr:RdI w u zs) (hl:ys.length+zs.length≤1000000000) (hbase:base≤w.heap.size)
 (h:∀ v' w',OwnI w' base v' (ys++zs)→w.grownBy w' v.ownBlock→wpList Tryz.prog ops Q rest (a.put o.dst v') w'):wpList Tryz.prog ops Q (o::rest) a w:=by
 refine wpList_plain hgd fun K hK=>?_
 obtain⟨v',w',hrun,r1,r2⟩:=zdl o.type hown hr hl hbase;unfold Oper.wp;simp[execOp,ho,resolve,invoke,builtin,hs,hx,hrun,Result.andThen];exact hK _ _ (h v' w' r1 r2)
theorem zG{w:World}{ops:Array Oper}{o:Oper}{a:Act}{K:Act→World→Prop}{Q:Exit→Act→World→Prop}{E:Prop}(hgd:o.guard=none)(d:Nat)(hd:o.dst=some d)(s x:Operand)
 (ho:o.op=.call { callee:=.builtin .append,args:=#[s,x],argTypes:=#[24,24] }) (base:Nat) (v u:Value) (ys zs:List Int) (hs:a.eval s=v) (hx:a.eval x=u) (hown:OwnI w base v ys) (hr:RdI w u zs) (hl:ys.length+zs.length≤1000000000) (hbase:base≤w.heap.size)
 (h:∀ v' w',OwnI w' base v' (ys++zs)→w.grownBy w' v.ownBlock→K (a.put (some d) v') w') :
 if Region.wanted o (yielded ops a.tmps)=true then Oper.wp Tryz.prog o a w K Q else E:=by
 have hw:Region.wanted o (yielded ops a.tmps)=true:=by simp[Region.wanted,hgd]
 rw[if_pos hw];obtain⟨v',w',hrun,r1,r2⟩:=zdl o.type hown hr hl hbase;unfold Oper.wp;simp[execOp,ho,resolve,invoke,builtin,hs,hx,hrun,Result.andThen];have h':=h v' w' r1 r2;rw[← hd] at h';exact h'
end Go.Proofs.YtannfbpohhnnkaaGreatDoor
