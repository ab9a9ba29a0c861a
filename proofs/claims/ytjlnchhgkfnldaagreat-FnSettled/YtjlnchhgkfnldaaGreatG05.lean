import Derived.Test.YtjlnchhgkfnldaaGreatG04
import Derived.Test.YtjlnchhgkfnldaaGreatG03
namespace Go.Proofs.YtjlnchhgkfnldaaGreat
set_option maxHeartbeats 16000000
set_option maxRecDepth 100000
def atI(ns:List Int)(n:Int):Nat:=(ns.takeWhile (fun a=>decide (a<n))).length
def putI(ns:List Int)(n:Int):List Int:=if ns[atI ns n]? = some n then ns else ns.take (atI ns n)++n::ns.drop (atI ns n)
theorem atI_le(ns:List Int)(n:Int):atI ns n≤ns.length:=(List.takeWhile_sublist _).length_le
theorem zpz:∀ (ns:List Int) (n:Int) (i:Nat) (h:i<ns.length),i<atI ns n→ns[i]<n
 | [],_,_,h,_=>by simp at h
 | a::r,n,i,h,hi=>by
  unfold atI at hi;rw[List.takeWhile_cons] at hi;split at hi
  ·rename_i ha;cases i with
   | zero=>simpa using ha
   | succ i=>rw[List.getElem_cons_succ];exact zpz r n i (by simpa using h) (by simpa [atI] using hi)
  ·simp at hi
theorem zil:∀ (ns:List Int) (n:Int) (h:atI ns n<ns.length),¬ ns[atI ns n]<n
 | [],_,h=>by simp at h
 | a::r,n,h=>by
  by_cases ha:a<n
  ·have e:atI (a::r) n=atI r n+1:=(by unfold atI;rw[List.takeWhile_cons,if_pos (by simpa using ha)];rfl);have h2:atI r n<r.length:=(by rw[e,List.length_cons] at h;omega);have:=zil r n h2;simp only[e,List.getElem_cons_succ];exact this
  ·have e:atI (a::r) n=0:=(by unfold atI;rw[List.takeWhile_cons,if_neg (by simpa using ha)];rfl);simp only[e,List.getElem_cons_zero];exact ha
theorem atI_of(ns:List Int)(n:Int)(k:Nat)(hk:k≤ns.length)(h1:∀ i (h:i<ns.length),i<k→ns[i]<n)(h2:∀ (h:k<ns.length),¬ ns[k]<n):atI ns n=k:=by
 have h3:=atI_le ns n;rcases Nat.lt_trichotomy (atI ns n) k with h | h | h
 ·exact absurd (h1 _ (by omega) h) (zil ns n (by omega))
 ·exact h
 ·exact absurd (zpz ns n k (by omega) h) (h2 (by omega))
theorem ziu(ns:List Int)(n x:Int):x∈putI ns n↔x=n∨x∈ns:=by
 unfold putI;split
 ·rename_i h;have hn:n∈ns:=List.mem_of_getElem? h;exact⟨.inr,fun h=>by rcases h with rfl | h;exact hn;exact h⟩
 ·rw[List.mem_append,List.mem_cons];constructor
  ·rintro (h | h | h)
   ·exact .inr (List.mem_of_mem_take h)
   ·exact .inl h
   ·exact .inr (List.mem_of_mem_drop h)
  ·rintro (h | h)
   ·exact .inr (.inl h)
   ·rw[← List.take_append_drop (atI ns n) ns] at h;rcases List.mem_append.1 h with h | h
    ·exact .inl h
    ·exact .inr (.inr h)
theorem ziq(ns:List Int)(n:Int):(putI ns n).length≤ns.length+1:=by
 have:=atI_le ns n;unfold putI;split
 ·omega
 ·simp;omega
def mk1(key:ByteArray):Int:=((dig 1 key.data.toList % 256:Nat):Int)
def mk2(key:ByteArray):Int:=((dig 1 (key.data.toList++[42]) % 256:Nat):Int)
def zaS(key:ByteArray):List Int:=putI [mk1 key] (mk2 key)
theorem mk1_in(key:ByteArray):0≤mk1 key∧mk1 key<256:=by unfold mk1;omega
theorem mk2_in(key:ByteArray):0≤mk2 key∧mk2 key<256:=by unfold mk2;omega
theorem zdP(key:ByteArray)(x:Int):x∈zaS key↔x=mk2 key∨x=mk1 key:=by unfold zaS;rw[ziu];simp
theorem zhb(key:ByteArray):(zaS key).length≤2:=ziq _ _
def zaM(ns:List Int)(ms:List Int):List Int:=ms.foldl putI ns
def bitsL(es:List Ent):List Int:=es.foldl (fun b e=>zaM b (zaS e.key)) []
theorem zmK(ms:List Int):∀ (ns:List Int) (x:Int),x∈zaM ns ms↔x∈ns∨x∈ms:=by
 unfold zaM;induction ms with
 | nil=>intro ns x;simp
 | cons m r ih=>intro ns x;rw[List.foldl_cons,ih,ziu,List.mem_cons];grind
theorem znK(es:List Ent):∀ (ns:List Int) (x:Int),x∈es.foldl (fun b e=>zaM b (zaS e.key)) ns↔x∈ns∨∃ e∈es,x∈zaS e.key:=by
 induction es with
 | nil=>intro ns x;simp
 | cons e r ih =>
  intro ns x;rw[List.foldl_cons,ih,zmK];constructor
  ·rintro ((h | h) | ⟨y,hy,h⟩)
   ·exact .inl h
   ·exact .inr ⟨e,List.mem_cons_self,h⟩
   ·exact .inr ⟨y,List.mem_cons_of_mem _ hy,h⟩
  ·rintro (h | ⟨y,hy,h⟩)
   ·exact .inl (.inl h)
   ·rcases List.mem_cons.1 hy with rfl | hy
    ·exact .inl (.inr h)
    ·exact .inr ⟨y,hy,h⟩
theorem ze4(es:List Ent)(x:Int):x∈bitsL es↔∃ e∈es,x∈zaS e.key:=by unfold bitsL;rw[znK];simp
theorem zmf(ms:List Int):∀ ns:List Int,(zaM ns ms).length≤ns.length+ms.length:=by
 unfold zaM;induction ms with
 | nil=>intro ns;simp
 | cons m r ih=>intro ns;rw[List.foldl_cons];have:=ih (putI ns m);have:=ziq ns m;rw[List.length_cons];omega
theorem zpa(es:List Ent):∀ ns:List Int,(es.foldl (fun b e=>zaM b (zaS e.key)) ns).length≤ns.length+2*es.length:=by
 induction es with
 | nil=>intro ns;simp
 | cons e r ih =>
  intro ns;rw[List.foldl_cons,List.length_cons];have h1:=ih (zaM ns (zaS e.key));have h2:=zmf (zaS e.key) ns;have h3:=zhb e.key;omega
theorem zjA(es:List Ent):(bitsL es).length≤2*es.length:=by have:=zpa es [];simpa [bitsL] using this
structure Tbl where
 first:ByteArray
 last:ByteArray
 bits:List Int
 blocks:List ByteArray
deriving DecidableEq
def zeroT:Tbl:=⟨⟨#[]⟩,⟨#[]⟩,[],[]⟩
def allF:List ByteArray→List Ent→Option (List Ent)
 | [],acc=>some acc
 | b::r,acc=>if (unpI b.data.toList).2=true∧1≤(unpI b.data.toList).1.length∧(unpI b.data.toList).1.length≤8 then allF r (acc++(unpI b.data.toList).1) else none
def allL(T:Tbl):List Ent×Bool:=if T.blocks.length<1∨40<T.blocks.length then ([],false) else match allF T.blocks [] with
 | none=>([],false)
 | some es=>(es,okL es)
def zT(T:Tbl):Bool:=(allL T).2&&decide (T.first=(nth (allL T).1 0).key)&&decide (T.last=(nth (allL T).1 ((allL T).1.length-1)).key)&&decide (T.bits=bitsL (allL T).1)
def chunk(es:List Ent)(i:Nat):List Ent:=(es.drop i).take 8
def blkF(es:List Ent):Nat→Nat→List ByteArray
 | 0,_=>[]
 | n+1,i=>⟨(packA (chunk es i)).toArray⟩::blkF es n (i+8)
def blksL(es:List Ent):List ByteArray:=blkF es ((es.length+7) / 8) 0
def zC(es:List Ent):Tbl:=⟨(nth es 0).key,(nth es (es.length-1)).key,bitsL es,blksL es⟩
def zae(es:List Ent):Bool:=okL es && !decide (es.length=0)
def zc1(es:List Ent):Tbl:=if zae es=true then zC es else zeroT
def zu(T:Tbl):List Ent:=if zT T=true then (allL T).1 else []
theorem okL_sub{es fs:List Ent}(h:okL es=true)(hs:fs.Sublist es):okL fs=true:=by
 rw[zaD] at h ⊢;exact⟨nT hs.length_le h.1,fun e he=>h.2.1 e (hs.subset he),h.2.2.sublist hs⟩
theorem zlK{es:List Ent}(h:okL es=true)(i:Nat):okL (chunk es i)=true:=okL_sub h ((List.take_sublist _ _).trans (List.drop_sublist _ _))
theorem zlT{es:List Ent}(h:okL es=true):∀ (n i:Nat) (acc:List Ent),i+8*n<es.length+8→i≤es.length→es.length≤i+8*n→allF (blkF es n i) acc=some (acc++es.drop i)
 | 0,i,acc,_,_,h2=>by rw[blkF,allF,List.drop_eq_nil_of_le (by omega),List.append_nil]
 | n+1,i,acc,h0,h1,h2=>by
  have hu:unpI (packA (chunk es i))=(chunk es i,true):=zkg (zlK h i);have hl:(chunk es i).length=min 8 (es.length-i):=by unfold chunk;rw[List.length_take,List.length_drop]
  have hd:(⟨(packA (chunk es i)).toArray⟩:ByteArray).data.toList=packA (chunk es i):=by simp
  rw[blkF,allF,hd,hu,if_pos ⟨rfl,by simp only;omega,by simp only;omega⟩];simp only;by_cases hlast:es.length≤i+8
  ·have hn:n=0:=(by omega);subst hn;rw[blkF,allF];unfold chunk;rw[List.take_of_length_le (by rw[List.length_drop];omega)]
  ·rw[zlT h n (i+8) _ (by omega) (by omega) (by omega),List.append_assoc];unfold chunk;rw[← List.drop_drop,List.take_append_drop]
theorem zim(es:List Ent):∀ n i,(blkF es n i).length=n
 | 0,_=>rfl
 | n+1,i=>by rw[blkF,List.length_cons,zim es n]
theorem zi7{es:List Ent}(h:zae es=true):allL (zC es)=(es,true):=by
 simp only[zae,Bool.and_eq_true,Bool.not_eq_true',decide_eq_false_iff_not] at h;have hl:=zad h.1;unfold allL zC blksL;rw[if_neg (by rw[zim];omega),zlT h.1 _ 0 [] (by omega) (by omega) (by omega)];simp[h.1]
theorem zik{es:List Ent}(h:zae es=true):zT (zC es)=true:=by
 unfold zT;rw[zi7 h];simp[zC]
theorem ze3{es:List Ent}(h:zae es=true):zu (zC es)=es:=by
 unfold zu;rw[if_pos (zik h),zi7 h]
theorem zac{T:Tbl}(h:zT T=true):okL (zu T)=true∧zu T≠[]∧T.first=(nth (zu T) 0).key∧T.last=(nth (zu T) ((zu T).length-1)).key∧T.bits=bitsL (zu T):=by
 have he:zu T=(allL T).1:=by unfold zu;rw[if_pos h]
 unfold zT at h;simp only[Bool.and_eq_true,decide_eq_true_eq] at h;obtain⟨⟨⟨h1,h2⟩,h3⟩,h4⟩:=h;rw[he];refine⟨?_,?_,h2,h3,h4⟩
 ·unfold allL at h1 ⊢;split at h1
  ·cases h1
  ·rename_i hb;rw[if_neg hb];split at h1
   ·cases h1
   ·exact h1
 ·intro hn;unfold allL at h1 hn;split at h1
  ·cases h1
  ·rename_i hb;rw[if_neg hb] at hn;split at h1
   ·cases h1
   ·rename_i es hes;rw[hes] at hn;simp only at hn;subst hn;obtain⟨b,r,hbr⟩:∃ b r,T.blocks=b::r:=by
     cases hT:T.blocks with
     | nil=>rw[hT] at hb;simp at hb
     | cons b r=>exact⟨b,r,rfl⟩
    rw[hbr,allF] at hes;split at hes
    ·rename_i hq;have:=allF_grow r _ _ hes;rw[List.nil_append] at this;simp at this;rw[this] at hq;simp at hq
    ·cases hes
where
 allF_grow:∀ (bs:List ByteArray) (acc es:List Ent),allF bs acc=some es→∃ t,es=acc++t
  | [],acc,es,h=>by rw[allF] at h;cases h;exact⟨[],by simp⟩
  | b::r,acc,es,h=>by
   rw[allF] at h;split at h
   ·obtain⟨t,ht⟩:=allF_grow r _ _ h;exact⟨_,by rw[ht,List.append_assoc]⟩
   ·cases h
structure Tre where
 mem:List Ent
 young:List Tbl
 old:List Tbl
 seq:Int
 snaps:List Int
def zjD:Tre:=⟨[],[],[],0,[]⟩
def lenS(ls:List (List Ent)):Nat:=(ls.map List.length).sum
def tabL(T:Tre):List (List Ent):=(T.young++T.old).map zu
def lsT(T:Tre):List (List Ent):=T.mem::tabL T
def allOk(T:Tre):Bool:=okL T.mem&&decide (T.young.length≤6)&&decide (T.old.length≤1)&&(T.young++T.old).all (fun t=>!decide ((zu t).length=0))
def allT(T:Tre):List Ent×Bool:=if allOk T=true then (zj (lsT T),decide ((zj (lsT T)).length=lenS (lsT T))) else ([],false)
def zar(seq:Int)(ss:List Int):Bool:=(List.range ss.length).all (fun i=>decide (0≤ss.getD i 0)&&decide (ss.getD i 0≤seq)&&(decide (i=0)||decide (ss.getD (i-1) 0<ss.getD i 0)))
def zbU(mem all:List Ent)(i:Nat):Bool:=!(kEq (nth all i).key (nth all (i+1)).key&&hasKS mem (nth all (i+1)) && !hasKS mem (nth all i))
def zcD(mem all:List Ent):Bool:=(List.range (all.length-1)).all (zbU mem all)
def zI(T:Tre):Bool:=(allT T).2&&decide (0≤T.seq)&&decide (T.seq≤1000000)&&decide (T.snaps.length≤10)&&zar T.seq T.snaps&&(allT T).1.all (fun e=>decide (e.seq≤T.seq))&&zcD T.mem (allT T).1
def Dsj(a b:List Ent):Prop:=∀ x∈a,∀ y∈b,zP x y=false
theorem zk3:∀ (n:Nat) (a b:List Ent),a.length+b.length≤n→Sr a→Sr b→((mrg a b).length=a.length+b.length↔Dsj a b):=by
 intro n;induction n with
 | zero =>
  intro a b hn _ _;have ha:a=[]:=List.eq_nil_of_length_eq_zero (by omega);have hb:b=[]:=List.eq_nil_of_length_eq_zero (by omega);subst ha;subst hb;simp[mrg,Dsj]
 | succ n ih =>
  intro a b hn sa sb;match a,b with
  | [],b=>rw[mrg];simp[Dsj]
  | x::r,[]=>rw[mrg];simp[Dsj]
  | x::r,y::s =>
   have sa':=List.pairwise_cons.1 sa;have sb':=List.pairwise_cons.1 sb;cases hxy:ahd x y with
   | true =>
    rw[mrg,if_pos hxy];have h1:=ih r (y::s) (by simp at hn ⊢;omega) sa'.2 sb;have hx:∀ z∈y::s,zP x z=false:=fun z hz=>by
     cases hk:zP x z with
     | false=>rfl
     | true =>
      rcases List.mem_cons.1 hz with e | e
      ·subst e;exact(zbM hxy hk).elim
      ·exact(zbM (zaR hxy (sb'.1 z e)) hk).elim
    constructor
    ·intro h;have:=h1.1 (by simp at h ⊢;omega);intro u hu z hz;rcases List.mem_cons.1 hu with e | e
     ·subst e;exact hx z hz
     ·exact this u e z hz
    ·intro h;have:=h1.2 (fun u hu z hz=>h u (List.mem_cons_of_mem _ hu) z hz);simp at this ⊢;omega
   | false =>
    cases hyx:ahd y x with
    | true =>
     rw[mrg,if_neg (by rw[hxy];simp),if_pos hyx];have h1:=ih (x::r) s (by simp at hn ⊢;omega) sa sb'.2;have hy:∀ z∈x::r,zP z y=false:=fun z hz=>by
      cases hk:zP z y with
      | false=>rfl
      | true =>
       rcases List.mem_cons.1 hz with e | e
       ·subst e;exact(zbM hyx (zaH hk)).elim
       ·exact(zbM (zaR hyx (sa'.1 z e)) (zaH hk)).elim
     constructor
     ·intro h;have:=h1.1 (by simp at h ⊢;omega);intro u hu z hz;rcases List.mem_cons.1 hz with e | e
      ·subst e;exact hy u hu
      ·exact this u hu z e
     ·intro h;have:=h1.2 (fun u hu z hz=>h u hu z (List.mem_cons_of_mem _ hz));simp at this ⊢;omega
    | false =>
     have hs:zP x y=true:=zgr x y (by rw[hxy];simp) (by rw[hyx];simp);rw[mrg,if_neg (by rw[hxy];simp),if_neg (by rw[hyx];simp)];have hl:=ziD _ (x::r) s (nR _);constructor
     ·intro h;simp at h hl;omega
     ·intro h;have:=h x List.mem_cons_self y List.mem_cons_self;rw[hs] at this;cases this
theorem mF_dsj(ls:List (List Ent))(hs:∀ l∈ls,Sr l):∀ a:List Ent,Sr a→((ls.foldl mrg a).length=a.length+lenS ls↔(∀ l∈ls,Dsj a l)∧ls.Pairwise Dsj):=by
 induction ls with
 | nil=>intro a _;simp[lenS]
 | cons l r ih =>
  intro a sa;have sl:=hs l List.mem_cons_self;have sm:=zpb _ a l (nR _) sa sl;have h1:=zk3 _ a l (nR _) sa sl;have h2:=ziD _ a l (nR _);have h3:=mF_len r (mrg a l);have hi:=ih (fun m hm=>hs m (List.mem_cons_of_mem _ hm)) (mrg a l) sm;have e:lenS (l::r)=l.length+lenS r:=by simp[lenS]
  have h3':(r.foldl mrg (mrg a l)).length≤(mrg a l).length+lenS r:=h3;rw[List.foldl_cons,e];constructor
  ·intro h;have hd:=h1.1 (by omega);have hr:=hi.1 (by omega);have hmem:=zoj _ a l (nR _) sa sl;refine⟨fun m hm=>?_,?_⟩
   ·rcases List.mem_cons.1 hm with e | e
    ·subst e;exact hd
    ·exact fun x hx y hy=>hr.1 m e x ((hmem x).2 (.inl hx)) y hy
   ·rw[List.pairwise_cons];refine⟨fun m hm x hx y hy=>hr.1 m hm x ((hmem x).2 (.inr ⟨hx,fun u hu=>hd u hu x hx⟩)) y hy,hr.2⟩
  ·rintro ⟨h4,h5⟩;have h6:=List.pairwise_cons.1 h5;have hd:=h4 l List.mem_cons_self;have hlen:=h1.2 hd;have:=hi.2 ⟨fun m hm x hx y hy=>by
    rcases zgj hx with hx | hx
    ·exact h4 m (List.mem_cons_of_mem _ hm) x hx y hy
    ·exact h6.1 m hm x hx y hy,h6.2⟩
   omega
theorem zd3{ls:List (List Ent)}(hs:∀ l∈ls,Sr l):(zj ls).length=lenS ls↔ls.Pairwise Dsj:=by
 have:=mF_dsj ls hs [] List.Pairwise.nil;unfold zj;rw[show ([]:List Ent).length+lenS ls=lenS ls by simp] at this;rw[this];exact⟨fun h=>h.2,fun h=>⟨(fun l _ x hx=>by cases hx),h⟩⟩
theorem zcf{ls:List (List Ent)}(hs:∀ l∈ls,Sr l)(hd:ls.Pairwise Dsj)(z:Ent):z∈zj ls↔∃ l∈ls,z∈l:=by
 rw[zgR hs];constructor
 ·rintro ⟨i,l,h1,h2,_⟩;exact⟨l,List.mem_of_getElem? h1,h2⟩
 ·rintro ⟨l,hl,hz⟩;obtain⟨i,hi,rfl⟩:=List.getElem_of_mem hl;refine⟨i,_,List.getElem?_eq_getElem hi,hz,fun j m hj hm u hu=>?_⟩;have hjl:j<ls.length:=by omega
  have hmj:ls[j]=m:=(List.getElem?_eq_some_iff.1 hm).2;exact List.pairwise_iff_getElem.1 hd j i hjl hi hj u (by rw[hmj];exact hu) z hz
theorem zdx{ls:List (List Ent)}(hs:∀ l∈ls,Sr l):Sr (zj ls):=mF_sr ls hs [] List.Pairwise.nil
theorem zkY(t:Tbl):Sr (zu t):=by
 cases h:zT t with
 | true=>exact zaV (zac h).1
 | false=>unfold zu;rw[if_neg (by rw[h];simp)];exact List.Pairwise.nil
theorem zhR(T:Tre):∀ l∈tabL T,Sr l:=fun l hl=>by
 obtain⟨t,_,rfl⟩:=List.mem_map.1 hl;exact zkY t
theorem zfa{T:Tre}(h:okL T.mem=true):∀ l∈lsT T,Sr l:=fun l hl=>by
 rcases List.mem_cons.1 hl with rfl | hl
 ·exact zaV h
 ·exact zhR T l hl
structure TreeP (T:Tre):Prop where
 mem:okL T.mem=true
 young:T.young.length≤6
 old:T.old.length≤1
 full:∀ t∈T.young++T.old,zT t=true
 apart:(lsT T).Pairwise Dsj
 seq0:0≤T.seq
 seq1:T.seq≤1000000
 few:T.snaps.length≤10
 snaps:zar T.seq T.snaps=true
 top:∀ l∈lsT T,∀ e∈l,e.seq≤T.seq
 newer:∀ x∈T.mem,∀ l∈tabL T,∀ y∈l,x.key=y.key→y.seq<x.seq
theorem entriesL_full{t:Tbl}:(zu t).length≠0↔zT t=true:=by
 cases h:zT t with
 | true =>
  have:=(zac h).2.1;simp only[iff_true];exact fun e=>this (List.eq_nil_of_length_eq_zero e)
 | false=>unfold zu;rw[if_neg (by rw[h];simp)];simp
theorem znG{T:Tre}(hm:okL T.mem=true)(hd:(lsT T).Pairwise Dsj){e:Ent}(he:e∈zj (lsT T)):hasKS T.mem e=true↔e∈T.mem:=by
 unfold hasKS;rw[List.any_eq_true];constructor
 ·rintro ⟨x,hx,hk⟩;have hxm:x∈zj (lsT T):=(zcf (zfa hm) hd x).2 ⟨T.mem,List.mem_cons_self,hx⟩;have hs:=(za3 x e).1 hk;rw[← ks_eq (zdx (zfa hm)) hxm he hs.1 hs.2];exact hx
 ·intro h;exact⟨e,h,zes e⟩
theorem zjO{T:Tre}(hm:okL T.mem=true)(hd:(lsT T).Pairwise Dsj):zcD T.mem (zj (lsT T))=true↔∀ x∈T.mem,∀ l∈tabL T,∀ y∈l,x.key=y.key→y.seq<x.seq:=by
 have sr:=zdx (zfa hm);have mm:=zcf (zfa hm) hd;have hk:=fun {e} he=>znG (e:=e) hm hd he
 have hd':=List.pairwise_cons.1 hd;obtain⟨all,hall⟩:∃ all,all=zj (lsT T):=⟨_,rfl⟩;rw[← hall] at sr mm hk ⊢;have nm:∀ i,i<all.length→nth all i∈all:=fun i hi=>by rw[zU hi];exact List.getElem_mem hi
 have ah:∀ i j,i<j→j<all.length→ahd (nth all i) (nth all j)=true:=fun i j hij hj=>by
  rw[zU (show i<all.length by omega),zU hj];exact List.pairwise_iff_getElem.1 sr i j (by omega) hj hij
 unfold zcD;rw[List.all_eq_true];constructor
 ·intro h x hx l hl y hy hxy;have hxa:x∈all:=(mm x).2 ⟨T.mem,List.mem_cons_self,hx⟩;have hya:y∈all:=(mm y).2 ⟨l,List.mem_cons_of_mem _ hl,hy⟩;have hyn:y ∉ T.mem:=fun e=>by
   have:=hd'.1 l hl y e y hy;rw[zes] at this;cases this
  obtain⟨i,hi,hxi⟩:=List.getElem_of_mem hxa;obtain⟨j,hj,hyj⟩:=List.getElem_of_mem hya;rw[← zU hi] at hxi;rw[← zU hj] at hyj;rcases Nat.lt_trichotomy i j with hij | hij | hij
  ·have:=ah i j hij hj;rw[hxi,hyj,za9,hxy,zab] at this;rcases this with h0 | h0
   ·cases h0
   ·exact h0.2
  ·subst hij;rw[hxi] at hyj;subst hyj;exact absurd hx hyn
  ·exfalso;have step:∀ d,j+d≤i→nth all (j+d) ∉ T.mem:=by
    intro d;induction d with
    | zero=>intro _;rw[Nat.add_zero,hyj];exact hyn
    | succ d ihd =>
     intro hd2 hin;have h0:=ihd (by omega);have hr:=h (j+d) (by rw[List.mem_range];omega);unfold zbU at hr;have e1:hasKS T.mem (nth all (j+d+1))=true:=(hk (nm _ (by omega))).2 hin;have e2:hasKS T.mem (nth all (j+d))=false:=by
      cases e:hasKS T.mem (nth all (j+d)) with
      | false=>rfl
      | true=>exact absurd ((hk (nm _ (by omega))).1 e) h0
     have keyAt:∀ p,j≤p→p≤i→(nth all p).key=y.key:=fun p hp1 hp2=>by
      by_cases hpj:p=j
      ·rw[hpj,hyj]
      ·by_cases hpi:p=i
       ·rw[hpi,hxi,hxy]
       ·have:=zh5 (ah j p (by omega) (by omega)) (ah p i (by omega) hi) (by rw[hyj,hxi,hxy]);rw[this,hyj]
     have e3:kEq (nth all (j+d)).key (nth all (j+d+1)).key=true:=by
      unfold kEq;rw[keyAt _ (by omega) (by omega),keyAt _ (by omega) (by omega)];simp
     rw[e1,e2,e3] at hr;simp at hr
   have:=step (i-j) (by omega);rw[show j+(i-j)=i by omega,hxi] at this;exact this hx
 ·intro h i hi;rw[List.mem_range] at hi;unfold zbU;cases e3:kEq (nth all i).key (nth all (i+1)).key with
  | false=>rfl
  | true =>
   cases e1:hasKS T.mem (nth all (i+1)) with
   | false=>rfl
   | true =>
    have hin:=(hk (nm (i+1) (by omega))).1 e1;cases e2:hasKS T.mem (nth all i) with
    | true=>rfl
    | false =>
     exfalso;obtain⟨l,hl,hy⟩:=(mm _).1 (nm i (by omega));rcases List.mem_cons.1 hl with rfl | hl
     ·rw[(hk (nm i (by omega))).2 hy] at e2;cases e2
     ·have hkey:(nth all i).key=(nth all (i+1)).key:=of_decide_eq_true e3;have:=h _ hin l hl _ hy hkey.symm;have h2:=ah i (i+1) (by omega) (by omega);rw[za9,hkey,zab] at h2;rcases h2 with h2 | h2
      ·cases h2
      ·omega
theorem zQ(T:Tre):zI T=true↔TreeP T:=by
 unfold zI allT;by_cases ha:allOk T=true
 ·rw[if_pos ha];have hp:=ha;simp only[allOk,Bool.and_eq_true,decide_eq_true_eq,List.all_eq_true,Bool.not_eq_true',decide_eq_false_iff_not] at hp;obtain⟨⟨⟨hm,hy⟩,ho⟩,hf⟩:=hp;have hs:=zfa hm;simp only[Bool.and_eq_true,decide_eq_true_eq,List.all_eq_true];constructor
  ·rintro ⟨⟨⟨⟨⟨⟨h1,h2⟩,h3⟩,h4⟩,h5⟩,h6⟩,h7⟩;have hd:=(zd3 hs).1 h1;refine⟨hm,hy,ho,fun t ht=>entriesL_full.1 (hf t ht),hd,h2,h3,h4,h5,fun l hl e he=>h6 e ((zcf hs hd e).2 ⟨l,hl,he⟩),(zjO hm hd).1 h7⟩
  ·intro h;exact⟨⟨⟨⟨⟨⟨(zd3 hs).2 h.apart,h.seq0⟩,h.seq1⟩,h.few⟩,h.snaps⟩,fun e he=>by
    obtain⟨l,hl,hel⟩:=(zcf hs h.apart e).1 he;exact h.top l hl e hel⟩,(zjO hm h.apart).2 h.newer⟩
 ·rw[if_neg ha];simp only[Bool.false_and,Bool.false_eq_true,false_iff];intro h;apply ha;simp only[allOk,Bool.and_eq_true,decide_eq_true_eq,List.all_eq_true,Bool.not_eq_true',decide_eq_false_iff_not];exact⟨⟨⟨h.mem,h.young⟩,h.old⟩,fun t ht=>entriesL_full.2 (h.full t ht)⟩
theorem zfV{T:Tre}(h:TreeP T):allT T=(zj (lsT T),true):=by
 have h2:=(zQ T).2 h;unfold zI at h2;simp only[Bool.and_eq_true] at h2;have h3:=h2.1.1.1.1.1.1;unfold allT at h3 ⊢;split
 ·rename_i ha;rw[if_pos ha] at h3;rw[show decide ((zj (lsT T)).length=lenS (lsT T))=true from h3]
 ·rename_i ha;rw[if_neg ha] at h3;cases h3
theorem zbZ{es:List Ent}(hs:Sr es)(k:ByteArray)(q:Int)(e:Ent):seenL es k q=some e↔e∈es∧e.key=k∧e.seq≤q∧∀ x∈es,x.key=k→x.seq≤q→x.seq≤e.seq:=by
 unfold seenL;rw[zfr _ es hs e];simp only[seenP,kEq,Bool.and_eq_true,decide_eq_true_eq];constructor
 ·rintro ⟨h1,⟨h2,h3⟩,h4⟩;refine⟨h1,h2,h3,fun x hx hk hq=>?_⟩;rcases h4 x hx ⟨hk,hq⟩ with h | h
  ·rw[h];exact Int.le_refl _
  ·rw[za9,h2,hk,zab] at h;rcases h with h | h
   ·cases h
   ·omega
 ·rintro ⟨h1,h2,h3,h4⟩;refine⟨h1,⟨h2,h3⟩,fun x hx ⟨hk,hq⟩=>?_⟩;have:=h4 x hx hk hq;by_cases he:x.seq=e.seq
  ·exact .inl (ks_eq hs hx h1 (by rw[hk,h2]) he)
  ·right
   rw[za9];exact .inr ⟨by rw[h2,hk],by omega⟩
theorem zdp{es:List Ent}(k:ByteArray)(q:Int):seenL es k q=none↔∀ x∈es,x.key=k→¬ x.seq≤q:=by
 unfold seenL;rw[List.find?_eq_none];simp only[seenP,kEq,Bool.and_eq_true,decide_eq_true_eq,not_and]
theorem seen_ext{a b:List Ent}(ha:Sr a)(hb:Sr b)(k:ByteArray)(q:Int)(h:∀ x,x.key=k→x.seq≤q→(x∈a↔x∈b)):seenL a k q=seenL b k q:=by
 cases h1:seenL a k q with
 | none =>
  symm
  rw[zdp] at h1 ⊢;intro x hx hk hq;exact h1 x ((h x hk hq).2 hx) hk hq
 | some e =>
  symm
  rw[zbZ ha] at h1;rw[zbZ hb];obtain⟨g1,g2,g3,g4⟩:=h1;exact⟨(h e g2 g3).1 g1,g2,g3,fun x hx hk hq=>g4 x ((h x hk hq).2 hx) hk hq⟩
def tellE:Option Ent→Option ByteArray
 | some e=>if e.gone=true then none else some e.val
 | none=>none
def readL(es:List Ent)(k:ByteArray)(q:Int):Option ByteArray:=tellE (seenL es k q)
def readT(T:Tre)(k:ByteArray)(q:Int):Option ByteArray:=if zI T=true then readL (zj (lsT T)) k q else none
theorem zgs{es:List Ent}(hok:okL es=true)(q:Int)(e:Ent):e∈zaJ es q↔seenL es e.key q=some e∧e.gone=false:=by
 rw[zdF hok,List.mem_filter];simp only[shP,Bool.and_eq_true,decide_eq_true_eq,Bool.not_eq_true'];constructor
 ·rintro ⟨_,h⟩;exact h
 ·intro h;exact⟨List.mem_of_find?_eq_some h.1,h⟩
theorem znl{a b:List Ent}(ha:okL a=true)(hb:okL b=true){q:Int}(h:zaJ a q=zaJ b q)(k:ByteArray):readL a k q=readL b k q:=by
 have go:∀ {a b:List Ent},okL a=true→okL b=true→zaJ a q=zaJ b q→∀ e,seenL a k q=some e→e.gone=false→seenL b k q=some e:=by
  intro a b ha hb h e he hg;have hk:=(za7 he).1;have:e∈zaJ a q:=(zgs ha q e).2 ⟨by rw[hk];exact he,hg⟩;rw[h] at this;have:=((zgs hb q e).1 this).1;rwa [hk] at this
 unfold readL;cases h1:seenL a k q with
 | none =>
  cases h2:seenL b k q with
  | none=>rfl
  | some e =>
   cases hg:e.gone with
   | true=>simp[tellE,hg]
   | false=>rw[go hb ha h.symm e h2 hg] at h1;cases h1
 | some e =>
  cases hg:e.gone with
  | false=>rw[go ha hb h e h1 hg]
  | true =>
   cases h2:seenL b k q with
   | none=>simp[tellE,hg]
   | some u =>
    cases hg2:u.gone with
    | false =>
     have:=go hb ha h.symm u h2 hg2;rw[h1] at this;have e2:=Option.some.inj this;rw[← e2,hg] at hg2;cases hg2
    | true=>simp[tellE,hg,hg2]
theorem zef{all mem B:List Ent}(ha:Sr all)(hm:Sr mem)(hB:Sr B)(h:∀ x,x∈all↔x∈mem∨x∈B)(hn:∀ x∈mem,∀ y∈B,x.key=y.key→y.seq<x.seq)(k:ByteArray)(q:Int) :
 seenL all k q=(seenL mem k q).or (seenL B k q):=by
 cases h1:seenL mem k q with
 | some e =>
  rw[Option.some_or,zbZ ha];rw[zbZ hm] at h1;obtain⟨g1,g2,g3,g4⟩:=h1;refine⟨(h e).2 (.inl g1),g2,g3,fun x hx hk hq=>?_⟩;rcases (h x).1 hx with hx | hx
  ·exact g4 x hx hk hq
  ·have:=hn e g1 x hx (by rw[g2,hk]);omega
 | none =>
  rw[Option.none_or];rw[zdp] at h1;refine seen_ext ha hB k q (fun x hk hq=>?_);rw[h x];constructor
  ·rintro (hx | hx)
   ·exact absurd hq (h1 x hx hk)
   ·exact hx
  ·exact .inr
theorem TreeP.sr{T:Tre}(h:TreeP T):Sr (zj (lsT T)):=zdx (zfa h.mem)
theorem TreeP.all{T:Tre}(h:TreeP T)(z:Ent):z∈zj (lsT T)↔∃ l∈lsT T,z∈l:=zcf (zfa h.mem) h.apart z
theorem zdY{T:Tre}(h:TreeP T)(k:ByteArray)(q:Int):readT T k q=readL (zj (lsT T)) k q:=by unfold readT;rw[if_pos ((zQ T).2 h)]
structure Wri where
 key:ByteArray
 val:ByteArray
 gone:Bool
def wriE(x:Wri)(s:Int):Ent:=⟨x.key,x.val,s,x.gone⟩
def wriOk(x:Wri):Bool:=okE (wriE x 1)
theorem wriOk_at{x:Wri}(h:wriOk x=true){s:Int}(h1:1≤s)(h2:s≤1000000):okE (wriE x s)=true:=by
 unfold wriOk okE at h;unfold okE;simp only[wriE,Bool.and_eq_true] at h ⊢;exact⟨⟨h.1.1,decide_eq_true h1⟩,decide_eq_true h2⟩
def put1(T:Tre)(x:Wri):Tre:=⟨insE T.mem (wriE x (T.seq+1)),T.young,T.old,T.seq+1,T.snaps⟩
theorem zif(es:List Ent)(e z:Ent):z∈insE es e↔z=e∨z∈es:=by
 unfold insE;rw[List.mem_append,List.mem_cons];have:z∈es↔z∈es.take (atE es e)∨z∈es.drop (atE es e):=by
  conv=>lhs;rw[← List.take_append_drop (atE es e) es]
  rw[List.mem_append]
 rw[this];constructor
 ·rintro (h | h | h)
  ·exact .inr (.inl h)
  ·exact .inl h
  ·exact .inr (.inr h)
 ·rintro (h | h | h)
  ·exact .inr (.inl h)
  ·exact .inl h
  ·exact .inr (.inr h)
theorem zbC(seq:Int)(ss:List Int):zar seq ss=true↔(∀ s∈ss,0≤s∧s≤seq)∧ss.Pairwise (· < ·):=by
 unfold zar;rw[List.all_eq_true];have gd2:∀ i (hi:i<ss.length),ss.getD i 0=ss[i]:=fun i hi=>by simp[List.getD,List.getElem?_eq_getElem hi]
 constructor
 ·intro h;have h1:∀ i (hi:i<ss.length),(0≤ss[i]∧ss[i]≤seq)∧(i=0∨ss.getD (i-1) 0<ss[i]):=fun i hi=>by
   have:=h i (List.mem_range.2 hi);simp only[Bool.and_eq_true,Bool.or_eq_true,decide_eq_true_eq] at this;rw[gd2 i hi] at this;exact this
  refine⟨fun s hs=>?_,?_⟩
  ·obtain⟨i,hi,rfl⟩:=List.getElem_of_mem hs;exact(h1 i hi).1
  ·rw[List.pairwise_iff_getElem];intro i j hi hj hij;have step:∀ d (hd:i+d+1<ss.length),ss[i]<ss[i+d+1]:=by
    intro d;induction d with
    | zero =>
     intro hd;rcases (h1 (i+1) (by omega)).2 with h0 | h0
     ·omega
     ·rw[show i+1-1=i by omega,gd2 i hi] at h0;exact h0
    | succ d ih =>
     intro hd;have a:=ih (by omega);rcases (h1 (i+(d+1)+1) hd).2 with h0 | h0
     ·omega
     ·rw[show i+(d+1)+1-1=i+d+1 by omega,gd2 _ (by omega)] at h0;omega
   have:=step (j-i-1) (by omega);simp only[show i+(j-i-1)+1=j by omega] at this;exact this
 ·rintro ⟨h1,h2⟩ i hi;rw[List.mem_range] at hi;simp only[Bool.and_eq_true,Bool.or_eq_true,decide_eq_true_eq];rw[gd2 i hi];have:=h1 _ (List.getElem_mem hi);refine⟨this,?_⟩;by_cases h0:i=0
  ·exact .inl h0
  ·right
   rw[gd2 (i-1) (by omega)];exact List.pairwise_iff_getElem.1 h2 (i-1) i (by omega) hi (by omega)
theorem snaps_up{a b:Int}{ss:List Int}(h:zar a ss=true)(hab:a≤b):zar b ss=true:=by
 rw[zbC] at h ⊢;exact⟨fun s hs=>⟨(h.1 s hs).1,by have:=(h.1 s hs).2;omega⟩,h.2⟩
theorem zoD{T:Tre}(h:TreeP T){x:Wri}(hx:wriOk x=true)(hs:T.seq<1000000)(hl:T.mem.length<300):TreeP (put1 T x):=by
 have hd:=List.pairwise_cons.1 h.apart;have he:okE (wriE x (T.seq+1))=true:=wriOk_at hx (by have:=h.seq0;omega) (by omega);have hno:∀ y,(∃ l∈lsT T,y∈l)→zP y (wriE x (T.seq+1))=false:=fun y ⟨l,hl,hy⟩=>by
  cases hk:zP y (wriE x (T.seq+1)) with
  | false=>rfl
  | true =>
   have h1:=((za3 _ _).1 hk).2;have h2:=h.top l hl y hy;simp only[wriE] at h1;omega
 have hpk:putOk T.mem (wriE x (T.seq+1))=true:=by
  simp only[putOk,Bool.and_eq_true,Bool.not_eq_true',decide_eq_false_iff_not];refine⟨⟨⟨h.mem,he⟩,by omega⟩,?_⟩;cases hk:hasKS T.mem (wriE x (T.seq+1)) with
  | false=>rfl
  | true =>
   unfold hasKS at hk;rw[List.any_eq_true] at hk;obtain⟨y,hy,hyk⟩:=hk;have:=hno y ⟨T.mem,List.mem_cons_self,hy⟩;rw[hyk] at this;cases this
 refine⟨insE_ok hpk,h.young,h.old,h.full,?_,by show (0:Int)≤T.seq+1;have:=h.seq0;omega,by show T.seq+1≤1000000;omega,h.few,snaps_up h.snaps (show T.seq≤T.seq+1 by omega),fun l hl e hel=>?_,fun a ha l hl y hy hk=>?_⟩
 ·show (insE T.mem (wriE x (T.seq+1))::tabL T).Pairwise Dsj;rw[List.pairwise_cons];refine⟨fun l hl a ha y hy=>?_,hd.2⟩;rcases (zif _ _ _).1 ha with rfl | ha
  ·cases hk:zP (wriE x (T.seq+1)) y with
   | false=>rfl
   | true=>have:=hno y ⟨l,List.mem_cons_of_mem _ hl,hy⟩;rw[zaH hk] at this;cases this
  ·exact hd.1 l hl a ha y hy
 ·show e.seq≤T.seq+1;rcases List.mem_cons.1 (show l∈insE T.mem (wriE x (T.seq+1))::tabL T from hl) with rfl | hl
  ·rcases (zif _ _ _).1 hel with rfl | hel
   ·exact Int.le_refl _
   ·have:=h.top T.mem List.mem_cons_self e hel;omega
  ·have:=h.top l (List.mem_cons_of_mem _ hl) e hel;omega
 ·rcases (zif _ _ _).1 ha with rfl | ha
  ·have:=h.top l (List.mem_cons_of_mem _ hl) y hy;show y.seq<T.seq+1;omega
  ·exact h.newer a ha l hl y hy hk
def zfA(T:Tre):Tre:=⟨[],zC T.mem::T.young,T.old,T.seq,T.snaps⟩
theorem zlQ{T:Tre}(hm:okL T.mem=true)(h0:T.mem.length≠0):lsT (zfA T)=[]::T.mem::tabL T:=by
 unfold lsT tabL zfA;have:zae T.mem=true:=by simp[zae,hm,h0]
 simp[ze3 this]
theorem zdT{T:Tre}(h:TreeP T)(h0:T.mem.length≠0)(hy:T.young.length<6):TreeP (zfA T):=by
 have hls:=zlQ h.mem h0;have hb:zae T.mem=true:=by simp[zae,h.mem,h0]
 refine⟨rfl,by show T.young.length+1≤6;omega,h.old,fun t ht=>?_,?_,h.seq0,h.seq1,h.few,h.snaps,fun l hl e he=>?_,fun x hx=>by cases hx⟩
 ·rcases List.mem_cons.1 (show t∈zC T.mem::(T.young++T.old) from ht) with rfl | ht
  ·exact zik hb
  ·exact h.full t ht
 ·rw[hls,List.pairwise_cons];exact⟨(fun l _ x hx=>by cases hx),h.apart⟩
 ·rw[hls] at hl;rcases List.mem_cons.1 hl with rfl | hl
  ·cases he
  ·exact h.top l hl e he
theorem zn0{T:Tre}(h:TreeP T)(h0:T.mem.length≠0)(hy:T.young.length<6):zj (lsT (zfA T))=zj (lsT T):=by
 have h':=zdT h h0 hy;refine zma _ _ h'.sr h.sr (fun z=>?_);rw[h'.all,h.all,zlQ h.mem h0];constructor
 ·rintro ⟨l,hl,hz⟩;rcases List.mem_cons.1 hl with rfl | hl
  ·cases hz
  ·exact⟨l,hl,hz⟩
 ·rintro ⟨l,hl,hz⟩;exact⟨l,List.mem_cons_of_mem _ hl,hz⟩
theorem zmk{T:Tre}(h:TreeP T)(h0:T.mem.length≠0)(hy:T.young.length<6)(k:ByteArray)(q:Int):readT (zfA T) k q=readT T k q:=by
 rw[zdY (zdT h h0 hy),zdY h,zn0 h h0 hy]
def sinkL(T:Tre):List Ent:=zG (zbs (zj (tabL T)) (T.snaps++[T.seq]))
def sinkT(T:Tre):Tre:=⟨T.mem,[],if (sinkL T).length=0 then [] else [zC (sinkL T)],T.seq,T.snaps⟩
theorem zov{T:Tre}(h:TreeP T):(tabL T).Pairwise Dsj:=(List.pairwise_cons.1 h.apart).2
theorem zgd{T:Tre}(h:TreeP T)(z:Ent):z∈zj (tabL T)↔∃ l∈tabL T,z∈l:=zcf (zhR T) (zov h) z
theorem zgM{T:Tre}(h:TreeP T){l:List Ent}(hl:l∈tabL T){e:Ent}(he:e∈l):okE e=true:=by
 obtain⟨t,ht,rfl⟩:=List.mem_map.1 hl;exact((zaD _).1 (zac (h.full t ht)).1).2.1 e he
theorem zlD{T:Tre}(h:TreeP T)(hn:(zj (tabL T)).length≤300):okL (zj (tabL T))=true:=by
 rw[zaD];refine⟨hn,fun e he=>?_,zdx (zhR T)⟩;obtain⟨l,hl,hel⟩:=(zgd h e).1 he;exact zgM h hl hel
theorem zic{T:Tre}(h:TreeP T)(hn:(zj (tabL T)).length≤300):(sinkL T).Sublist (zj (tabL T)):=(zbp _).trans (zf8 (zlD h hn) _)
theorem zew{T:Tre}(h:TreeP T)(hn:(zj (tabL T)).length≤300):okL (sinkL T)=true:=zh8 (zlD h hn) (zic h hn)
theorem ziJ{T:Tre}(h:TreeP T)(hn:(zj (tabL T)).length≤300):tabL (sinkT T)=if (sinkL T).length=0 then [] else [sinkL T]:=by
 unfold tabL sinkT;by_cases h0:(sinkL T).length=0
 ·simp[h0]
 ·have:zae (sinkL T)=true:=by simp[zae,zew h hn,h0]
  simp[h0,ze3 this]
theorem znH{T:Tre}(h:TreeP T)(hn:(zj (tabL T)).length≤300){l:List Ent}(hl:l∈tabL (sinkT T)){e:Ent}(he:e∈l):e∈sinkL T:=by
 rw[ziJ h hn] at hl;split at hl
 ·cases hl
 ·rw[List.mem_singleton.1 hl] at he;exact he
theorem zgE{T:Tre}(h:TreeP T)(hn:(zj (tabL T)).length≤300):TreeP (sinkT T):=by
 have hin:∀ l∈tabL (sinkT T),∀ e∈l,∃ m∈tabL T,e∈m:=fun l hl e he=>(zgd h e).1 ((zic h hn).subset (znH h hn hl he))
 have hd:=List.pairwise_cons.1 h.apart;refine⟨h.mem,Nat.zero_le _,?_,fun t ht=>?_,?_,h.seq0,h.seq1,h.few,h.snaps,fun l hl e he=>?_,fun x hx l hl y hy hk=>?_⟩
 ·unfold sinkT;split
  ·exact Nat.zero_le _
  ·exact nR _
 ·have ht':t∈(if (sinkL T).length=0 then [] else [zC (sinkL T)]):=by simpa [sinkT] using ht
  split at ht'
  ·cases ht'
  ·rename_i h0;rw[List.mem_singleton.1 ht'];exact zik (by simp[zae,zew h hn,h0])
 ·show (T.mem::tabL (sinkT T)).Pairwise Dsj;rw[List.pairwise_cons];refine⟨fun l hl x hx y hy=>?_,?_⟩
  ·obtain⟨m,hm,hym⟩:=hin l hl y hy;exact hd.1 m hm x hx y hym
  ·rw[ziJ h hn];split
   ·exact List.Pairwise.nil
   ·exact List.pairwise_singleton _ _
 ·rcases List.mem_cons.1 (show l∈T.mem::tabL (sinkT T) from hl) with rfl | hl
  ·exact h.top T.mem List.mem_cons_self e he
  ·obtain⟨m,hm,hem⟩:=hin l hl e he;exact h.top m (List.mem_cons_of_mem _ hm) e hem
 ·obtain⟨m,hm,hym⟩:=hin l hl y hy;exact h.newer x hx m hm y hym hk
theorem zoG{T:Tre}(h:TreeP T)(hn:(zj (tabL T)).length≤300)(k:ByteArray){q:Int}(hq:q∈T.snaps++[T.seq]):readT (sinkT T) k q=readT T k q:=by
 have h':=zgE h hn;have hok:=zlD h hn;rw[zdY h',zdY h];have e1:seenL (zj (lsT T)) k q=(seenL T.mem k q).or (seenL (zj (tabL T)) k q):=by
  refine zef h.sr (zaV h.mem) (zdx (zhR T)) (fun x=>?_) (fun x hx y hy hk=>?_) k q
  ·rw[h.all,zgd h];constructor
   ·rintro ⟨l,hl,hx⟩;rcases List.mem_cons.1 hl with rfl | hl
    ·exact .inl hx
    ·exact .inr ⟨l,hl,hx⟩
   ·rintro (hx | ⟨l,hl,hx⟩)
    ·exact⟨T.mem,List.mem_cons_self,hx⟩
    ·exact⟨l,List.mem_cons_of_mem _ hl,hx⟩
  ·obtain⟨l,hl,hyl⟩:=(zgd h y).1 hy;exact h.newer x hx l hl y hyl hk
 have e2:seenL (zj (lsT (sinkT T))) k q=(seenL T.mem k q).or (seenL (sinkL T) k q):=by
  refine zef h'.sr (zaV h.mem) (zaV (zew h hn)) (fun x=>?_) (fun x hx y hy hk=>?_) k q
  ·rw[h'.all];constructor
   ·rintro ⟨l,hl,hx⟩;rcases List.mem_cons.1 (show l∈T.mem::tabL (sinkT T) from hl) with rfl | hl
    ·exact .inl hx
    ·exact .inr (znH h hn hl hx)
   ·rintro (hx | hx)
    ·exact⟨T.mem,List.mem_cons_self,hx⟩
    ·refine⟨sinkL T,List.mem_cons_of_mem _ ?_,hx⟩;rw[ziJ h hn,if_neg (fun e=>by rw[List.eq_nil_of_length_eq_zero e] at hx;cases hx)];exact List.mem_singleton.2 rfl
  ·obtain⟨l,hl,hyl⟩:=(zgd h y).1 ((zic h hn).subset hy);exact h.newer x hx l hl y hyl hk
 have e3:readL (sinkL T) k q=readL (zj (tabL T)) k q:=by
  refine znl (zew h hn) hok ?_ k;unfold sinkL;rw[zjH (zfY hok _),zkA hok _ (.inl hq)]
 unfold readL at e3 ⊢;rw[e1,e2];cases seenL T.mem k q with
 | some e=>rfl
 | none=>rw[Option.none_or,Option.none_or];exact e3
def snapT(T:Tre):Tre:=⟨T.mem,T.young,T.old,T.seq,T.snaps++[T.seq]⟩
theorem zn5{T:Tre}(h:TreeP T)(hn:T.snaps.length<10)(hs:∀ s∈T.snaps,s≠T.seq):TreeP (snapT T):=by
 refine⟨h.mem,h.young,h.old,h.full,h.apart,h.seq0,h.seq1,?_,?_,h.top,h.newer⟩
 ·show (T.snaps++[T.seq]).length≤10;rw[lA];simp;omega
 ·have:=(zbC _ _).1 h.snaps;show zar T.seq (T.snaps++[T.seq])=true;rw[zbC];refine⟨fun s hs'=>?_,?_⟩
  ·rcases List.mem_append.1 hs' with e | e
   ·exact this.1 s e
   ·rw[List.mem_singleton.1 e];exact⟨h.seq0,Int.le_refl _⟩
  ·rw[List.pairwise_append];refine⟨this.2,by simp,fun a ha b hb=>?_⟩;rw[List.mem_singleton.1 hb];have h1:=(this.1 a ha).2;have h2:=hs a ha;omega
theorem znh{T:Tre}(h:TreeP T){s:Int}(hs:s∈T.snaps)(he:s=T.seq):T.snaps.getD (T.snaps.length-1) 0=T.seq:=by
 have:=(zbC _ _).1 h.snaps;obtain⟨i,hi,rfl⟩:=List.getElem_of_mem hs;have hl:T.snaps.getD (T.snaps.length-1) 0=T.snaps[T.snaps.length-1]'(by omega):=by simp[List.getD,List.getElem?_eq_getElem (show T.snaps.length-1<T.snaps.length by omega)]
 rw[hl];by_cases hi2:i=T.snaps.length-1
 ·subst hi2;exact he
 ·have h1:=List.pairwise_iff_getElem.1 this.2 i (T.snaps.length-1) hi (by omega) (by omega);have h2:=(this.1 _ (List.getElem_mem (show T.snaps.length-1<T.snaps.length by omega))).2;omega
def freeT(T:Tre)(s:Int):Tre:=⟨T.mem,T.young,T.old,T.seq,T.snaps.filter (fun x=>decide (x≠s))⟩
theorem znS{T:Tre}(h:TreeP T)(s:Int):TreeP (freeT T s):=by
 have hsub:(T.snaps.filter (fun x=>decide (x≠s))).Sublist T.snaps:=List.filter_sublist;have:=(zbC _ _).1 h.snaps;refine⟨h.mem,h.young,h.old,h.full,h.apart,h.seq0,h.seq1,nT hsub.length_le h.few,?_,h.top,h.newer⟩;show zar T.seq (T.snaps.filter (fun x=>decide (x≠s)))=true;rw[zbC];exact⟨fun x hx=>this.1 x (hsub.subset hx),this.2.sublist hsub⟩
theorem zpl:TreeP zjD:=by
 refine⟨rfl,Nat.zero_le _,Nat.zero_le _,(fun t ht=>by cases ht),List.pairwise_singleton _ _,Int.le_refl _,by decide,Nat.zero_le _,rfl,fun l hl e he=>?_,(fun x hx=>by cases hx)⟩;rw[List.mem_singleton.1 (show l∈[([]:List Ent)] from hl)] at he;cases he
end Go.Proofs.YtjlnchhgkfnldaaGreat
