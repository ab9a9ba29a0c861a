import Derived.Test.YtannfbpohhnnkaaGreatDoorG02
import Derived.Laws.IdiomStrings
import Derived.Laws.BytesArg
namespace Go.Proofs.YtannfbpohhnnkaaGreatDoor
set_option maxHeartbeats 16000000
set_option maxRecDepth 100000
theorem sr_ext:∀ (a b:List Ent),Sr a→Sr b→(∀ x,x∈a↔x∈b)→a=b
 | [],b,_,_,h=>by
  cases b with
  | nil=>rfl
  | cons y s=>have:=(h y).2 List.mem_cons_self;cases this
 | x::r,[],_,_,h=>by have:=(h x).1 List.mem_cons_self;cases this
 | x::r,y::s,ha,hb,h=>by
  have ha':=List.pairwise_cons.1 ha;have hb':=List.pairwise_cons.1 hb;have hxy:x=y:=by
   rcases List.mem_cons.1 ((h x).1 List.mem_cons_self) with e | h1
   ·exact e
   ·rcases List.mem_cons.1 ((h y).2 List.mem_cons_self) with e | h2
    ·exact e.symm
    ·have p:=hb'.1 x h1;have q:=zg6 (ha'.1 y h2);rw[p] at q;cases q
  subst hxy;rw[sr_ext r s ha'.2 hb'.2];intro z;have hz:=h z;rw[List.mem_cons,List.mem_cons] at hz;constructor
  ·intro hm;rcases hz.1 (.inr hm) with e | e
   ·have:=ha'.1 z hm;rw[e,za3] at this;cases this
   ·exact e
  ·intro hm;rcases hz.2 (.inr hm) with e | e
   ·have:=hb'.1 z hm;rw[e,za3] at this;cases this
   ·exact e
theorem zq4(p:Ent→Bool):∀ (es:List Ent),Sr es→∀ e,es.find? p=some e↔e∈es∧p e=true∧∀ x∈es,p x=true→x=e∨ahd e x=true
 | [],_,e=>by simp
 | a::r,hs,e=>by
  have hs':=List.pairwise_cons.1 hs;rw[List.find?_cons];cases hp:p a with
  | true =>
   constructor
   ·intro h;obtain rfl:=Option.some.inj h;refine⟨List.mem_cons_self,hp,fun x hx _=>?_⟩;rcases List.mem_cons.1 hx with rfl | hx
    ·exact .inl rfl
    ·exact .inr (hs'.1 x hx)
   ·rintro ⟨h1,h2,h3⟩;rcases h3 a List.mem_cons_self hp with h | h
    ·rw[h]
    ·rcases List.mem_cons.1 h1 with rfl | h1
     ·rfl
     ·have q:=zg6 (hs'.1 e h1);rw[h] at q;cases q
  | false =>
   simp only;rw[zq4 p r hs'.2 e];constructor
   ·rintro ⟨h1,h2,h3⟩;refine⟨List.mem_cons_of_mem _ h1,h2,fun x hx hpx=>?_⟩;rcases List.mem_cons.1 hx with rfl | hx
    ·rw[hp] at hpx;cases hpx
    ·exact h3 x hx hpx
   ·rintro ⟨h1,h2,h3⟩;rcases List.mem_cons.1 h1 with rfl | h1
    ·rw[hp] at h2;cases h2
    ·exact⟨h1,h2,fun x hx=>h3 x (List.mem_cons_of_mem _ hx)⟩
def kept(es:List Ent)(qs:List Int)(i:Nat):Bool :=
 decide (i=0) || !kEq (nth es (i-1)).key (nth es i).key||qs.any (fun q=>(seenL es (nth es i).key q).isSome&&decide (((seenL es (nth es i).key q).getD zeroE).seq=(nth es i).seq))
def seTo(es:List Ent)(qs:List Int):Nat→List Ent
 | 0=>[]
 | i+1=>if kept es qs i=true then seTo es qs i++[nth es i] else seTo es qs i
def zbq(es:List Ent)(qs:List Int):List Ent:=seTo es qs es.length
def toldS(es:List Ent)(qs:List Int):Bool:=okL es&&decide (qs.length≤20)
def zcr(es:List Ent)(qs:List Int):List Ent:=if toldS es qs=true then zbq es qs else []
def keptE(es:List Ent)(qs:List Int)(e:Ent):Bool:=es.all (fun x=>!kEq x.key e.key||decide (x=e)||ahd e x)||qs.any (fun q=>decide (seenL es e.key q=some e))
theorem zkZ{a b c:Ent}(h1:ahd a b=true)(h2:ahd b c=true)(h:a.key=c.key):b.key=a.key:=by
 rw[zaX] at h1 h2;rcases h1 with h1 | h1
 ·rcases h2 with h2 | h2
  ·have:=zgL h1 h2;rw[h,zW] at this;cases this
  ·rw[h2.1,h]
 ·exact h1.1.symm
theorem ks_eq{es:List Ent}(hs:Sr es){a b:Ent}(ha:a∈es)(hb:b∈es)(hk:a.key=b.key)(hq:a.seq=b.seq):a=b:=by
 obtain⟨i,hi,rfl⟩:=List.getElem_of_mem ha;obtain⟨j,hj,rfl⟩:=List.getElem_of_mem hb;have no:∀ x y:Ent,ahd x y=true→x.key=y.key→x.seq=y.seq→False:=fun x y h h1 h2=>by
  rw[zaX,h1,zW] at h;rcases h with h | h
  ·cases h
  ·omega
 rcases Nat.lt_trichotomy i j with h | h | h
 ·exact absurd (no _ _ (List.pairwise_iff_getElem.1 hs i j hi hj h) hk hq) id
 ·subst h;rfl
 ·exact absurd (no _ _ (List.pairwise_iff_getElem.1 hs j i hj hi h) hk.symm hq.symm) id
theorem kept_iff{es:List Ent}(hok:okL es=true)(qs:List Int){i:Nat}(hi:i<es.length):kept es qs i=keptE es qs (nth es i):=by
 have hs:=ziu hok;unfold kept keptE;have e1:(decide (i=0) || !kEq (nth es (i-1)).key (nth es i).key)=es.all (fun x=>!kEq x.key (nth es i).key||decide (x=nth es i)||ahd (nth es i) x):=by
  rw[Bool.eq_iff_iff,List.all_eq_true];simp only[Bool.or_eq_true,decide_eq_true_eq,Bool.not_eq_true',kEq,decide_eq_false_iff_not];constructor
  ·intro h x hx;obtain⟨j,hj,rfl⟩:=List.getElem_of_mem hx;rw[← zE hj];rcases Nat.lt_trichotomy i j with hij | hij | hij
   ·exact .inr (zbN hok hij hj)
   ·subst hij;exact .inl (.inr rfl)
   ·refine .inl (.inl fun hk=>?_);rcases h with h | h
    ·omega
    ·refine h ?_;by_cases hj1:j=i-1
     ·rw[← hj1];exact hk
     ·have:=zkZ (zbN hok (show j<i-1 by omega) (by omega)) (zbN hok (show i-1<i by omega) hi) hk;rw[this];exact hk
  ·intro h;by_cases h0:i=0
   ·exact .inl h0
   ·refine .inr fun hk=>?_
    have hp:=zbN hok (show i-1<i by omega) hi;rcases h (nth es (i-1)) (by rw[zE (by omega)];exact List.getElem_mem _) with (h | h) | h
    ·exact h hk
    ·rw[h,za3] at hp;cases hp
    ·have:=zg6 hp;rw[h] at this;cases this
 rw[e1];congr 2
 funext q
 cases hq:seenL es (nth es i).key q with
 | none=>simp
 | some u =>
  have hu:u∈es:=List.mem_of_find?_eq_some hq;have hk:=(zfz hq).1;have hm:nth es i∈es:=by rw[zE hi];exact List.getElem_mem hi
  simp only[Option.isSome_some,Bool.true_and,Option.getD_some,Option.some.injEq];apply decide_eq_decide.2;exact⟨fun h=>ks_eq hs hu hm hk h,fun h=>by rw[h]⟩
theorem zhC{es:List Ent}(hok:okL es=true)(qs:List Int):∀ i,i≤es.length→seTo es qs i=(es.take i).filter (keptE es qs)
 | 0,_=>by rw[seTo];simp
 | i+1,hi=>by
  have ih:=zhC hok qs i (by omega);rw[List.take_add_one,List.getElem?_eq_getElem (by omega),Option.toList_some,List.filter_append,← ih,← zE (by omega),seTo,kept_iff hok qs (by omega),List.filter_cons];cases keptE es qs (nth es i)<;>simp
theorem zjW{es:List Ent}(hok:okL es=true)(qs:List Int):zbq es qs=es.filter (keptE es qs):=by
 unfold zbq;rw[zhC hok qs _ (Nat.le_refl _),List.take_of_length_le (Nat.le_refl _)]
theorem zma{es fs:List Ent}(h:okL es=true)(hs:fs.Sublist es):okL fs=true:=by
 rw[za0] at h ⊢;exact⟨Nat.le_trans hs.length_le h.1,fun e he=>h.2.1 e (hs.subset he),h.2.2.sublist hs⟩
theorem zkj{es:List Ent}(hok:okL es=true)(qs:List Int):(zbq es qs).Sublist es:=by rw[zjW hok];exact List.filter_sublist
theorem seens_ok{es:List Ent}(hok:okL es=true)(qs:List Int):okL (zbq es qs)=true:=zma hok (zkj hok qs)
def botS(e:Ent)(out:List Ent):List Ent:=if (decide (out.length=0) || !kEq (nth out 0).key e.key)&&e.gone then out else e::out
def zB(es:List Ent):List Ent:=es.foldr botS []
def zgF(es:List Ent)(qs:List Int):List Ent:=if toldS es qs=true then zB (zbq es qs) else []
theorem botS_sub(e:Ent)(out:List Ent):(botS e out).Sublist (e::out):=by
 unfold botS;split
 ·exact List.sublist_cons_self _ _
 ·exact List.Sublist.refl _
theorem zd2:∀ es:List Ent,(zB es).Sublist es
 | []=>List.Sublist.refl _
 | e::r=>(botS_sub e (zB r)).trans ((zd2 r).cons_cons e)
structure Src where
 v:Value
 es:List Ent
 no:Nat
def Src.hd(s:Src):Ent:=nth s.es 0
def ltT(x:Ent)(i:Nat)(y:Ent)(j:Nat):Bool:=ahd x y||(zz x y&&decide (i<j))
theorem zen(x:Ent):zz x x=true:=by rw[zaG];exact⟨rfl,rfl⟩
theorem zap{x y:Ent}(h:zz x y=true):zz y x=true:=by rw[zaG] at h ⊢;exact⟨h.1.symm,h.2.symm⟩
theorem zbW{x y z:Ent}(h:zz x y=true)(k:zz y z=true):zz x z=true:=by rw[zaG] at h k ⊢;exact⟨h.1.trans k.1,h.2.trans k.2⟩
theorem zfn{x y z:Ent}(h:ahd x y=true)(hz:zz y z=true):ahd x z=true:=by
 rw[zaG] at hz;rw[zaX] at h ⊢;rw[← hz.1,← hz.2];exact h
theorem zbj{x y:Ent}(h:ahd x y=true)(k:zz x y=true):False:=by
 have:=zfn h (zap k);rw[za3] at this;cases this
theorem zck(x:Ent)(i:Nat)(y:Ent)(j:Nat):ltT x i y j=true↔ahd x y=true∨(zz x y=true∧i<j):=by simp[ltT]
theorem zcp(x:Ent)(i:Nat):ltT x i x i=false:=by
 cases h:ltT x i x i with
 | false=>rfl
 | true =>
  rw[zck] at h;rcases h with h | h
  ·rw[za3] at h;cases h
  ·omega
theorem zhk{x y z:Ent}{i j k:Nat}(h:ltT x i y j=true)(h2:ltT y j z k=true):ltT x i z k=true:=by
 rw[zck] at *;rcases h with h | h
 ·rcases h2 with h2 | h2
  ·exact .inl (zaD h h2)
  ·exact .inl (zfn h h2.1)
 ·rcases h2 with h2 | h2
  ·exact .inl (zop h.1 h2)
  ·exact .inr ⟨zbW h.1 h2.1,by omega⟩
theorem zpE(x:Ent)(i:Nat)(y:Ent)(j:Nat):ltT x i y j=true∨ltT y j x i=true∨(zz x y=true∧i=j):=by
 rw[zck,zck];cases hs:zz x y with
 | true =>
  rcases Nat.lt_trichotomy i j with h | h | h
  ·exact .inl (.inr ⟨rfl,h⟩)
  ·exact .inr (.inr ⟨rfl,h⟩)
  ·exact .inr (.inl (.inr ⟨zap hs,h⟩))
 | false =>
  cases ha:ahd x y with
  | true=>exact .inl (.inl rfl)
  | false=>exact .inr (.inl (.inl (zlb ha hs)))
theorem zqZ{x y:Ent}{i j:Nat}(h:ltT x i y j=true):ltT y j x i=false:=by
 cases h2:ltT y j x i with
 | false=>rfl
 | true=>have:=zhk h h2;rw[zcp] at this;cases this
def lessS(a b:Src):Bool:=ltT a.hd a.no b.hd b.no
theorem zcL{a b:Src}(h:lessS a b=true):lessS b a=false:=zqZ h
theorem le_trans{a b c:Src}(h:lessS b a=false)(h2:lessS c b=false):lessS c a=false:=by
 cases h3:lessS c a with
 | false=>rfl
 | true =>
  rcases zpE a.hd a.no b.hd b.no with k | k | k
  ·have h4:=zhk h3 k;unfold lessS at h2;rw[h4] at h2;cases h2
  ·unfold lessS at h;rw[k] at h;cases h
  ·have h4:ltT c.hd c.no b.hd b.no=true:=by
    unfold lessS at h3;rw[zck] at h3 ⊢;rcases h3 with h3 | h3
    ·exact .inl (zfn h3 k.1)
    ·exact .inr ⟨zbW h3.1 k.1,by omega⟩
   unfold lessS at h2;rw[h4] at h2;cases h2
def zeroS:Src:=⟨.slice none 0 0,[],0⟩
def sN(hs:List Src)(i:Nat):Src:=hs.getD i zeroS
theorem sN_eq{hs:List Src}{i:Nat}(h:i<hs.length):sN hs i=hs[i]:=by simp[sN,List.getD,List.getElem?_eq_getElem h]
theorem zkI{hs:List Src}{i:Nat}(h:i<hs.length):sN hs i∈hs:=by rw[sN_eq h];exact List.getElem_mem h
def swapS(hs:List Src)(i j:Nat):List Src:=(hs.set i (sN hs j)).set j (sN hs i)
theorem zbO(hs:List Src)(i j:Nat):(swapS hs i j).length=hs.length:=by simp[swapS]
theorem zeu{hs:List Src}{i j k:Nat}(hi:i<hs.length)(hj:j<hs.length):sN (swapS hs i j) k=if k=j then sN hs i else if k=i then sN hs j else sN hs k:=by
 unfold swapS;by_cases hk:k<hs.length
 ·rw[sN_eq (by simpa using hk)];simp only[List.getElem_set];by_cases h1:k=j
  ·subst h1;simp
  ·have h1':¬ j=k:=fun e=>h1 e.symm
   by_cases h2:k=i
   ·subst h2;simp[h1,h1']
   ·have h2':¬ i=k:=fun e=>h2 e.symm
    simp[h1,h1',h2,h2',sN_eq hk]
 ·rw[if_neg (by omega),if_neg (by omega)];unfold sN List.getD;rw[List.getElem?_eq_none (by simpa using hk),List.getElem?_eq_none (by omega)]
theorem zbw{hs:List Src}{i j:Nat}(hi:i<hs.length)(hj:j<hs.length):(swapS hs i j).Perm hs:=by
 have h:=Array.swap_perm (xs:=hs.toArray) (i:=i) (j:=j) (by simpa using hi) (by simpa using hj);rw[Array.perm_iff_toList_perm] at h;have e:(hs.toArray.swap i j (by simpa using hi) (by simpa using hj)).toList=swapS hs i j:=by
  simp[Array.swap,swapS,sN_eq hi,sN_eq hj]
 rw[e] at h;exact h
def HP(hs:List Src)(n:Nat):Prop:=∀ k,0<k→k<n→lessS (sN hs k) (sN hs ((k-1) / 2))=false
def upOk(hs:List Src)(j:Nat):Prop :=
 (∀ k,0<k→k<hs.length→k≠j→lessS (sN hs k) (sN hs ((k-1) / 2))=false)∧(∀ k,0<k→k<hs.length→(k-1) / 2=j→0<j→lessS (sN hs k) (sN hs ((j-1) / 2))=false)
theorem up_step{hs:List Src}{j:Nat}(hj:j<hs.length)(hj0:0<j)(h:upOk hs j)(hl:lessS (sN hs j) (sN hs ((j-1) / 2))=true):upOk (swapS hs ((j-1) / 2) j) ((j-1) / 2):=by
 obtain⟨h1,h2⟩:=h;obtain⟨i,hi⟩:∃ i,i=(j-1) / 2:=⟨_,rfl⟩;rw[← hi] at hl h2 ⊢;have hil:i<hs.length:=by omega
 have S:=fun k=>zeu (hs:=hs) (i:=i) (j:=j) (k:=k) hil hj
 refine⟨fun k hk0 hk hki=>?_,fun k hk0 hk hkp hi0=>?_⟩
 ·rw[zbO] at hk;by_cases hkj:k=j
  ·subst hkj;rw[← hi,S k,if_pos rfl,S i,if_neg (by omega),if_pos rfl];exact zcL hl
  ·rw[S k,if_neg hkj,if_neg hki];by_cases hp:(k-1) / 2=j
   ·rw[hp,S j,if_pos rfl];exact h2 k hk0 hk hp hj0
   ·by_cases hp2:(k-1) / 2=i
    ·rw[hp2,S i,if_neg (by omega),if_pos rfl];have h3:=h1 k hk0 hk hkj;rw[hp2] at h3;exact le_trans (zcL hl) h3
    ·rw[S _,if_neg hp,if_neg hp2];exact h1 k hk0 hk hkj
 ·rw[zbO] at hk;have hgp:(i-1) / 2≠j∧(i-1) / 2≠i:=by omega
  rw[S ((i-1) / 2),if_neg hgp.1,if_neg hgp.2];have h3:=h1 i hi0 hil (by omega);by_cases hkj:k=j
  ·subst hkj;rw[S k,if_pos rfl];exact h3
  ·rw[S k,if_neg hkj,if_neg (by omega)];have h4:=h1 k hk0 hk hkj;rw[hkp] at h4;exact le_trans h3 h4
theorem up_zero{hs:List Src}(h:upOk hs 0):HP hs hs.length:=fun k hk0 hk=>h.1 k hk0 hk (by omega)
theorem up_stop{hs:List Src}{j:Nat}(h:upOk hs j)(hl:lessS (sN hs j) (sN hs ((j-1) / 2))=false):HP hs hs.length:=fun k hk0 hk=>by
 by_cases hkj:k=j
 ·subst hkj;exact hl
 ·exact h.1 k hk0 hk hkj
theorem zkG{hs:List Src}{s:Src}{k:Nat}(h:k<hs.length):sN (hs++[s]) k=sN hs k:=by
 rw[sN_eq h,sN_eq (by simp;omega)];exact List.getElem_append_left h
theorem up_push{hs:List Src}(s:Src)(h:HP hs hs.length):upOk (hs++[s]) hs.length:=by
 refine⟨fun k hk0 hk hkn=>?_,fun k hk0 hk hkp h0=>?_⟩
 ·rw[List.length_append] at hk;simp at hk;rw[zkG (by omega),zkG (by omega)];exact h k hk0 (by omega)
 ·rw[List.length_append] at hk;simp at hk;omega
def dnOk(hs:List Src)(i n:Nat):Prop :=
 (∀ k,0<k→k<n→(k-1) / 2≠i→lessS (sN hs k) (sN hs ((k-1) / 2))=false)∧(∀ k,0<k→k<n→(k-1) / 2=i→0<i→lessS (sN hs k) (sN hs ((i-1) / 2))=false)
theorem zlZ{hs:List Src}{i j n:Nat}(hn:n≤hs.length)(hj:j<n)(hjp:j=2*i+1∨j=2*i+2)(h:dnOk hs i n)(hc:∀ k,k<n→k=2*i+1∨k=2*i+2→lessS (sN hs k) (sN hs j)=false)
 (hl:lessS (sN hs j) (sN hs i)=true):dnOk (swapS hs i j) j n:=by
 obtain⟨h1,h2⟩:=h;have hil:i<hs.length:=by omega
 have hjl:j<hs.length:=by omega
 have S:=fun k=>zeu (hs:=hs) (i:=i) (j:=j) (k:=k) hil hjl
 refine⟨fun k hk0 hk hkp=>?_,fun k hk0 hk hkp _=>?_⟩
 ·by_cases hkj:k=j
  ·subst hkj;rw[show (k-1) / 2=i by omega,S k,if_pos rfl,S i,if_neg (by omega),if_pos rfl];exact zcL hl
  ·by_cases hki:k=i
   ·subst hki;rw[S k,if_neg hkj,if_pos rfl,S _,if_neg hkp,if_neg (by omega)];exact h2 j (by omega) hj (by omega) hk0
   ·rw[S k,if_neg hkj,if_neg hki];by_cases hp:(k-1) / 2=i
    ·rw[hp,S i,if_neg (by omega),if_pos rfl];exact hc k hk (by omega)
    ·rw[S _,if_neg hkp,if_neg hp];exact h1 k hk0 hk hp
 ·rw[show (j-1) / 2=i by omega,S k,if_neg (by omega),if_neg (by omega),S i,if_neg (by omega),if_pos rfl];have:=h1 k hk0 hk (by omega);rw[hkp] at this;exact this
theorem dn_end{hs:List Src}{i n:Nat}(h:dnOk hs i n)(hj:n≤2*i+1):HP hs n:=fun k hk0 hk=>h.1 k hk0 hk (by omega)
theorem zld{hs:List Src}{i j n:Nat}(h:dnOk hs i n)(hc:∀ k,k<n→k=2*i+1∨k=2*i+2→lessS (sN hs k) (sN hs j)=false)(hl:lessS (sN hs j) (sN hs i)=false):HP hs n:=fun k hk0 hk=>by
 by_cases hp:(k-1) / 2=i
 ·rw[hp];exact le_trans hl (hc k hk (by omega))
 ·exact h.1 k hk0 hk hp
theorem dn_root{hs:List Src}{n:Nat}(hn:hs.length=n+1)(h:HP hs hs.length):dnOk (swapS hs 0 n) 0 n:=by
 have S:=fun k=>zeu (hs:=hs) (i:=0) (j:=n) (k:=k) (by omega) (by omega)
 refine⟨fun k hk0 hk hkp=>?_,fun k _ _ _ h0=>by omega⟩;rw[S k,if_neg (by omega),if_neg (by omega),S _,if_neg (by omega),if_neg hkp];exact h k hk0 (by omega)
theorem HP_min{hs:List Src}{n:Nat}(h:HP hs n):∀ k,k<n→lessS (sN hs k) (sN hs 0)=false:=by
 intro k;induction k using Nat.strongRecOn with
 | _ k ih =>
  intro hk;by_cases h0:k=0
  ·subst h0;exact zcp _ _
  ·exact le_trans (ih ((k-1) / 2) (by omega) (by omega)) (h k (by omega) hk)
theorem HP_take{hs:List Src}{n:Nat}(hn:n≤hs.length)(h:HP hs n):HP (hs.take n) (hs.take n).length:=by
 have hl:(hs.take n).length=n:=by rw[List.length_take];omega
 have S:∀ k,k<n→sN (hs.take n) k=sN hs k:=fun k hk=>by rw[sN_eq (by omega),sN_eq (by omega)];exact List.getElem_take
 intro k hk0 hk;rw[hl] at hk;rw[S k hk,S _ (by omega)];exact h k hk0 hk
def First(ls:List (List Ent))(z:Ent):Prop:=∃ (i:Nat) (l:List Ent),ls[i]? = some l∧z∈l∧∀ (j:Nat) (m:List Ent),j<i→ls[j]? = some m→∀ u∈m,zz u z=false
theorem mrg_keep{a b:List Ent}{z:Ent}(h:z∈a):z∈mrg a b:=(zpZ _ a b (Nat.le_refl _) z).1 h
theorem zow:∀ (n:Nat) (a b:List Ent),a.length+b.length≤n→Sr a→Sr b→∀ z,z∈mrg a b↔z∈a∨(z∈b∧∀ u∈a,zz u z=false):=by
 intro n;induction n with
 | zero =>
  intro a b hn _ _ z;have ha:a=[]:=List.eq_nil_of_length_eq_zero (by omega);have hb:b=[]:=List.eq_nil_of_length_eq_zero (by omega);subst ha;subst hb;simp[mrg]
 | succ n ih =>
  intro a b hn sa sb z;match a,b with
  | [],b=>rw[mrg];simp
  | x::r,[]=>rw[mrg];simp
  | x::r,y::s =>
   have sa':=List.pairwise_cons.1 sa;have sb':=List.pairwise_cons.1 sb;have bel:∀ u∈y::s,u=y∨ahd y u=true:=fun u hu=>by
    rcases List.mem_cons.1 hu with h | h
    ·exact .inl h
    ·exact .inr (sb'.1 u h)
   have ael:∀ u∈x::r,u=x∨ahd x u=true:=fun u hu=>by
    rcases List.mem_cons.1 hu with h | h
    ·exact .inl h
    ·exact .inr (sa'.1 u h)
   cases hxy:ahd x y with
   | true =>
    rw[mrg,if_pos hxy,List.mem_cons,ih r (y::s) (by simp at hn ⊢;omega) sa'.2 sb z,List.mem_cons (a:=z) (b:=x) (l:=r)];constructor
    ·rintro (h | h | h)
     ·exact .inl (.inl h)
     ·exact .inl (.inr h)
     ·refine .inr ⟨h.1,fun u hu=>?_⟩;rcases List.mem_cons.1 hu with e | hu
      ·subst e;cases hk:zz u z with
       | false=>rfl
       | true =>
        rcases bel z h.1 with e | e
        ·subst e;exact(zbj hxy hk).elim
        ·exact(zbj (zaD hxy e) hk).elim
      ·exact h.2 u hu
    ·rintro ((h | h) | h)
     ·exact .inl h
     ·exact .inr (.inl h)
     ·exact .inr (.inr ⟨h.1,fun u hu=>h.2 u (List.mem_cons_of_mem _ hu)⟩)
   | false =>
    cases hyx:ahd y x with
    | true =>
     rw[mrg,if_neg (by rw[hxy];simp),if_pos hyx,List.mem_cons,ih (x::r) s (by simp at hn ⊢;omega) sa sb'.2 z,List.mem_cons (a:=z) (b:=y)];have hy:∀ u∈x::r,zz u y=false:=fun u hu=>by
      cases hk:zz u y with
      | false=>rfl
      | true =>
       rcases ael u hu with e | e
       ·subst e;exact(zbj hyx (zap hk)).elim
       ·exact(zbj (zaD hyx e) (zap hk)).elim
     constructor
     ·rintro (h | h | h)
      ·subst h;exact .inr ⟨.inl rfl,hy⟩
      ·exact .inl h
      ·exact .inr ⟨.inr h.1,h.2⟩
     ·rintro (h | ⟨h | h,h2⟩)
      ·exact .inr (.inl h)
      ·exact .inl h
      ·exact .inr (.inr ⟨h,h2⟩)
    | false =>
     have hs:zz x y=true:=zhx x y (by rw[hxy];simp) (by rw[hyx];simp);rw[mrg,if_neg (by rw[hxy];simp),if_neg (by rw[hyx];simp),ih (x::r) s (by simp at hn ⊢;omega) sa sb'.2 z,List.mem_cons (a:=z) (b:=y)];constructor
     ·rintro (h | h)
      ·exact .inl h
      ·exact .inr ⟨.inr h.1,h.2⟩
     ·rintro (h | ⟨h | h,h2⟩)
      ·exact .inl h
      ·subst h;have:=h2 x List.mem_cons_self;rw[hs] at this;cases this
      ·exact .inr ⟨h,h2⟩
theorem mF_iff(ls:List (List Ent))(hs:∀ l∈ls,Sr l):∀ a:List Ent,Sr a→∀ z,z∈ls.foldl mrg a↔z∈a∨(First ls z∧∀ u∈a,zz u z=false):=by
 induction ls with
 | nil =>
  intro a _ z;constructor
  ·intro h;exact .inl h
  ·rintro (h | ⟨⟨i,l,h,_⟩,_⟩)
   ·exact h
   ·simp at h
 | cons l r ih =>
  intro a sa z;have sl:=hs l List.mem_cons_self;rw[List.foldl_cons,ih (fun m hm=>hs m (List.mem_cons_of_mem _ hm)) _ (zpr _ a l (Nat.le_refl _) sa sl) z,zow _ a l (Nat.le_refl _) sa sl z];constructor
  ·rintro ((h | ⟨h1,h2⟩) | ⟨⟨i,m,hm,hz,hj⟩,h2⟩)
   ·exact .inl h
   ·exact .inr ⟨⟨0,l,rfl,h1,fun j m hj=>by omega⟩,h2⟩
   ·have hmrg:∀ u,u∈mrg a l→zz u z=false:=h2;refine .inr ⟨⟨i+1,m,hm,hz,fun j m' hj' hm' u hu=>?_⟩,fun u hu=>hmrg u (mrg_keep hu)⟩;cases j with
    | zero =>
     have:m'=l:=by simpa using hm'.symm
     subst this;cases hk:zz u z with
     | false=>rfl
     | true =>
      obtain⟨o,ho,hs2⟩:=(zpZ _ a m' (Nat.le_refl _) u).2 hu;have:=hmrg o ho;rw[zbW hs2 hk] at this;cases this
    | succ j=>exact hj j m' (by omega) (by simpa using hm') u hu
  ·rintro (h | ⟨⟨i,m,hm,hz,hj⟩,h2⟩)
   ·exact .inl (.inl h)
   ·cases i with
    | zero =>
     have:m=l:=by simpa using hm.symm
     subst this;exact .inl (.inr ⟨hz,h2⟩)
    | succ i =>
     refine .inr ⟨⟨i,m,by simpa using hm,hz,fun j m' hj' hm' u hu=>hj (j+1) m' (by omega) (by simpa using hm') u hu⟩,fun u hu=>?_⟩;rcases zi3 hu with h | h
     ·exact h2 u h
     ·exact hj 0 l (by omega) rfl u h
theorem zgV{ls:List (List Ent)}(hs:∀ l∈ls,Sr l)(z:Ent):z∈zk ls↔First ls z:=by
 unfold zk;rw[mF_iff ls hs [] List.Pairwise.nil z];simp
structure Told (ls:List (List Ent)) (hs:List Src) (P:List (Ent×Nat)) (out:List Ent):Prop where
 left:∀ s∈hs,s.es≠[]∧Sr s.es∧∃ l,ls[s.no]? = some l∧∀ e∈s.es,e∈l
 apart:(hs.map Src.no).Nodup
 part:∀ p∈P,∃ l,ls[p.2]? = some l∧p.1∈l
 all:∀ i l e,ls[i]? = some l→e∈l→(e,i)∈P∨∃ s∈hs,s.no=i∧e∈s.es
 ahead:∀ p∈P,∀ s∈hs,∀ e∈s.es,ltT p.1 p.2 e s.no=true
 sorted:Sr out
 first:∀ o∈out,∃ j,(o,j)∈P∧∀ p∈P,zz p.1 o=true→j≤p.2
 has:∀ p∈P,∃ o∈out,zz o p.1=true
theorem told_end{ls:List (List Ent)}{P:List (Ent×Nat)}{out:List Ent}(hs:∀ l∈ls,Sr l)(h:Told ls [] P out):out=zk ls:=by
 refine sr_ext _ _ h.sorted (mF_sr ls hs [] List.Pairwise.nil) fun z=>?_
 show z∈out↔z∈zk ls;rw[zgV hs];constructor
 ·intro hz;obtain⟨j,hj,hf⟩:=h.first z hz;obtain⟨l,hl,hzl⟩:=h.part _ hj;refine⟨j,l,hl,hzl,fun i m hi hm u hu=>?_⟩;cases hk:zz u z with
  | false=>rfl
  | true =>
   rcases h.all i m u hm hu with hp | ⟨s,hs',_⟩
   ·have:=hf _ hp hk;simp only at this;omega
   ·cases hs'
 ·rintro ⟨i,l,hl,hz,hf⟩;rcases h.all i l z hl hz with hp | ⟨s,hs',_⟩
  ·obtain⟨o,ho,hk⟩:=h.has _ hp;obtain⟨j,hj,hm⟩:=h.first o ho;have hji:=hm _ hp (zap hk);simp only at hji hk;obtain⟨l',hl',hol⟩:=h.part _ hj;by_cases hlt:j<i
   ·have:=hf j l' hlt hl' o hol;rw[hk] at this;cases this
   ·have:j=i:=by omega
    subst this;simp only at hl';rw[hl] at hl';obtain rfl:=Option.some.inj hl';have hks:=(zaG o z).1 hk;have:=ks_eq (hs l (List.mem_of_getElem? hl)) hol hz hks.1 hks.2;rw[← this];exact ho
  ·cases hs'
open Go.RowKit
def rdF:Nat→Nat→Nat→Nat→List UInt8→Nat×Nat
 | 0,_,_,_,_=>(0,0)
 | _+1,_,_,_,[]=>(0,0)
 | f+1,i,n,p,b::r=>if b.toNat<128 then (if 1099511627776<n+b.toNat % 128*p∨0<i∧b.toNat=0 then (0,0) else (n+b.toNat % 128*p,i+1)) else rdF f (i+1) (n+b.toNat % 128*p) (p*128) r
def rdNum(bs:List UInt8):Nat×Nat:=rdF 6 0 0 1 bs
theorem zpV(f i n p:Nat)(bs:List UInt8)(k:Nat)(h:bs.length≤k):rdF f i n p (bs.drop k)=(0,0):=by
 rw[List.drop_eq_nil_of_le h];cases f<;>rfl
theorem zne(f i n p k b:Nat)(bs:List UInt8)(h:k<bs.length)(hb:b=bs[k].toNat)(h1:128≤b):rdF (f+1) i n p (bs.drop k)=rdF f (i+1) (n+b % 128*p) (p*128) (bs.drop (k+1)):=by
 subst hb;rw[List.drop_eq_getElem_cons h,rdF,if_neg (by omega)]
theorem zme(f i n p k b:Nat)(bs:List UInt8)(h:k<bs.length)(hb:b=bs[k].toNat)(h1:b<128)(h2:1099511627776<n+b % 128*p∨0<i∧b=0):rdF (f+1) i n p (bs.drop k)=(0,0):=by
 subst hb;rw[List.drop_eq_getElem_cons h,rdF,if_pos h1,if_pos h2]
theorem ziB(f i n p k b:Nat)(bs:List UInt8)(h:k<bs.length)(hb:b=bs[k].toNat)(h1:b<128)(h2:¬ (1099511627776<n+b % 128*p∨0<i∧b=0)):rdF (f+1) i n p (bs.drop k)=(n+b % 128*p,i+1):=by
 subst hb;rw[List.drop_eq_getElem_cons h,rdF,if_pos h1,if_neg h2]
theorem rdF_len(f:Nat):∀ (i n p:Nat) (bs:List UInt8),(rdF f i n p bs).2≤i+bs.length∧(rdF f i n p bs).1≤1099511627776∧(rdF f i n p bs).2≤i+f:=by
 induction f with
 | zero=>intro i n p bs;simp[rdF]
 | succ f ih =>
  intro i n p bs;cases bs with
  | nil=>simp[rdF]
  | cons b r =>
   rw[rdF];split
   ·split
    ·simp
    ·simp only[List.length_cons];omega
   ·have:=ih (i+1) (n+b.toNat % 128*p) (p*128) r;simp only[List.length_cons];omega
theorem zag(bs:List UInt8):(rdNum bs).2≤bs.length∧(rdNum bs).1≤1099511627776∧(rdNum bs).2≤6:=by have:=rdF_len 6 0 0 1 bs;unfold rdNum;omega
theorem mul_le(b p:Nat):b % 128*p≤127*p:=Nat.mul_le_mul_right p (by omega)
open Go.RowKit
theorem zD(v:Value)(bs:List UInt8)(w:World)(hr:Rd w v bs) :
 Calls Tryz.prog 198 #[v] w fun e w'=>e=.returned (.tuple #[.int .i64 ((rdNum bs).1:Int),.int .i64 ((rdNum bs).2:Int)])∧w'=w:=by
 obtain⟨R,hR⟩:∃ R,R=rdNum bs:=⟨_,rfl⟩;rw[← hR];obtain⟨a,cap,rfl,hl,hm,hA⟩:=hr;unfold maxLen at hm;go_enter Tryz.func198,Tryz.ntmps198
 go_wp2;go_loop [4,5,6] (fun n p i=>∃ k m q:Nat,k≤6∧k≤bs.length∧i=.int .i64 k∧n=.int .i64 m∧p=.int .i64 q∧m<q∧q≤4398046511104∧(k<6→q≤34359738368)∧Hid (q=128 ^ k∧R=rdF (6-k) k m q (bs.drop k))) (fun _ _ i=>6-(intOf i).toNat)
 case atStart=>exact⟨0,0,1,by omega,by omega,rfl,rfl,rfl,by omega,by omega,by omega,rfl,hR⟩
 case round =>
  obtain⟨k,m,q,hk6,hk,rfl,rfl,rfl,hmq,hq,hq6,HR⟩:=hrel;by_cases hlt:k<bs.length
  ·by_cases h6:k<6
   ·obtain⟨b0,off,ha,hc⟩:∃ b0 off,a=some ⟨b0,off,none⟩∧w.cell? ⟨b0,off+k,none⟩=some (.int .u8 (bs[k].toNat:Int)):=by
     rcases hA with h | ⟨b,off,ha,hc⟩
     ·subst h;simp at hlt
     ·exact⟨b,off,ha,hc k hlt⟩
    rw[ha];obtain⟨b,hb⟩:∃ b,b=bs[k].toNat:=⟨_,rfl⟩;rw[← hb] at hc;have hb8:b<256:=by rw[hb];exact UInt8.toNat_lt _
    have Hb:Hid (b=bs[k].toNat):=hb;have hml:=mul_le b q;have hq7:=hq6 h6;obtain⟨d,hd⟩:∃ d,d=b % 128*q:=⟨_,rfl⟩;have Hd:Hid (d=b % 128*q):=hd;have hx:(b:Int) % 128*(q:Int)=(d:Int):=by rw[hd,Int.natCast_mul,Int.natCast_emod];rfl
    rw[← hd] at hml;clear hA hR ha hq6 hd hb;by_cases hb7:b<128
    ·by_cases h40:1099511627776<m+d
     ·have hfin:R=(0,0):=by
       have h:=HR.out.2;rw[show 6-k=(5-k)+1 by omega] at h;rw[h,zme _ _ _ _ _ b bs hlt Hb.out hb7 (by rw[← Hd.out];exact .inl h40)]
      have HF:Hid (R=(0,0)):=hfin;clear hfin;go_wp2;go_ret2
      exact⟨by rw[HF.out];rfl,rfl⟩
     ·by_cases hk0:0<k
      ·by_cases hb0:b=0
       ·have hfin:R=(0,0):=by
         have h:=HR.out.2;rw[show 6-k=(5-k)+1 by omega] at h;rw[h,zme _ _ _ _ _ b bs hlt Hb.out hb7 (.inr ⟨hk0,hb0⟩)]
        have HF:Hid (R=(0,0)):=hfin;have hbz:((b:Int)==0)=true:=by simp;omega
        clear hfin hb0;go_wp2;go_ret2
        exact⟨by rw[HF.out];rfl,rfl⟩
       ·have hfin:R=(m+d,k+1):=by
         have h:=HR.out.2;rw[show 6-k=(5-k)+1 by omega] at h;rw[h,ziB _ _ _ _ _ b bs hlt Hb.out hb7 (by rw[← Hd.out];omega),← Hd.out]
        have HF:Hid (R=(m+d,k+1)):=hfin;have hbz:((b:Int)==0)=false:=by simp;omega
        clear hfin hb0;go_wp2;go_ret2
        exact⟨by rw[HF.out];rfl,rfl⟩
      ·have hfin:R=(m+d,k+1):=by
        have h:=HR.out.2;rw[show 6-k=(5-k)+1 by omega] at h;rw[h,ziB _ _ _ _ _ b bs hlt Hb.out hb7 (by rw[← Hd.out];omega),← Hd.out]
       have HF:Hid (R=(m+d,k+1)):=hfin;clear hfin;go_wp2;go_ret2
       exact⟨by rw[HF.out];rfl,rfl⟩
    ·have HN:Hid (q*128=128 ^ (k+1)∧R=rdF (6-(k+1)) (k+1) (m+d) (q*128) (bs.drop (k+1))):=by
      refine⟨by rw[HR.out.1,Nat.pow_succ],?_⟩;have h:=HR.out.2;rw[show 6-k=(6-(k+1))+1 by omega] at h;rw[h,zne _ _ _ _ _ b bs hlt Hb.out (by omega),← Hd.out]
     have hq5:k+1<6→q≤268435456:=fun hk5=>by
      have h1:=HR.out.1;have h2:(128:Nat) ^ k≤128 ^ 4:=Nat.pow_le_pow_right (by omega) (by omega);omega
     have HQ:Hid (k+1<6→q≤268435456):=hq5;clear hq5;go_wp2;go_round
     case rel=>exact⟨k+1,m+d,q*128,by omega,by omega,by go_num,by go_num,by go_num,by omega,by omega,fun h=>by have:=HQ.out h;omega,HN⟩
     case measure=>simp[intOf];omega
   ·have hfin:R=(0,0):=by
     have h:=HR.out.2;rw[show 6-k=0 by omega] at h;rw[h];rfl
    have HF:Hid (R=(0,0)):=hfin;clear hfin hR;go_wp2;go_ret2
    exact⟨by rw[HF.out];rfl,rfl⟩
  ·have hfin:R=(0,0):=by rw[HR.out.2,zpV _ _ _ _ _ _ (by omega)]
   have HF:Hid (R=(0,0)):=hfin;clear hfin hR;go_wp2;go_ret2
   exact⟨by rw[HF.out];rfl,rfl⟩
open Go.RowKit
def zr(bs:List UInt8):List UInt8×Nat :=
 if (rdNum bs).2=0∨3000<(rdNum bs).1∨bs.length<(rdNum bs).2+(rdNum bs).1 then ([],0) else ((bs.drop (rdNum bs).2).take (rdNum bs).1,(rdNum bs).2+(rdNum bs).1)
theorem ziT(bs:List UInt8)(k n:Nat)(h:k+n≤bs.length):((bs.drop k).take n).length=n:=by rw[List.length_take,List.length_drop];omega
theorem zmB(w:World)(b off k n c:Nat)(bs:List UInt8)(h:k+n≤bs.length)(hc:∀ i (h:i<bs.length),w.cell? ⟨b,off+i,none⟩=some (.int .u8 (bs[i].toNat:Int))) :
 (convert 105 9 (.slice (some ⟨b,off+k,none⟩) n c)).run Tryz.prog w=.ok (.string ⟨((bs.drop k).take n).toArray⟩) w :=
 zhd w b (off+k) n c _ (ziT bs k n h) fun j hj=>by
  rw[ziT bs k n h] at hj;have:=hc (k+j) (by omega);rw[← Nat.add_assoc] at this;rw[this];simp
theorem zkq(w:World)(b off n c:Nat)(h:n=0)(l:List UInt8)(hl:l=[]):(convert 105 9 (.slice (some ⟨b,off,none⟩) n c)).run Tryz.prog w=.ok (.string ⟨l.toArray⟩) w:=by
 subst h;subst hl;exact zhd w b off 0 c [] rfl fun j hj=>by simp at hj
theorem zv(v:Value)(bs:List UInt8)(w:World)(hr:Rd w v bs) :
 Calls Tryz.prog 199 #[v] w fun e w'=>e=.returned (.tuple #[.string ⟨(zr bs).1.toArray⟩,.int .i64 ((zr bs).2:Int)])∧w'=w:=by
 have hlen:=zag bs;obtain⟨T,hT⟩:∃ T,T=zr bs:=⟨_,rfl⟩;rw[← hT];have HN:=zD v bs w hr;unfold zr at hT;obtain⟨n,hn⟩:∃ n,n=(rdNum bs).1:=⟨_,rfl⟩;obtain⟨k,hk⟩:∃ k,k=(rdNum bs).2:=⟨_,rfl⟩;rw[← hn,← hk] at hlen HN hT;clear hn hk;have HT:Hid (T=if k=0∨3000<n∨bs.length<k+n then ([],0) else ((bs.drop k).take n,k+n)):=hT;have HC:Hid (Calls _ _ _ _ _):=HN;clear HN hT;obtain⟨a,cap,hv,hl,hm,hA⟩:=hr;unfold maxLen at hm;subst hv;by_cases h0:k=0
 ·have HF:Hid (T=([],0)):=by rw[if_pos (.inl h0)] at HT;exact HT
  have hk0:((k:Int)==0)=true:=by simp;omega
  clear hA h0 HT;go_enter Tryz.func199,Tryz.ntmps199
  go_wp2_with fail
  refine HC.out.mono ?_;rintro e w1 ⟨rfl,rfl⟩;go_wp2;go_ret2
  exact⟨by rw[HF.out];rfl,rfl⟩
 have hk0:((k:Int)==0)=false:=by simp;omega
 by_cases h1:3000<n
 ·have HF:Hid (T=([],0)):=by rw[if_pos (.inr (.inl h1))] at HT;exact HT
  clear hA HT;go_enter Tryz.func199,Tryz.ntmps199
  go_wp2_with fail
  refine HC.out.mono ?_;rintro e w1 ⟨rfl,rfl⟩;go_wp2;go_ret2
  exact⟨by rw[HF.out];rfl,rfl⟩
 by_cases h2:bs.length<k+n
 ·have HF:Hid (T=([],0)):=by rw[if_pos (.inr (.inr h2))] at HT;exact HT
  clear hA HT;go_enter Tryz.func199,Tryz.ntmps199
  go_wp2_with fail
  refine HC.out.mono ?_;rintro e w1 ⟨rfl,rfl⟩;go_wp2;go_ret2
  exact⟨by rw[HF.out];rfl,rfl⟩
 have HF:Hid (T=((bs.drop k).take n,k+n)):=by rw[if_neg (by omega)] at HT;exact HT
 have hz:bs≠[]:=by intro h;subst h;simp at h2;omega
 rcases hA with h | ⟨b,off,rfl,hc⟩
 ·exact absurd h hz
 generalize hl':(bs.drop k).take n=l at HF;have HL:Hid ((bs.drop k).take n=l):=hl';clear hl' hz HT;by_cases hcap:cap=k
 ·have hcv:=zkq w b off n 0 (by omega) l (by have h:=ziT bs k n (by omega);rw[HL.out] at h;exact List.length_eq_zero_iff.1 (by omega));clear hc;subst hcap;go_enter Tryz.func199,Tryz.ntmps199
  go_wp2_with fail
  refine HC.out.mono ?_;rintro e w1 ⟨rfl,rfl⟩;go_wp2;go_ret2
  exact⟨by rw[HF.out];simp,rfl⟩
 ·have hcv:=zmB w b off k n (cap-k) bs (by omega) hc;rw[HL.out] at hcv;clear hc;go_enter Tryz.func199,Tryz.ntmps199
  go_wp2_with fail
  refine HC.out.mono ?_;rintro e w1 ⟨rfl,rfl⟩;go_wp2;go_ret2
  exact⟨by rw[HF.out];simp,rfl⟩
theorem zmL(n:Nat):enc n≠[]:=by
 by_cases h:n<128
 ·rw[za5 n h];simp
 ·rw[zfv n (by omega)];simp
theorem zfo(bs:List UInt8):(zr bs).2≤bs.length:=by
 have:=zag bs;unfold zr;split
 ·simp
 ·simp only;omega
theorem zmm(n:Nat)(h:n<128):(UInt8.ofNat n).toNat=n:=by rw[UInt8.toNat_ofNat'];omega
theorem zpJ(n:Nat):(UInt8.ofNat (n % 128+128)).toNat=n % 128+128:=by rw[UInt8.toNat_ofNat'];omega
theorem zkk(n p:Nat):n % 128*p+n / 128*(p*128)=n*p:=by
 have h:n % 128+n / 128*128=n:=by omega
 have e:n / 128*(p*128)=n / 128*128*p:=by rw[Nat.mul_comm p 128,Nat.mul_assoc]
 rw[e,← Nat.add_mul,h]
theorem zgy(f i m p:Nat)(b:UInt8)(r:List UInt8):rdF (f+1) i m p (b::r)=if b.toNat<128 then (if 1099511627776<m+b.toNat % 128*p∨0<i∧b.toNat=0 then (0,0) else (m+b.toNat % 128*p,i+1)) else rdF f (i+1) (m+b.toNat % 128*p) (p*128) r:=rfl
theorem rdF_enc(f:Nat):∀ (i m p n:Nat) (r:List UInt8),n<128 ^ (f+1)→(0<i→0<n)→m+n*p≤1099511627776→rdF (f+1) i m p (enc n++r)=(m+n*p,i+(enc n).length):=by
 induction f with
 | zero =>
  intro i m p n r h hi hm;have hn:n<128:=by simpa using h
  rw[za5 n hn,List.singleton_append,zgy,zmm n hn,if_pos hn,Nat.mod_eq_of_lt hn,if_neg (by omega)];rfl
 | succ f ih =>
  intro i m p n r h hi hm;by_cases hn:n<128
  ·rw[za5 n hn,List.singleton_append,zgy,zmm n hn,if_pos hn,Nat.mod_eq_of_lt hn,if_neg (by omega)];rfl
  ·have hs:=zkk n p;rw[zfv n (by omega),List.cons_append,zgy,zpJ,if_neg (by omega),show (n % 128+128) % 128=n % 128 by omega];rw[ih (i+1) (m+n % 128*p) (p*128) (n / 128) r (by rw[Nat.pow_succ] at h;omega) (by omega) (by omega),List.length_cons];have e1:m+n % 128*p+n / 128*(p*128)=m+n*p:=by omega
   have e2:i+1+(enc (n / 128)).length=i+((enc (n / 128)).length+1):=by omega
   rw[e1,e2]
theorem zdr(n:Nat)(r:List UInt8)(h:n≤1099511627776):rdNum (enc n++r)=(n,(enc n).length):=by
 have:=rdF_enc 5 0 0 1 n r (by omega) (by omega) (by omega);unfold rdNum;rw[this];simp
theorem zbL(n:Nat):0<(enc n).length:=List.length_pos_iff.2 (zmL n)
theorem zfA(s:ByteArray)(r:List UInt8)(h:s.size≤3000):zr ((enc s.size++s.data.toList)++r)=(s.data.toList,(enc s.size++s.data.toList).length):=by
 have hp:=zbL s.size;unfold zr;rw[List.append_assoc,zdr s.size _ (by omega)];simp only;rw[if_neg (by simp only[List.length_append,ze];omega),List.drop_left,List.take_append_of_le_length (by rw[ze];omega),List.take_of_length_le (by rw[ze];omega),List.length_append,ze]
theorem back(s:ByteArray):(⟨s.data.toList.toArray⟩:ByteArray)=s:=by cases s;simp
theorem zeF(b:UInt8):UInt8.ofNat b.toNat=b:=by simp
theorem rdF_back(f:Nat):∀ (i m p:Nat) (bs:List UInt8),(rdF f i m p bs).2≠0→∃ n j,rdF f i m p bs=(m+n*p,i+j)∧bs.take j=enc n∧(0<i→0<n)∧j=(enc n).length:=by
 induction f with
 | zero=>intro i m p bs h;exact absurd rfl h
 | succ f ih =>
  intro i m p bs h;cases bs with
  | nil=>exact absurd rfl h
  | cons b r =>
   rw[zgy] at h ⊢;by_cases hb:b.toNat<128
   ·rw[if_pos hb] at h ⊢;by_cases hc:1099511627776<m+b.toNat % 128*p∨0<i∧b.toNat=0
    ·rw[if_pos hc] at h;exact absurd rfl h
    ·rw[if_neg hc,Nat.mod_eq_of_lt hb];refine⟨b.toNat,1,rfl,?_,by omega,?_⟩
     ·rw[za5 _ hb,zeF];rfl
     ·rw[za5 _ hb];rfl
   ·rw[if_neg hb] at h ⊢;obtain⟨n,j,h1,h2,h3,h4⟩:=ih _ _ _ _ h;have hn:=h3 (by omega);have hb8:=UInt8.toNat_lt b;have e1:(b.toNat % 128+128*n) % 128=b.toNat % 128:=by omega
    have e2:(b.toNat % 128+128*n) / 128=n:=by omega
    have e3:b.toNat % 128+128=b.toNat:=by omega
    have hE:enc (b.toNat % 128+128*n)=b::enc n:=by rw[zfv _ (by omega),e1,e2,e3,zeF]
    have hs:=zkk (b.toNat % 128+128*n) p;rw[e1,e2] at hs;refine⟨b.toNat % 128+128*n,j+1,?_,?_,by omega,?_⟩
    ·rw[h1];have a1:m+b.toNat % 128*p+n*(p*128)=m+(b.toNat % 128+128*n)*p:=by omega
     have a2:i+1+j=i+(j+1):=by omega
     rw[a1,a2]
    ·rw[List.take_succ_cons,h2,hE]
    ·rw[hE,List.length_cons,h4]
theorem zcw(bs:List UInt8)(h:(rdNum bs).2≠0):bs.take (rdNum bs).2=enc (rdNum bs).1∧(rdNum bs).2=(enc (rdNum bs).1).length:=by
 obtain⟨n,j,h1,h2,_,h4⟩:=rdF_back 6 0 0 1 bs h;have e:rdNum bs=(n,j):=by unfold rdNum;rw[h1];simp
 rw[e];exact⟨h2,h4⟩
theorem zes(bs:List UInt8)(h:(zr bs).2≠0):(zr bs).1.length≤3000∧bs.take (zr bs).2=enc (zr bs).1.length++(zr bs).1∧(zr bs).2≤bs.length:=by
 have hl:=zfo bs;unfold zr at h hl ⊢;by_cases hc:(rdNum bs).2=0∨3000<(rdNum bs).1∨bs.length<(rdNum bs).2+(rdNum bs).1
 ·rw[if_pos hc] at h;exact absurd rfl h
 ·rw[if_neg hc] at hl ⊢;simp only at hl ⊢;have hb:=zcw bs (by omega);have hlen:((bs.drop (rdNum bs).2).take (rdNum bs).1).length=(rdNum bs).1:=by rw[List.length_take,List.length_drop];omega
  rw[hlen];refine⟨by omega,?_,hl⟩;rw[List.take_add,hb.1]
end Go.Proofs.YtannfbpohhnnkaaGreatDoor
