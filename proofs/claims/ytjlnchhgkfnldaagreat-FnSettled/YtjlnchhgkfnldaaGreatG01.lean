import Derived.WalkKit
import Derived.Test.YtjlnchhgkfnldaaGreatG00
import Derived.Deep.RegionLaw
import Derived.BigQuiet
import Derived.Laws.Cover1
import Derived.Deep.RegionWith
import Derived.Deep.RegionHeld3
namespace Go.Proofs.YtjlnchhgkfnldaaGreat
set_option maxHeartbeats 16000000
set_option maxRecDepth 100000
structure Ent where
 key:ByteArray
 val:ByteArray
 seq:Int
 gone:Bool
deriving DecidableEq
instance:Inhabited Ent:=⟨⟨ByteArray.empty,ByteArray.empty,0,false⟩⟩
def nth(es:List Ent)(i:Nat):Ent:=es.getD i default
theorem zU{es:List Ent}{i:Nat}(h:i<es.length):nth es i=es[i]:=by simp[nth,List.getD,List.getElem?_eq_getElem h]
theorem zb4(a:Ent)(r:List Ent):nth (a::r) 0=a:=rfl
theorem ziG(a:Ent)(r:List Ent)(i:Nat):nth (a::r) (i+1)=nth r i:=by simp[nth,List.getD]
def kEq(a b:ByteArray):Bool:=decide (a=b)
def kLt(a b:ByteArray):Bool:=Op.bytesLess a.toList b.toList
theorem ziW:∀ x:List UInt8,Op.bytesLess x x=false
 | []=>rfl
 | a::x=>by simp[Op.bytesLess,ziW x,UInt8.lt_irrefl]
theorem zlX:∀ x y z:List UInt8,Op.bytesLess x y=true→Op.bytesLess y z=true→Op.bytesLess x z=true
 | _,[],_,h,_=>by simp[Op.bytesLess] at h
 | _,_::_,[],_,h=>by simp[Op.bytesLess] at h
 | [],_::_,_::_,_,_=>rfl
 | a::x,b::y,c::z,h,k=>by
  simp only[Op.bytesLess,Bool.or_eq_true,decide_eq_true_eq,Bool.and_eq_true,beq_iff_eq] at h k ⊢;rcases h with h | ⟨h,h'⟩<;>rcases k with k | ⟨k,k'⟩
  ·exact .inl (UInt8.lt_trans h k)
  ·subst k;exact .inl h
  ·subst h;exact .inl k
  ·subst h;subst k;exact .inr ⟨rfl,zlX x y z h' k'⟩
theorem bl_tri:∀ x y:List UInt8,Op.bytesLess x y=false→Op.bytesLess y x=false→x=y
 | [],[],_,_=>rfl
 | [],_::_,h,_=>by simp[Op.bytesLess] at h
 | _::_,[],_,h=>by simp[Op.bytesLess] at h
 | a::x,b::y,h,k=>by
  simp only[Op.bytesLess,Bool.or_eq_false_iff,decide_eq_false_iff_not,Bool.and_eq_false_iff,decide_eq_false_iff_not] at h k;have hab:a=b:=by
   apply UInt8.toNat_inj.1;have h1:=h.1;have k1:=k.1;rw[UInt8.lt_iff_toNat_lt] at h1 k1;omega
  subst hab;rcases h.2 with h2 | h2
  ·simp at h2
  ·rcases k.2 with k2 | k2
   ·simp at k2
   ·rw[bl_tri x y h2 k2]
theorem zcc{a b:ByteArray}(h:a.toList=b.toList):a=b:=by
 have e:∀ c:ByteArray,c.toList=c.data.toList:=fun c=>ByteArray.toList_eq c
 rw[e,e] at h;cases a;cases b;simp_all
theorem zab(a:ByteArray):kLt a a=false:=ziW _
theorem zeO{a b c:ByteArray}(h:kLt a b=true)(k:kLt b c=true):kLt a c=true:=zlX _ _ _ h k
theorem zle{a b:ByteArray}(h:kLt a b=false)(k:kLt b a=false):a=b:=zcc (bl_tri _ _ h k)
def ahd(a b:Ent):Bool:=kLt a.key b.key||(kEq a.key b.key&&decide (b.seq<a.seq))
def zP(a b:Ent):Bool:=kEq a.key b.key&&decide (a.seq=b.seq)
theorem za9(a b:Ent):ahd a b=true↔kLt a.key b.key=true∨(a.key=b.key∧b.seq<a.seq):=by simp[ahd,kEq]
theorem zaR{a b c:Ent}(h:ahd a b=true)(k:ahd b c=true):ahd a c=true:=by
 rw[za9] at h k ⊢;rcases h with h | ⟨h,h'⟩<;>rcases k with k | ⟨k,k'⟩
 ·exact .inl (zeO h k)
 ·exact .inl (k ▸ h)
 ·exact .inl (h ▸ k)
 ·exact .inr ⟨h.trans k,by omega⟩
theorem zbl(a:Ent):ahd a a=false:=by simp[ahd,kEq,zab]
theorem zkJ{a b:Ent}(h:ahd a b=false)(k:zP a b=false):ahd b a=true:=by
 rw[za9];have h1:kLt a.key b.key=false:=by cases e:kLt a.key b.key with | false=>rfl | true=>simp[ahd,kEq,e] at h
 cases e:kLt b.key a.key with
 | true=>exact .inl rfl
 | false =>
  have hk:=zle h1 e;refine .inr ⟨hk.symm,?_⟩;simp[ahd,kEq,hk,zab] at h;simp[zP,kEq,hk] at k;omega
def cmpK(a b:ByteArray):Int:=if kLt a b=true then -1 else if kLt b a=true then 1 else 0
def cmpI(a b:Int):Int:=if a<b then -1 else if b<a then 1 else 0
def ordE(a b:Ent):Int:=if cmpK a.key b.key≠0 then cmpK a.key b.key else cmpI b.seq a.seq
theorem cmpK_neg(a b:ByteArray):cmpK a b<0↔kLt a b=true:=by unfold cmpK;split<;>(try split)<;>simp_all
theorem zeR(a b:ByteArray):cmpK a b=0↔a=b:=by
 unfold cmpK;constructor
 ·intro h;split at h
  ·omega
  ·split at h
   ·omega
   ·exact zle (by simp_all) (by simp_all)
 ·rintro rfl;simp[zab]
theorem zfT(a b:Ent):ordE a b<0↔ahd a b=true:=by
 rw[za9];unfold ordE;by_cases h:cmpK a.key b.key=0
 ·rw[if_neg (by simp[h])];have hk:=(zeR _ _).1 h;rw[hk];unfold cmpI;split
  ·simp_all
  ·simp[zab];split<;>omega
 ·rw[if_pos h,cmpK_neg];have hk:a.key≠b.key:=fun e=>h ((zeR _ _).2 e)
  simp[hk]
theorem zdr(a b:Ent):ordE a b=0↔zP a b=true:=by
 unfold ordE zP;by_cases h:cmpK a.key b.key=0
 ·rw[if_neg (by simp[h])];have hk:=(zeR _ _).1 h;simp only[hk,kEq,decide_true,Bool.true_and,decide_eq_true_eq];unfold cmpI;split
  ·omega
  ·split<;>omega
 ·rw[if_pos h];have hk:a.key≠b.key:=fun e=>h ((zeR _ _).2 e)
  simp[kEq,hk,h]
def okE(e:Ent):Bool:=decide (1≤e.key.size)&&decide (e.key.size≤40)&&decide (e.val.size≤200)&&(!e.gone||decide (e.val.size=0))&&decide (1≤e.seq)&&decide (e.seq≤1000000)
def okAt(es:List Ent)(i:Nat):Bool:=okE (nth es i)&&(decide (i=0)||ahd (nth es (i-1)) (nth es i))
def okTo(es:List Ent)(k:Nat):Bool:=(List.range k).all (okAt es)
def okL(es:List Ent):Bool:=decide (es.length≤300)&&okTo es es.length
theorem zeQ(es:List Ent)(k:Nat):okTo es (k+1)=(okTo es k&&okAt es k):=by simp[okTo,List.range_succ]
theorem zkK{es:List Ent}{k i:Nat}(h:okTo es k=true)(hi:i<k):okAt es i=true:=by
 rw[okTo,List.all_eq_true] at h;exact h i (List.mem_range.2 hi)
theorem okTo_no{es:List Ent}{k i:Nat}(hi:i<k)(h:okAt es i=false):okTo es k=false:=by
 cases e:okTo es k with
 | false=>rfl
 | true=>rw[zkK e hi] at h;cases h
theorem zeC{es:List Ent}{i:Nat}(hi:i<es.length)(h:okAt es i=false):okL es=false:=by
 unfold okL;rw[okTo_no hi h];simp
theorem zad{es:List Ent}(h:okL es=true):es.length≤300:=by simp[okL] at h;exact h.1
theorem okL_to{es:List Ent}(h:okL es=true):okTo es es.length=true:=by simp[okL] at h;exact h.2
theorem zie{es:List Ent}(h:okL es=true){i:Nat}(hi:i<es.length):okE (nth es i)=true:=by
 have:=zkK (okL_to h) hi;simp[okAt] at this;exact this.1
theorem zlq{es:List Ent}(h:okL es=true){i:Nat}(hi:i+1<es.length):ahd (nth es i) (nth es (i+1))=true:=by
 have:=zkK (okL_to h) hi;simp[okAt] at this;simpa using this.2
theorem okL_lt{es:List Ent}(h:okL es=true):∀ (d i:Nat),i+d+1<es.length→ahd (nth es i) (nth es (i+d+1))=true
 | 0,i,hi=>zlq h hi
 | d+1,i,hi=>zaR (okL_lt h d i (by omega)) (zlq h hi)
theorem zbS{es:List Ent}(h:okL es=true){i j:Nat}(hij:i<j)(hj:j<es.length):ahd (nth es i) (nth es j)=true:=by
 obtain⟨d,rfl⟩:∃ d,j=i+d+1:=⟨j-i-1,by omega⟩;exact okL_lt h d i hj
theorem zaD(es:List Ent):okL es=true↔es.length≤300∧(∀ e∈es,okE e=true)∧es.Pairwise (fun a b=>ahd a b=true):=by
 constructor
 ·intro h;refine⟨zad h,fun e he=>?_,?_⟩
  ·obtain⟨i,hi,rfl⟩:=List.getElem_of_mem he;have:=zie h hi;rwa [zU hi] at this
  ·rw[List.pairwise_iff_getElem];intro i j hi hj hij;have:=zbS h hij hj;rwa [zU hi,zU hj] at this
 ·rintro ⟨h1,h2,h3⟩;rw[List.pairwise_iff_getElem] at h3;simp only[okL,okTo,Bool.and_eq_true,decide_eq_true_eq,List.all_eq_true,List.mem_range];refine⟨h1,fun i hi=>?_⟩;simp only[okAt,Bool.and_eq_true,Bool.or_eq_true,decide_eq_true_eq];refine⟨by rw[zU hi];exact h2 _ (List.getElem_mem hi),?_⟩;by_cases h0:i=0
  ·exact .inl h0
  ·right
   rw[zU hi,zU (show i-1<es.length by omega)];exact h3 _ _ (by omega) hi (by omega)
def atE(es:List Ent)(t:Ent):Nat:=(es.takeWhile (fun a=>ahd a t)).length
theorem zlV(es:List Ent)(t:Ent):atE es t≤es.length:=by
 unfold atE;exact(List.takeWhile_sublist _).length_le
theorem tw_get(p:Ent→Bool):∀ (es:List Ent) (i:Nat),i<(es.takeWhile p).length→p (nth es i)=true
 | [],i,h=>by simp at h
 | a::r,i,h=>by
  rw[List.takeWhile_cons] at h;split at h
  ·rename_i ha;match i,h with
   | 0,_=>exact ha
   | i+1,h=>rw[ziG];exact tw_get p r i (by simpa using h)
  ·simp at h
theorem zkV(p:Ent→Bool):∀ (es:List Ent),(es.takeWhile p).length<es.length→p (nth es ((es.takeWhile p).length))=false
 | [],h=>by simp at h
 | a::r,h=>by
  rw[List.takeWhile_cons] at h ⊢;split at h
  ·rename_i ha;rw[if_pos ha];rw[List.length_cons,ziG];exact zkV p r (by simpa using h)
  ·rename_i ha;rw[if_neg ha];rw[List.length_nil,zb4];simpa using ha
theorem zjg(es:List Ent)(t:Ent){i:Nat}(h:i<atE es t):ahd (nth es i) t=true:=tw_get _ es i h
theorem zhy{es:List Ent}(hs:okL es=true)(t:Ent){i:Nat}(h:atE es t≤i)(hi:i<es.length):ahd (nth es i) t=false:=by
 have h0:=zkV (fun a=>ahd a t) es (show atE es t<es.length by omega);change ahd (nth es (atE es t)) t=false at h0;by_cases he:atE es t=i
 ·rw[← he];exact h0
 ·cases e:ahd (nth es i) t with
  | false=>rfl
  | true=>rw[zaR (zbS hs (by omega) hi) e] at h0;cases h0
theorem zlx(es:List Ent)(t:Ent)(k:Nat)(hk:k≤es.length)(h1:∀ i,i<k→ahd (nth es i) t=true)(h2:k<es.length→ahd (nth es k) t=false):atE es t=k:=by
 have h3:=zlV es t;rcases Nat.lt_trichotomy (atE es t) k with h | h | h
 ·have:=zkV (fun a=>ahd a t) es (show atE es t<es.length by omega);change ahd (nth es (atE es t)) t=false at this;rw[h1 _ h] at this;cases this
 ·exact h
 ·have:=zjg es t h;rw[h2 (by omega)] at this;cases this
def insE(es:List Ent)(e:Ent):List Ent:=es.take (atE es e)++e::es.drop (atE es e)
def hasKS(es:List Ent)(e:Ent):Bool:=es.any (fun a=>zP a e)
def putOk(es:List Ent)(e:Ent):Bool:=okL es&&okE e && !decide (es.length=300) && !hasKS es e
theorem zc4(es:List Ent)(e:Ent):(insE es e).length=es.length+1:=by
 have:=zlV es e;simp[insE];omega
theorem has_at{es:List Ent}(hs:okL es=true)(t:Ent):hasKS es t=(decide (atE es t<es.length)&&zP (nth es (atE es t)) t):=by
 rw[Bool.eq_iff_iff];simp only[hasKS,List.any_eq_true,Bool.and_eq_true,decide_eq_true_eq];constructor
 ·rintro ⟨a,ha,hk⟩;obtain⟨i,hi,rfl⟩:=List.getElem_of_mem ha;have hk':zP (nth es i) t=true:=by rw[zU hi];exact hk
  have hna:ahd (nth es i) t=false:=by
   simp[zP,kEq] at hk';simp[ahd,kEq,hk'.1,hk'.2,zab]
  have hle:atE es t≤i:=by
   rcases Nat.lt_or_ge i (atE es t) with h | h
   ·rw[zjg es t h] at hna;cases hna
   ·exact h
  by_cases he:atE es t=i
  ·exact⟨by omega,by rw[he];exact hk'⟩
  ·exfalso;have h1:=zbS hs (show atE es t<i by omega) hi;have h2:=zhy hs t (nR _) (show atE es t<es.length by omega);have h3:ahd (nth es (atE es t)) t=ahd (nth es (atE es t)) (nth es i):=by
    simp[zP,kEq] at hk';simp[ahd,kEq,hk'.1,hk'.2]
   rw[h3,h1] at h2;cases h2
 ·rintro ⟨h1,h2⟩;exact⟨nth es (atE es t),by rw[zU h1];exact List.getElem_mem h1,h2⟩
theorem insE_ok{es:List Ent}{e:Ent}(h:putOk es e=true):okL (insE es e)=true:=by
 simp only[putOk,Bool.and_eq_true,Bool.not_eq_true',decide_eq_false_iff_not] at h;obtain⟨⟨⟨hs,he⟩,hn⟩,hh⟩:=h;have hl:=zad hs;rw[zaD];obtain⟨h1,h2,h3⟩:=(zaD es).1 hs;refine⟨by rw[zc4];omega,?_,?_⟩
 ·intro a ha;simp only[insE,List.mem_append,List.mem_cons] at ha;rcases ha with ha | rfl | ha
  ·exact h2 a (List.mem_of_mem_take ha)
  ·exact he
  ·exact h2 a (List.mem_of_mem_drop ha)
 ·have hA:∀ a∈es.take (atE es e),ahd a e=true:=by
   intro a ha;obtain⟨i,hi,rfl⟩:=List.getElem_of_mem ha;rw[List.length_take] at hi;have:=zjg es e (show i<atE es e by omega);rw[zU (by omega)] at this;rw[List.getElem_take];exact this
  have hB:∀ b∈es.drop (atE es e),ahd e b=true:=by
   intro b hb;obtain⟨i,hi,rfl⟩:=List.getElem_of_mem hb;rw[List.length_drop] at hi;rw[List.getElem_drop];have h4:=zhy hs e (show atE es e≤atE es e+i by omega) (by omega);rw[zU (by omega)] at h4;refine zkJ h4 ?_;cases hk:zP (es[atE es e+i]'(by omega)) e with
   | false=>rfl
   | true =>
    have:hasKS es e=true:=by
     simp only[hasKS,List.any_eq_true];exact⟨_,List.getElem_mem (by omega),hk⟩
    rw[this] at hh;cases hh
  unfold insE;rw[List.pairwise_append];refine⟨h3.sublist (List.take_sublist _ _),?_,?_⟩
  ·rw[List.pairwise_cons];exact⟨hB,h3.sublist (List.drop_sublist _ _)⟩
  ·intro a ha b hb;rcases List.mem_cons.1 hb with rfl | hb
   ·exact hA a ha
   ·exact zaR (hA a ha) (hB b hb)
def seenP(k:ByteArray)(q:Int)(e:Ent):Bool:=kEq e.key k&&decide (e.seq≤q)
def seenL(es:List Ent)(k:ByteArray)(q:Int):Option Ent:=es.find? (seenP k q)
def zeroE:Ent:=⟨⟨#[]⟩,⟨#[]⟩,0,false⟩
theorem zfd(es:List Ent)(k:ByteArray)(q:Int)(i:Nat)(hi:i<es.length)(h1:∀ j,j<i→seenP k q (nth es j)=false)(h2:seenP k q (nth es i)=true):seenL es k q=some (nth es i):=by
 unfold seenL;rw[List.find?_eq_some_iff_getElem];refine⟨h2,i,hi,by rw[zU hi],fun j hj=>?_⟩;have:=h1 j hj;rw[zU (by omega)] at this;simp[this]
theorem zhe(es:List Ent)(k:ByteArray)(q:Int)(h1:∀ j,j<es.length→seenP k q (nth es j)=false):seenL es k q=none:=by
 unfold seenL;rw[List.find?_eq_none];intro a ha;obtain⟨i,hi,rfl⟩:=List.getElem_of_mem ha;have:=h1 i hi;rw[zU hi] at this;simp[this]
theorem seen_at{es:List Ent}(hs:okL es=true)(k:ByteArray)(q:Int)(t:Ent)(hk:t.key=k)(hq:t.seq=q) :
 seenL es k q=if atE es t<es.length∧(nth es (atE es t)).key=k then some (nth es (atE es t)) else none:=by
 have hlo:∀ j,j<atE es t→seenP k q (nth es j)=false:=by
  intro j hj;have:=zjg es t hj;rw[za9,hk,hq] at this;rcases this with h | ⟨h,h'⟩
  ·have hne:(nth es j).key≠k:=fun e=>by rw[e,zab] at h;cases h
   simp[seenP,kEq,hne]
  ·simp[seenP,kEq];intro _;omega
 split
 ·rename_i h;refine zfd es k q _ h.1 hlo ?_;have h2:=zhy hs t (nR _) h.1;simp[ahd,kEq,hk,hq,h.2,zab] at h2;simp[seenP,kEq,h.2];omega
 ·rename_i h;refine zhe es k q fun j hj=>?_
  rcases Nat.lt_or_ge j (atE es t) with h1 | h1
  ·exact hlo j h1
  ·have h2:=zhy hs t h1 hj;have hne:(nth es j).key≠k:=by
    intro e;apply h;refine⟨by omega,?_⟩;by_cases hje:atE es t=j
    ·rw[hje];exact e
    ·have h3:=zbS hs (show atE es t<j by omega) hj;have h4:=zhy hs t (nR _) (show atE es t<es.length by omega);rw[za9] at h3;rcases h3 with h3 | h3
     ·rw[e,← hk] at h3;simp[ahd,kEq,h3] at h4
     ·rw[h3.1,e]
   simp[seenP,kEq,hne]
theorem za7{es:List Ent}{k:ByteArray}{q:Int}{e:Ent}(h:seenL es k q=some e):e.key=k∧e.seq≤q:=by
 have:=List.find?_some h;simpa [seenP,kEq] using this
def zah(es:List Ent)(q:Int)(i:Nat):Bool:=decide ((nth es i).seq≤q)&&(decide (i=0) || !kEq (nth es (i-1)).key (nth es i).key||decide (q<(nth es (i-1)).seq))
def shAt(es:List Ent)(q:Int)(i:Nat):Bool:=zah es q i && !(nth es i).gone
def shTo(es:List Ent)(q:Int):Nat→List Ent
 | 0=>[]
 | i+1=>if shAt es q i=true then shTo es q i++[nth es i] else shTo es q i
def zaJ(es:List Ent)(q:Int):List Ent:=if okL es=true then shTo es q es.length else []
theorem ze6(es:List Ent)(q:Int):∀ i,(shTo es q i).length≤i
 | 0=>nR _
 | i+1=>by
  have:=ze6 es q i;rw[shTo];split
  ·simp;omega
  ·omega
theorem zii{es:List Ent}{q:Int}{i:Nat}(h:shAt es q i=true):shTo es q (i+1)=shTo es q i++[nth es i]:=by rw[shTo,if_pos h]
theorem zfb{es:List Ent}{q:Int}{i:Nat}(h:shAt es q i=false):shTo es q (i+1)=shTo es q i:=by rw[shTo,if_neg (by simp[h])]
def lastK(es:List Ent)(q:Int):Nat→ByteArray
 | 0=>⟨#[]⟩
 | i+1=>if (nth es i).seq≤q then (nth es i).key else lastK es q i
theorem zhk(es:List Ent)(q:Int):∀ i,lastK es q i=⟨#[]⟩∨∃ j,j<i∧(nth es j).key=lastK es q i∧(nth es j).seq≤q
 | 0=>.inl rfl
 | i+1=>by
  rw[lastK];split
  ·rename_i h;exact .inr ⟨i,by omega,rfl,h⟩
  ·rcases zhk es q i with h | ⟨j,hj,h⟩
   ·exact .inl h
   ·exact .inr ⟨j,by omega,h⟩
theorem zoa{es:List Ent}(hs:okL es=true)(q:Int)(i:Nat)(hi:i<es.length)(hq:(nth es i).seq≤q) :
 zah es q i=!kEq (nth es i).key (lastK es q i):=by
 unfold zah;rw[decide_eq_true hq,Bool.true_and];match i,hi,hq with
 | 0,hi,_ =>
  have h:=zie hs hi;have hne:(nth es 0).key≠⟨#[]⟩:=fun e=>by
   simp only[okE,Bool.and_eq_true,decide_eq_true_eq] at h;have h1:=h.1.1.1.1.1;rw[e] at h1;exact absurd h1 (by decide)
  have hb:kEq (nth es 0).key (lastK es q 0)=false:=by exact decide_eq_false hne
  rw[hb];simp
 | i+1,hi,hq =>
  simp only[Nat.add_one_sub_one];rw[show decide (i+1=0)=false from by simp,Bool.false_or];by_cases h1:(nth es i).seq≤q
  ·rw[lastK,if_pos h1];have:decide (q<(nth es i).seq)=false:=(by simp;omega);rw[this,Bool.or_false];by_cases hk:(nth es i).key=(nth es (i+1)).key
   ·simp[kEq,hk]
   ·have h2:kEq (nth es i).key (nth es (i+1)).key=false:=(by simpa [kEq] using hk);have h3:kEq (nth es (i+1)).key (nth es i).key=false:=(by simpa [kEq] using fun e=>hk e.symm);rw[h2,h3]
  ·have h4:decide (q<(nth es i).seq)=true:=(by simp;omega);rw[h4,Bool.or_true];have hne:(nth es (i+1)).key≠lastK es q (i+1):=by
    intro e;rw[lastK,if_neg h1] at e;rcases zhk es q i with h | ⟨j,hj,hk,hjq⟩
    ·have h5:=zie hs hi;simp only[okE,Bool.and_eq_true,decide_eq_true_eq] at h5;have h6:=h5.1.1.1.1.1;rw[e,h] at h6;exact absurd h6 (by decide)
    ·have h7:=zbS hs (show j<i by omega) (by omega);have h8:=zbS hs (show i<i+1 by omega) hi;rw[za9] at h7 h8;rcases h7 with h7 | h7
     ·rcases h8 with h8 | h8
      ·have:=zeO h7 h8;rw[hk,← e,zab] at this;cases this
      ·rw[h8.1,hk,← e,zab] at h7;cases h7
     ·omega
   simp[kEq,hne]
theorem zhm{es:List Ent}(hs:okL es=true)(q:Int)(i:Nat)(hi:i<es.length):zah es q i=decide (seenL es (nth es i).key q=some (nth es i)):=by
 rw[Bool.eq_iff_iff,decide_eq_true_eq];constructor
 ·intro h;simp only[zah,kEq,Bool.and_eq_true,Bool.or_eq_true,decide_eq_true_eq,Bool.not_eq_true',decide_eq_false_iff_not] at h;refine zfd es _ q i hi (fun j hj=>?_) (by simp[seenP,kEq,h.1]);have h1:=zbS hs hj hi;rw[za9] at h1;rcases h1 with h1 | h1
  ·have hne:(nth es j).key≠(nth es i).key:=fun e=>by rw[e,zab] at h1;cases h1
   simp[seenP,kEq,hne]
  ·have hi1:i≠0:=(by omega);have h2:(nth es (i-1)).key=(nth es i).key∧(nth es (i-1)).seq≤(nth es j).seq:=by
    by_cases hj1:j=i-1
    ·subst hj1;exact⟨h1.1,Int.le_refl _⟩
    ·have h3:=zbS hs (show j<i-1 by omega) (by omega);have h4:=zbS hs (show i-1<i by omega) hi;rw[za9] at h3 h4;rcases h3 with h3 | h3
     ·rcases h4 with h4 | h4
      ·have:=zeO h3 h4;rw[h1.1,zab] at this;cases this
      ·rw[h4.1,h1.1,zab] at h3;cases h3
     ·exact⟨h3.1.symm.trans h1.1,by omega⟩
   rcases h.2 with (h5 | h5) | h5
   ·exact absurd h5 hi1
   ·exact absurd h2.1 h5
   ·simp[seenP,kEq];intro _;omega
 ·intro h;have h0:=za7 h;simp only[zah,kEq,Bool.and_eq_true,Bool.or_eq_true,decide_eq_true_eq,Bool.not_eq_true',decide_eq_false_iff_not];refine⟨h0.2,?_⟩;by_cases hi1:i=0
  ·exact .inl (.inl hi1)
  by_cases hk:(nth es (i-1)).key=(nth es i).key
  ·right
   rcases Int.lt_or_le q (nth es (i-1)).seq with h1 | h1
   ·exact h1
   ·exfalso;unfold seenL at h;rw[List.find?_eq_some_iff_getElem] at h;obtain⟨_,k,hk1,hk2,hk3⟩:=h;rcases Nat.lt_trichotomy k i with h2 | h2 | h2
    ·have h3:=zbS hs h2 hi;rw[zU hk1,hk2,zbl] at h3;cases h3
    ·have h3:=hk3 (i-1) (by omega);rw[← zU (show i-1<es.length by omega)] at h3;simp[seenP,kEq,hk] at h3;omega
    ·have h3:=zbS hs h2 hk1;rw[zU hk1,hk2,zbl] at h3;cases h3
  ·exact .inl (.inr hk)
open Go.RowKit
theorem Tryz.info40:(Tryz.prog.info? 40).map (fun i=>(i.zero,i.size,i.bytes))=some (some (.agg #[.string ⟨#[]⟩,.string ⟨#[]⟩,.int .i64 0,.bool false]),4,48):=by kernel_rfl
def EC(e:Ent):List Value:=[.string e.key,.string e.val,.int .i64 e.seq,.bool e.gone]
def EV(es:List Ent):List Value:=es.flatMap EC
theorem zaF:∀ es:List Ent,(EV es).length=es.length*4
 | []=>rfl
 | a::r=>by
  have:=zaF r;unfold EV at this ⊢;rw[List.flatMap_cons,lA,this,List.length_cons];simp[EC];omega
theorem zcQ(a b:List Ent):EV (a++b)=EV a++EV b:=by simp[EV]
theorem EV_one(e:Ent):EV [e]=EC e:=by simp[EV]
theorem zpc(a:Ent)(r:List Ent):EV (a::r)=EC a++EV r:=by simp[EV]
theorem zls:∀ (es:List Ent) (i:Nat),i<es.length→∀ j,j<4→(EV es)[i*4+j]? = (EC (nth es i))[j]?
 | [],i,h,_,_=>by simp at h
 | a::r,0,_,j,hj=>by
  rw[zpc,zb4,Nat.zero_mul,Nat.zero_add,List.getElem?_append_left (by simp[EC];exact hj)]
 | a::r,i+1,h,j,hj=>by
  rw[zpc,ziG,← zls r i (by simpa using h) j hj,List.getElem?_append_right (by simp[EC];omega)];congr 1
  simp[EC];omega
theorem zhq(es:List Ent):∀ u∈EV es,u.oneCell'=true:=by
 intro u hu;simp only[EV,List.mem_flatMap] at hu;obtain⟨e,_,he⟩:=hu;simp only[EC,List.mem_cons,List.not_mem_nil,or_false] at he;rcases he with rfl | rfl | rfl | rfl<;>rfl
def EntAt(w:World)(b o:Nat)(e:Ent):Prop :=
 w.cell? ⟨b,o,none⟩=some (.string e.key)∧w.cell? ⟨b,o+1,none⟩=some (.string e.val)∧w.cell? ⟨b,o+2,none⟩=some (.int .i64 e.seq)∧w.cell? ⟨b,o+3,none⟩=some (.bool e.gone)
def OwnE(w:World)(base:Nat)(v:Value)(es:List Ent):Prop:=w.ownsRow base 40 4 v es.length (EV es)
def RdE(w:World)(v:Value)(es:List Ent):Prop :=
 ∃ a cap,v=.slice a es.length cap∧es.length≤cap∧cap≤maxLen∧(a=none→cap=0) ∧
  (es=[]∨∃ b off,a=some ⟨b,off,none⟩∧∀ i,i<es.length→EntAt w b (off+i*4) (nth es i))
theorem EntAt.lt{w:World}{b o:Nat}{e:Ent}(h:EntAt w b o e):b<w.heap.size:=World.block_lt_of_cell? w _ h.1
theorem EntAt.of_block{w w':World}{b o:Nat}{e:Ent}(h:EntAt w b o e)(hb:w'.heap[b]? = w.heap[b]?):EntAt w' b o e :=
 ⟨(World.cell?_of_block (a:=⟨b,o,none⟩) hb).trans h.1,(World.cell?_of_block (a:=⟨b,o+1,none⟩) hb).trans h.2.1,(World.cell?_of_block (a:=⟨b,o+2,none⟩) hb).trans h.2.2.1,(World.cell?_of_block (a:=⟨b,o+3,none⟩) hb).trans h.2.2.2⟩
theorem EntAt.below{w w':World}{b o:Nat}{e:Ent}(h:EntAt w b o e)(hb:Below w.heap.size w w'):EntAt w' b o e:=h.of_block (hb.block b h.lt)
theorem zoc{w:World}{base g cap n:Nat}{es:List Ent}(h:w.ownsRow base 40 4 (.slice (some ⟨g,0,none⟩) n cap) n (EV es))(hn:n=es.length)(i:Nat)(hi:i<n):EntAt w g (i*4) (nth es i):=by
 subst hn;have c:∀ j,j<4→w.cell? ⟨g,i*4+j,none⟩=(EC (nth es i))[j]?:=fun j hj=>(h.cellAt (i*4+j) (by omega)).trans (zls es i hi j hj)
 exact⟨c 0 (by omega),c 1 (by omega),c 2 (by omega),c 3 (by omega)⟩
theorem OwnE.rd{w:World}{base:Nat}{v:Value}{es:List Ent}(h:OwnE w base v es):RdE w v es:=by
 have h':=h;rcases h.2 with ⟨rfl,h0⟩ | ⟨g,cap,cur,rfl,hb,hg,hn,hc,hs,ht⟩
 ·have:es=[]:=List.length_eq_zero_iff.1 h0;subst this;exact⟨none,0,rfl,nR _,Nat.zero_le _,fun _=>rfl,.inl rfl⟩
 ·refine⟨some ⟨g,0,none⟩,cap,rfl,hn,hc,(fun h=>by cases h),.inr ⟨g,0,rfl,fun i hi=>?_⟩⟩;rw[Nat.zero_add];exact zoc h' rfl i hi
theorem OwnE.below{w w':World}{base:Nat}{v:Value}{es:List Ent}(h:OwnE w base v es)(hb:Below w.heap.size w w'):OwnE w' base v es:=zaZ h hb
theorem OwnE.drewN{w:World}{base:Nat}{v:Value}{es:List Ent}(h:OwnE w base v es)(q:Nat):OwnE (w.drewN q) base v es:=h
theorem OwnE.mono{w:World}{base base':Nat}{v:Value}{es:List Ent}(h:OwnE w base v es)(hb:base'≤base):OwnE w base' v es:=by
 refine⟨h.1,?_⟩;rcases h.2 with h2 | ⟨g,cap,cur,hv,hg,r⟩
 ·exact .inl h2
 ·exact .inr ⟨g,cap,cur,hv,nT hb hg,r⟩
theorem RdE.below{w w':World}{v:Value}{es:List Ent}(h:RdE w v es)(hb:Below w.heap.size w w'):RdE w' v es:=by
 obtain⟨a,cap,hv,h1,h2,h0,h3⟩:=h;refine⟨a,cap,hv,h1,h2,h0,?_⟩;rcases h3 with h3 | ⟨b,off,ha,hc⟩
 ·exact .inl h3
 ·exact .inr ⟨b,off,ha,fun i hi=>(hc i hi).below hb⟩
theorem RdE.drewN{w:World}{v:Value}{es:List Ent}(h:RdE w v es)(q:Nat):RdE (w.drewN q) v es:=h
theorem rdE_nil(w:World):RdE w (.slice none 0 0) []:=⟨none,0,rfl,nR _,Nat.zero_le _,fun _=>rfl,.inl rfl⟩
theorem zX(w:World):OwnE (w.alloc (.cells #[] 40)) w.heap.size (.slice (some ⟨w.heap.size,0,none⟩) 0 0) []:=World.ownsRow_lit w #[] 0 (nR _) (Nat.zero_le _) rfl
theorem ziy{w:World}{B:Nat}{v:Value}{es:List Ent}(h:OwnE w B v es):∀ k,v.ownBlock=some k→k<w.heap.size:=fun k hk=>(oL h k hk).2
theorem zos{w1:World}{B:Nat}{v':Value}{ys zs:List Ent}(h:w1.ownsRow B 40 4 v' (ys.length+zs.length) (EV ys++EV zs)):OwnE w1 B v' (ys++zs):=by
 unfold OwnE;rw[zcQ,lA];exact h
theorem RdE.at{w:World}{a:Option Addr}{n cap:Nat}{es:List Ent}(h:RdE w (.slice a n cap) es)(hn:n=es.length)(i:Nat)(hi:i<es.length):∃ b off,a=some ⟨b,off,none⟩∧EntAt w b (off+i*4) (nth es i):=by
 obtain⟨a',cap',hv,_,_,_,h3⟩:=h;simp only[Value.slice.injEq] at hv;obtain⟨rfl,_,_⟩:=hv;rcases h3 with rfl | ⟨b,off,ha,hc⟩
 ·simp at hi
 ·exact⟨b,off,ha,hc i hi⟩
theorem EV_nth{es:List Ent}{j:Nat}{u:Value}(h:(EV es)[j]? = some u):j / 4<es.length∧(EC (nth es (j / 4)))[j % 4]? = some u:=by
 have hj:j<(EV es).length:=(List.getElem?_eq_some_iff.1 h).1;rw[zaF] at hj;have h1:j / 4<es.length:=by omega
 refine⟨h1,?_⟩;have h2:=zls es (j / 4) h1 (j % 4) (by omega);rw[show j / 4*4+j % 4=j by omega] at h2;rw[← h2];exact h
theorem EntAt.cellAt{w:World}{b o:Nat}{e:Ent}(h:EntAt w b o e){j:Nat}{u:Value}(hu:(EC e)[j]? = some u):w.cell? ⟨b,o+j,none⟩=some u:=by
 obtain⟨h0,h1,h2,h3⟩:=h;match j,hu with
 | 0,hu=>simp[EC] at hu;subst hu;exact h0
 | 1,hu=>simp[EC] at hu;subst hu;exact h1
 | 2,hu=>simp[EC] at hu;subst hu;exact h2
 | 3,hu=>simp[EC] at hu;subst hu;exact h3
theorem zfG{w:World}{b off:Nat}{es:List Ent}(h:∀ i,i<es.length→EntAt w b (off+i*4) (nth es i)):∀ j u,(EV es)[j]? = some u→w.cell? ((⟨b,off,none⟩:Addr).add j)=some u:=by
 intro j u hu;obtain⟨h1,h2⟩:=EV_nth hu;have:=(h _ h1).cellAt h2;rw[Addr.add_lit];rw[show off+j / 4*4+j % 4=off+j by omega] at this;exact this
theorem zdt(ty:TypeId){w:World}{base:Nat}{v u:Value}{ys zs:List Ent}(hown:OwnE w base v ys)(hr:RdE w u zs)(hl:ys.length+zs.length≤1000000000)(hbase:base≤w.heap.size) :
 ∃ v' w',(Builtin.append_ #[24,24] ty #[v,u]).run Tryz.prog w=.ok v' w'∧OwnE w' base v' (ys++zs)∧w.grownBy w' v.ownBlock:=by
 obtain⟨i0,hi,hz0,hz1,hz2⟩:=info_parts Tryz.info40;obtain⟨a,cap,rfl,h1,h2,h0,h3⟩:=hr;have row:∀ ad news,news=EV zs→(∀ j u,news[j]? = some u→w.cell? (ad.add j)=some u)→∃ v' w',(Builtin.append_ #[24,24] ty #[v,.slice (some ad) zs.length cap]).run Tryz.prog w=.ok v' w'∧OwnE w' base v' (ys++zs)∧w.grownBy w' v.ownBlock:=by
  intro ad news hn hc;subst hn;obtain⟨v',w',hrun,r1,r2,_⟩:=run_append_own (P:=Tryz.prog) w base 24 ty 40 i0 _ 4 48 Tryz.underlying24 hi hz0 hz1 hz2 rfl (by decide) v ys.length (EV ys) hown ad zs.length cap (EV zs) (zaF zs) hc (zhq zs) (by unfold maxLen;omega) (by omega) hbase;exact⟨v',w',hrun,zos r1,r2⟩
 cases a with
 | some ad =>
  refine row ad (EV zs) rfl ?_;rcases h3 with rfl | ⟨b,off,ha,hc⟩
  ·intro j u hj;simp[EV] at hj
  ·cases ha;exact zfG hc
 | none =>
  have hc0:=h0 rfl;subst hc0;rcases h3 with rfl | ⟨b,off,ha,hc⟩
  ·refine⟨v,w,run_append_owned_none (P:=Tryz.prog) w base 24 ty 40 i0 4 Tryz.underlying24 hi v ys.length (EV ys) hown,by simpa using hown,⟨rfl,rfl,rfl,nR _,fun _ _ _=>rfl⟩⟩
  ·cases ha
theorem zp{w:World}{ops:Array Oper}{rest:List Oper}{o:Oper}{a:Act}{Q:Exit→Act→World→Prop}(hgd:o.guard=none)(s x:Operand)
 (ho:o.op=.call { callee:=.builtin .append,args:=#[s,x],argTypes:=#[24,24] }) (base:Nat) (v u:Value) (ys zs:List Ent) (hs:a.eval s=v) (hx:a.eval x=u) (hown:OwnE w base v ys) (hr:RdE w u zs) (hl:ys.length+zs.length≤1000000000) (hbase:base≤w.heap.size)
 (h:∀ v' w',OwnE w' base v' (ys++zs)→w.grownBy w' v.ownBlock→wpList Tryz.prog ops Q rest (a.put o.dst v') w'):wpList Tryz.prog ops Q (o::rest) a w:=by
 refine wpList_plain hgd fun K hK=>?_
 obtain⟨v',w',hrun,r1,r2⟩:=zdt o.type hown hr hl hbase;unfold Oper.wp;simp[execOp,ho,resolve,invoke,builtin,hs,hx,hrun,Result.andThen];exact hK _ _ (h v' w' r1 r2)
theorem zS{w:World}{ops:Array Oper}{o:Oper}{a:Act}{K:Act→World→Prop}{Q:Exit→Act→World→Prop}{E:Prop}(hgd:o.guard=none)(d:Nat)(hd:o.dst=some d)(s x:Operand)
 (ho:o.op=.call { callee:=.builtin .append,args:=#[s,x],argTypes:=#[24,24] }) (base:Nat) (v u:Value) (ys zs:List Ent) (hs:a.eval s=v) (hx:a.eval x=u) (hown:OwnE w base v ys) (hr:RdE w u zs) (hl:ys.length+zs.length≤1000000000) (hbase:base≤w.heap.size)
 (h:∀ v' w',OwnE w' base v' (ys++zs)→w.grownBy w' v.ownBlock→K (a.put (some d) v') w') :
 if Region.wanted o (yielded ops a.tmps)=true then Oper.wp Tryz.prog o a w K Q else E:=by
 have hw:Region.wanted o (yielded ops a.tmps)=true:=by simp[Region.wanted,hgd]
 rw[if_pos hw];obtain⟨v',w',hrun,r1,r2⟩:=zdt o.type hown hr hl hbase;unfold Oper.wp;simp[execOp,ho,resolve,invoke,builtin,hs,hx,hrun,Result.andThen];have h':=h v' w' r1 r2;rw[← hd] at h';exact h'
def Fits(e:Ent):Prop:=e.key.size≤4503599627370496∧e.val.size≤4503599627370496∧-9223372036854775808≤e.seq∧e.seq≤9223372036854775807
open Go.RowKit
theorem zN{a b:Bool}(h:a=b):Ending.returned (.bool a)=.returned (.bool b):=by rw[h]
theorem ze8{k:IntKind}{a b:Int}(h:a=b):Ending.returned (.int k a)=.returned (.int k b):=by rw[h]
theorem ze(w:World)(x:Obj):Below w.heap.size w (w.alloc x):=(Below.refl _ _).alloc (nR _) _
theorem zdl(w:World)(x y:Obj):Below w.heap.size w ((w.alloc x).alloc y):=(ze w x).alloc (by simp) _
theorem bcell{W w1:World}(hb:Below W.heap.size W w1):(∀ b o,b<W.heap.size→w1.cell? ⟨b,o,none⟩=W.cell? ⟨b,o,none⟩)∧(∀ b o,b<W.heap.size→w1.frozen? ⟨b,o,none⟩=W.frozen? ⟨b,o,none⟩) :=
 ⟨fun b o h=>hb.cell (p:=⟨b,o,none⟩) h,fun b o h=>hb.frozen (p:=⟨b,o,none⟩) h⟩
theorem takeH{P:Program}{ops:Array Oper}{Q:Exit→Act→World→Prop}{md:Region.Mode}{S:World→Prop}{i d:Nat}{oi:Oper}{v:Value}{fuel:Nat}{listed:Array Bool}{a:Act}{w:World}(hi:ops[i]? = some oi)(hd:oi.dst=some d)
 (hs:Region.noSelect ops=true) (hf:Region.free md ops listed i=true) (hr:(Region.ready md ops listed).contains i=true)
 (hQ:∀ c a w,Q (.panic c) (a.put (some d) v) w→Q (.panic c) a w) (hy:YieldsIf P ops S oi v a) (hS:S w)
 (h:wpAnyH P md ops Q S fuel (listed.setIfInBounds i true) (a.put (some d) v) w):wpAnyH P md ops Q S (fuel+1) listed a w :=
 wpAnyH_take hi hs hf hr (by rw[hd];exact hQ) hy hS (by rw[hd];exact h)
theorem rdy(i:Nat){P:Program}{ops:Array Oper}{Q:Exit→Act→World→Prop}{md:Region.Mode}{S:World→Prop}{o:Oper}{fuel:Nat}{listed:Array Bool}{a:Act}{w:World}(h:∀ K':Act→World→Prop,Shut (∀ a w,S w→(S w→wpAnyH P md ops Q S fuel (listed.setIfInBounds i true) a w)→K' a w)→if Region.wanted o (yielded ops a.tmps)=true then Oper.wp P o a w K' Q else K' (a.put o.dst undef) w)(ho:ops[i]? = some o:=by rfl)(hr:Region.ready md ops listed=[i]:=by kernel_rfl):wpAnyH P md ops Q S (fuel+1) listed a w:=wpAnyH_ready hr (by simp) (AllReadyH.cons ho h AllReadyH.nil)
theorem dne{P:Program}{ops:Array Oper}{Q:Exit→Act→World→Prop}{md:Region.Mode}{S:World→Prop}{fuel:Nat}{listed:Array Bool}{a:Act}{w:World}(h:Q .normal a w)(hr:Region.ready md ops listed=[]:=by kernel_rfl):wpAnyH P md ops (NoPanic Q) S fuel listed a w:=wpAnyH_done hr (NoPanic.normal h) _
theorem brg{P:Program}{ops:Array Oper}{Q:Exit→Act→World→Prop}{S:World→Prop}{id:Nat}{a:Act}{w:World}(hS:S w.drew)(h:S w.drew→wpAnyH P .any ops (NoPanic Q) S ops.size (Array.replicate ops.size false) a w.drew)(hm:P.follows .mixedOrders=true:=by kernel_rfl):(Code.region id ops true).wp P Q a w:=wp_region_noPanic (wp_region_held_drew hm hS h)
theorem arc{P:Program}{ops:Array Oper}{Q:Exit→Act→World→Prop}{md:Region.Mode}{S:World→Prop}{o:Oper}{fuel i:Nat}{rs:List Nat}{listed:Array Bool}{a:Act}{w:World}(h:∀ K':Act→World→Prop,Shut (∀ a w,S w→(S w→wpAnyH P md ops Q S fuel (listed.setIfInBounds i true) a w)→K' a w)→if Region.wanted o (yielded ops a.tmps)=true then Oper.wp P o a w K' Q else K' (a.put o.dst undef) w)(hs:AllReadyH P md ops Q S fuel listed a w rs)(ho:ops[i]? = some o:=by rfl):AllReadyH P md ops Q S fuel listed a w (i::rs):=AllReadyH.cons ho h hs
theorem tkG(i d:Nat){P:Program}{ops:Array Oper}{Q:Exit→Act→World→Prop}{md:Region.Mode}{S:World→Prop}{oi:Oper}{v:Value}{fuel:Nat}{listed:Array Bool}{a:Act}{w:World}(hS:S w)
 (h:wpAnyH P md ops (NoPanic Q) S fuel (listed.setIfInBounds i true) (a.put (some d) v) w) (hi:ops[i]? = some oi:=by rfl) (hd:oi.dst=some d:=by rfl)
 (hs:Region.noSelect ops=true:=by kernel_rfl) (hf:Region.free md ops listed i=true:=by kernel_rfl) (hr:(Region.ready md ops listed).contains i=true:=by kernel_rfl) (hw:Region.wanted oi (yielded ops a.tmps)=true:=by kernel_rfl)
 (hy:∀ w,S w→(execOp a.eval oi).run P w=.ok (.value v) w:=by intro w hS;(try dsimp only[Nat.zero_add] at hS);go_simp;(try with_reducible rfl)):wpAnyH P md ops (NoPanic Q) S (fuel+1) listed a w :=
 takeH hi hd hs hf hr (fun _ _ _ h=>h) (Or.inl ⟨hw,hy⟩) hS h
theorem kG(i d:Nat){P:Program}{ops:Array Oper}{Q:Exit→Act→World→Prop}{md:Region.Mode}{S:World→Prop}{oi:Oper}{v:Value}{fuel:Nat}{listed:Array Bool}{a a':Act}{w:World}(hS:S w)(h:wpAnyH P md ops (NoPanic Q) S fuel (listed.setIfInBounds i true) a' w)(hi:ops[i]? = some oi:=by rfl)(hd:oi.dst=some d:=by rfl)(hs:Region.noSelect ops=true:=by kernel_rfl)(hf:Region.free md ops listed i=true:=by kernel_rfl)(hr:(Region.ready md ops listed).contains i=true:=by kernel_rfl)(hw:Region.wanted oi (yielded ops a.tmps)=true:=by kernel_rfl)(hy:∀ w,S w→(execOp a.eval oi).run P w=.ok (.value v) w:=by intro w hS;(try dsimp only[Nat.zero_add] at hS);go_simp;(try with_reducible rfl))(ha:a.put (some d) v=a':=by (try simp only[Act.put,sA,sZ,sS]);(try rfl)):wpAnyH P md ops (NoPanic Q) S (fuel+1) listed a w:=takeH hi hd hs hf hr (fun _ _ _ h=>h) (Or.inl ⟨hw,hy⟩) hS (ha ▸ h)
theorem tkS(i d:Nat){P:Program}{ops:Array Oper}{Q:Exit→Act→World→Prop}{md:Region.Mode}{S:World→Prop}{oi:Oper}{fuel:Nat}{listed:Array Bool}{a:Act}{w:World}(hS:S w)
 (h:wpAnyH P md ops (NoPanic Q) S fuel (listed.setIfInBounds i true) (a.put (some d) undef) w) (hi:ops[i]? = some oi:=by rfl) (hd:oi.dst=some d:=by rfl)
 (hs:Region.noSelect ops=true:=by kernel_rfl) (hf:Region.free md ops listed i=true:=by kernel_rfl) (hr:(Region.ready md ops listed).contains i=true:=by kernel_rfl) (hw:Region.wanted oi (yielded ops a.tmps)=false:=by kernel_rfl):wpAnyH P md ops (NoPanic Q) S (fuel+1) listed a w :=
 takeH hi hd hs hf hr (fun _ _ _ h=>h) (Or.inr ⟨hw,rfl⟩) hS h
theorem kS(i d:Nat){P:Program}{ops:Array Oper}{Q:Exit→Act→World→Prop}{md:Region.Mode}{S:World→Prop}{oi:Oper}{fuel:Nat}{listed:Array Bool}{a a':Act}{w:World}(hS:S w)(h:wpAnyH P md ops (NoPanic Q) S fuel (listed.setIfInBounds i true) a' w)(hi:ops[i]? = some oi:=by rfl)(hd:oi.dst=some d:=by rfl)(hs:Region.noSelect ops=true:=by kernel_rfl)(hf:Region.free md ops listed i=true:=by kernel_rfl)(hr:(Region.ready md ops listed).contains i=true:=by kernel_rfl)(hw:Region.wanted oi (yielded ops a.tmps)=false:=by kernel_rfl)(ha:a.put (some d) undef=a':=by (try simp only[Act.put,sA,sZ,sS]);(try rfl)):wpAnyH P md ops (NoPanic Q) S (fuel+1) listed a w:=takeH hi hd hs hf hr (fun _ _ _ h=>h) (Or.inr ⟨hw,rfl⟩) hS (ha ▸ h)
theorem zi{w:World}{B t s n c j:Nat}{v u:Value}{xs:List Value}(ho:w.ownsRow B t s v n xs)(hc:∀ k,v.ownBlock=some k→c≠k):(w.setCell ⟨c,j,none⟩ u).ownsRow B t s v n xs :=
 zl ho (⟨rfl,rfl,rfl,by simp,fun k _ hk=>heap_setCell_other w ⟨c,j,none⟩ k u (fun e=>hk (by simp[e]))⟩:w.grownBy (w.setCell ⟨c,j,none⟩ u) (some c)) (fun k hk e=>hc k hk (Option.some.inj e))
theorem zh{w:World}{B1 B2 t1 t2 s1 s2 n1 n2:Nat}{v1 v2:Value}{xs ys:List Value}(h1:w.ownsRow B1 t1 s1 v1 n1 xs)(h2:w.ownsRow B2 t2 s2 v2 n2 ys)(ht:t1≠t2):∀ k,v1.ownBlock=some k→v2.ownBlock=some k→False:=by
 intro k hk1 hk2;rcases h1.2 with ⟨rfl,_⟩ | ⟨g,cap,cur,rfl,_,hg,_⟩
 ·simp[Value.ownBlock] at hk1
 ·rcases h2.2 with ⟨rfl,_⟩ | ⟨g2,cap2,cur2,rfl,_,hg2,_⟩
  ·simp[Value.ownBlock] at hk2
  ·obtain rfl:g=k:=(by simpa [Value.ownBlock] using hk1);obtain rfl:g2=g:=(by simpa [Value.ownBlock] using hk2);rw[hg] at hg2;injection hg2 with hg2
   injection hg2 with _ h3
   exact ht h3
def NilOk(v:Value):Prop:=∀ n c,v=.slice none n c→c=0
theorem zgI(ty:TypeId){w:World}{base:Nat}{v u:Value}{ys zs:List ByteArray}(hown:OwnS w base v ys)(hr:RdS w u zs)(hn:NilOk u)(hl:ys.length+zs.length≤1000000000)(hbase:base≤w.heap.size) :
 ∃ v' w',(Builtin.append_ #[42,42] ty #[v,u]).run Tryz.prog w=.ok v' w'∧OwnS w' base v' (ys++zs)∧w.grownBy w' v.ownBlock:=by
 obtain⟨i0,hi,hz0,hz1,hz2⟩:=info_parts Tryz.info9;obtain⟨a,cap,rfl,h1,h2,h3⟩:=hr;have more:∀ {w1:World} {v':Value},w1.ownsRow base 9 1 v' (ys.length+zs.length) (SV ys++SV zs)→OwnS w1 base v' (ys++zs):=fun h=>by unfold OwnS;rw[zpy,lA];exact h
 have row:∀ ad,(∀ j u,(SV zs)[j]? = some u→w.cell? (ad.add j)=some u)→∃ v' w',(Builtin.append_ #[42,42] ty #[v,.slice (some ad) zs.length cap]).run Tryz.prog w=.ok v' w'∧OwnS w' base v' (ys++zs)∧w.grownBy w' v.ownBlock:=by
  intro ad hc;obtain⟨v',w',hrun,r1,r2,_⟩:=run_append_own (P:=Tryz.prog) w base 42 ty 9 i0 _ 1 16 Tryz.underlying42 hi hz0 hz1 hz2 rfl (by decide) v ys.length (SV ys) hown ad zs.length cap (SV zs) (by rw[zi8];omega) hc (fun u hu=>by obtain⟨_,_,rfl⟩:=List.mem_map.1 hu;rfl) (by unfold maxLen;omega) (by omega) hbase;exact⟨v',w',hrun,more r1,r2⟩
 cases a with
 | some ad =>
  refine row ad ?_;rcases h3 with rfl | ⟨b,off,ha,hc⟩
  ·intro j u hj;simp[SV] at hj
  ·cases ha
   intro j u hj;have hjl:j<zs.length:=(by have:=(List.getElem?_eq_some_iff.1 hj).1;rwa [zi8] at this);rw[zjw zs j hjl] at hj;cases hj
   rw[Addr.add_lit];exact hc j hjl
 | none =>
  have hc0:=hn _ _ rfl;subst hc0;rcases h3 with rfl | ⟨b,off,ha,hc⟩
  ·refine⟨v,w,run_append_owned_none (P:=Tryz.prog) w base 42 ty 9 i0 1 Tryz.underlying42 hi v ys.length (SV ys) hown,by simpa using hown,⟨rfl,rfl,rfl,nR _,fun _ _ _=>rfl⟩⟩
  ·cases ha
theorem zcy{w:World}{ops:Array Oper}{rest:List Oper}{o:Oper}{a:Act}{Q:Exit→Act→World→Prop}(hgd:o.guard=none)(s x:Operand)
 (ho:o.op=.call { callee:=.builtin .append,args:=#[s,x],argTypes:=#[42,42] }) (base:Nat) (v u:Value) (ys zs:List ByteArray) (hs:a.eval s=v) (hx:a.eval x=u) (hown:OwnS w base v ys) (hr:RdS w u zs) (hn:NilOk u) (hl:ys.length+zs.length≤1000000000) (hbase:base≤w.heap.size)
 (h:∀ v' w',OwnS w' base v' (ys++zs)→w.grownBy w' v.ownBlock→wpList Tryz.prog ops Q rest (a.put o.dst v') w'):wpList Tryz.prog ops Q (o::rest) a w:=by
 refine wpList_plain hgd fun K hK=>?_
 obtain⟨v',w',hrun,r1,r2⟩:=zgI o.type hown hr hn hl hbase;unfold Oper.wp;simp[execOp,ho,resolve,invoke,builtin,hs,hx,hrun,Result.andThen];exact hK _ _ (h v' w' r1 r2)
theorem za0{w:World}{ops:Array Oper}{o:Oper}{a:Act}{K:Act→World→Prop}{Q:Exit→Act→World→Prop}{E:Prop}(hgd:o.guard=none)(d:Nat)(hd:o.dst=some d)(e:TypeId)(s:Nat)
 (hrun:(execOp a.eval o).run Tryz.prog w=.ok (.value (.slice (some ⟨w.heap.size,0,none⟩) 0 0)) (w.alloc (.cells #[] e)))
 (h:∀ b W',Below w.heap.size w W'→W'.ownsRow w.heap.size e s (.slice (some ⟨b,0,none⟩) 0 0) 0 []→w.heap.size≤b→b<W'.heap.size→K (a.put (some d) (.slice (some ⟨b,0,none⟩) 0 0)) W') :
 if Region.wanted o (yielded ops a.tmps)=true then Oper.wp Tryz.prog o a w K Q else E:=by
 have hw:Region.wanted o (yielded ops a.tmps)=true:=by simp[Region.wanted,hgd]
 rw[if_pos hw];have h':=h w.heap.size _ (ze w (.cells #[] e)) (World.ownsRow_lit w #[] 0 (nR _) (Nat.zero_le _) (by simp)) (nR _) (by simp);rw[← hd] at h';unfold Oper.wp;rw[hrun];exact h'
theorem zaC{w:World}{B t s n c j:Nat}{v u:Value}{xs:List Value}(ho:w.ownsRow B t s v n xs)(hc:c<B):(w.setCell ⟨c,j,none⟩ u).ownsRow B t s v n xs:=zi ho (fun k hk e=>by have:=(oL ho k hk).1;omega)
def oneB(v:Value):List Nat:=v.ownBlock.toList
theorem mem_oneB{v:Value}{k:Nat}:k∈oneB v↔v.ownBlock=some k:=by
 unfold oneB;rw[Option.mem_toList]
structure Touch (bs:List Nat) (w w':World):Prop where
 os:w'.os=w.os
 tape:w'.tape=w.tape
 output:w'.output=w.output
 size:w.heap.size≤w'.heap.size
 block:∀ k,k<w.heap.size→k ∉ bs→w'.heap[k]? = w.heap[k]?
theorem Touch.refl(bs:List Nat)(w:World):Touch bs w w:=⟨rfl,rfl,rfl,nR _,fun _ _ _=>rfl⟩
theorem Touch.of_below{bs:List Nat}{w w':World}(h:Below w.heap.size w w'):Touch bs w w':=⟨h.os,h.tape,h.output,h.size,fun k hk _=>h.block k hk⟩
theorem Touch.of_grown{bs:List Nat}{w w':World}{row:Option Nat}(h:w.grownBy w' row)(hr:∀ k,row=some k→k∈bs):Touch bs w w':=⟨h.os,h.tape,h.output,h.size,fun k hk hn=>h.block k hk (fun e=>hn (hr k e.symm))⟩
theorem Touch.set{bs:List Nat}{w:World}{g j:Nat}{u:Value}(hg:g∈bs):Touch bs w (w.setCell ⟨g,j,none⟩ u):=⟨rfl,rfl,rfl,by simp,fun k _ hn=>heap_setCell_other w ⟨g,j,none⟩ k u (fun e=>hn (by rw[e];exact hg))⟩
theorem Touch.trans{bs:List Nat}{a b c:World}(h:Touch bs a b)(k:Touch bs b c):Touch bs a c:=⟨k.os.trans h.os,k.tape.trans h.tape,k.output.trans h.output,nT h.size k.size,fun i hi hn=>(k.block i (Nat.lt_of_lt_of_le hi h.size) hn).trans (h.block i hi hn)⟩
theorem Touch.more{bs cs:List Nat}{w w':World}(h:Touch bs w w')(hs:∀ k∈bs,k∈cs):Touch cs w w':=⟨h.os,h.tape,h.output,h.size,fun k hk hn=>h.block k hk (fun e=>hn (hs k e))⟩
theorem Touch.row{bs:List Nat}{w w':World}{B t s n:Nat}{v:Value}{xs:List Value}(h:Touch bs w w')(ho:w.ownsRow B t s v n xs)(hn:∀ k,v.ownBlock=some k→k ∉ bs):w'.ownsRow B t s v n xs:=by
 refine⟨ho.1,?_⟩;rcases ho.2 with h2 | ⟨g,cap,cur,hv,hg,hh,r⟩
 ·exact .inl h2
 ·have hgo:v.ownBlock=some g:=by rw[hv];rfl
  exact .inr ⟨g,cap,cur,hv,hg,(h.block g (oL ho g hgo).2 (hn g hgo)).trans hh,r⟩
theorem Touch.below{bs:List Nat}{a w w':World}(h:Touch bs w w')(hb:Below a.heap.size a w)(hn:∀ k∈bs,a.heap.size≤k):Below a.heap.size a w' :=
 ⟨h.os.trans hb.os,h.tape.trans hb.tape,h.output.trans hb.output,nT hb.size h.size,fun k hk=>(h.block k (Nat.lt_of_lt_of_le hk hb.size) (fun e=>by have:=hn k e;omega)).trans (hb.block k hk)⟩
theorem zaB{w:World}{B t z n:Nat}{v:Value}{xs:List Value}(h:w.ownsRow B t z v n xs):NilOk v:=by
 intro m c e;rcases h.2 with ⟨hv,_⟩ | ⟨g,cap,cur,hv,_⟩
 ·rw[hv] at e;cases e;rfl
 ·rw[hv] at e;cases e
open Go.RowKit
theorem zbE(a b:ByteArray):(a.toList==b.toList)=kEq a b:=by
 rw[Bool.eq_iff_iff,beq_iff_eq];unfold kEq;rw[decide_eq_true_eq];exact⟨zcc,fun h=>by rw[h]⟩
theorem ahd_w1{a b:Ent}(h:Op.bytesLess a.key.toList b.key.toList=true):true=ahd a b:=by
 have:kLt a.key b.key=true:=h;simp[ahd,this]
theorem ahd_w2{a b:Ent}(_h:¬ Op.bytesLess a.key.toList b.key.toList=true)(h2:a.key.toList=b.key.toList):decide (b.seq<a.seq)=ahd a b:=by
 have h3:=zcc h2;simp[ahd,h3,zab,kEq]
theorem ahd_w3{a b:Ent}(h:¬ Op.bytesLess a.key.toList b.key.toList=true)(h2:¬ a.key.toList=b.key.toList):false=ahd a b:=by
 have h3:a.key≠b.key:=fun e=>h2 (by rw[e])
 have h4:kLt a.key b.key=false:=by simpa [kLt] using h
 simp[ahd,h3,h4,kEq]
theorem zbh(a b:Ent)(w:World) :
 Calls Tryz.prog 116 #[.agg #[.string a.key,.string a.val,.int .i64 a.seq,.bool a.gone],.agg #[.string b.key,.string b.val,.int .i64 b.seq,.bool b.gone]] w fun e w'=>e=.returned (.bool (ahd a b))∧Below w.heap.size w w':=by
 go_enter Tryz.func116,Tryz.ntmps116
 go_wp2;all_goals go_ret
 ·exact⟨zN (ahd_w1 ‹_›),zdl _ _ _⟩
 ·exact⟨zN (ahd_w2 ‹_› ‹_›),zdl _ _ _⟩
 ·exact⟨zN (ahd_w3 ‹_› ‹_›),zdl _ _ _⟩
theorem ziB(x lo hi:Int)(w:World) :
 Calls Tryz.prog 50 #[.int .i64 x,.int .i64 lo,.int .i64 hi] w fun e w'=>e=.returned (.bool (decide (lo≤x)&&decide (x≤hi)))∧w'=w:=by
 go_enter Tryz.func50,Tryz.ntmps50
 go_wp2;all_goals go_ret
 ·exact⟨by simp_all,rfl⟩
 ·exact⟨zN (by rw[Bool.eq_iff_iff];simp;omega),rfl⟩
theorem zjp(s:ByteArray):s.toList=[]↔s.size=0:=by
 rw[ByteArray.toList_eq,List.eq_nil_iff_length_eq_zero,Array.length_toList];exact Iff.rfl
theorem zow(a:Ent):okE a=true↔1≤(a.key.size:Int)∧(a.key.size:Int)≤40∧(a.val.size:Int)≤200∧(a.gone=true→a.val.size=0)∧1≤a.seq∧a.seq≤1000000:=by
 simp only[okE,Bool.and_eq_true,Bool.or_eq_true,Bool.not_eq_true',decide_eq_true_eq];generalize a.val.size=v;generalize a.key.size=k;cases a.gone<;>simp<;>omega
theorem zeq(a:Ent)(w:World)(hf:Fits a) :
 Calls Tryz.prog 122 #[.agg #[.string a.key,.string a.val,.int .i64 a.seq,.bool a.gone]] w fun e w'=>e=.returned (.bool (okE a))∧Below w.heap.size w w':=by
 obtain⟨f1,f2,f3,f4⟩:=hf;go_enter Tryz.func122,Tryz.ntmps122
 go_wp2_with (go_at_call 50;refine(ziB _ _ _ _).mono ?_;rintro e w' ⟨rfl,rfl⟩)
 all_goals go_ret
 all_goals refine⟨zN ?_,ze _ _⟩
 all_goals rw[Bool.eq_iff_iff,zow]
 all_goals simp_all [zjp]
 all_goals omega
theorem zgT(a:Ent)(w:World)(hf:Fits a) :
 Calls Tryz.prog 99 #[.agg #[.string a.key,.string a.val,.int .i64 a.seq,.bool a.gone]] w fun e w'=>e=.returned (.bool (okE a))∧Below w.heap.size w w':=by
 obtain⟨f1,f2,f3,f4⟩:=hf;go_enter Tryz.func99,Tryz.ntmps99
 go_wp2;all_goals go_ret
 all_goals refine⟨zN ?_,ze _ _⟩
 all_goals rw[Bool.eq_iff_iff,zow]
 all_goals simp_all [zjp]
 all_goals omega
theorem cmpK_w1{a b:ByteArray}(h:Op.bytesLess a.toList b.toList=true) : -1=cmpK a b:=by
 have:kLt a b=true:=h;simp[cmpK,this]
theorem cmpK_w2{a b:ByteArray}(h:Op.bytesLess a.toList b.toList=false)(h2:¬ a.toList=b.toList):1=cmpK a b:=by
 have h3:kLt a b=false:=h;have h4:kLt b a=true:=by
  cases h5:kLt b a with
  | true=>rfl
  | false=>exact absurd (congrArg ByteArray.toList (zle h3 h5)) h2
 simp[cmpK,h3,h4]
theorem cmpK_w3{a b:ByteArray}(h2:a.toList=b.toList):0=cmpK a b:=by
 have:=zcc h2;subst this;simp[cmpK,zab]
theorem zmI(s:ByteArray)(w:World):Calls Tryz.prog 145 #[.string s] w fun e w'=>e=.returned (.bool false)∧w'=w:=by
 go_enter Tryz.func145,Tryz.ntmps145
 go_wp2;go_ret;exact⟨by simp,rfl⟩
theorem zmt(s:Int)(w:World):Calls Tryz.prog 146 #[.int .i64 s] w fun e w'=>e=.returned (.bool false)∧w'=w:=by
 go_enter Tryz.func146,Tryz.ntmps146
 go_wp2;go_ret;exact⟨by simp,rfl⟩
theorem zmR(a b:ByteArray)(w:World):Calls Tryz.prog 126 #[.string a,.string b] w fun e w'=>e=.returned (.int .i64 (cmpK a b))∧w'=w:=by
 go_enter Tryz.func126,Tryz.ntmps126
 go_wp2_with (go_at_call 145;refine(zmI _ _).mono ?_;rintro e w' ⟨rfl,rfl⟩)
 all_goals go_ret
 ·exact⟨ze8 (cmpK_w1 ‹_›),rfl⟩
 ·exact⟨ze8 (cmpK_w2 ‹_› (by simp_all)),rfl⟩
 ·exact⟨ze8 (cmpK_w3 (by simp_all)),rfl⟩
theorem znq(a b:Int)(w:World):Calls Tryz.prog 127 #[.int .i64 a,.int .i64 b] w fun e w'=>e=.returned (.int .i64 (cmpI a b))∧w'=w:=by
 go_enter Tryz.func127,Tryz.ntmps127
 go_wp2_with (go_at_call 146;refine(zmt _ _).mono ?_;rintro e w' ⟨rfl,rfl⟩)
 all_goals go_ret
 all_goals exact⟨ze8 (by unfold cmpI;first | rw[if_pos ‹_›] | (rw[if_neg (by omega)];first | rw[if_pos ‹_›] | rw[if_neg (by omega)])),rfl⟩
theorem zpt(a b:ByteArray) : -1≤cmpK a b∧cmpK a b≤1:=by unfold cmpK;split<;>(try split)<;>omega
theorem zkm(a b:Int) : -1≤cmpI a b∧cmpI a b≤1:=by unfold cmpI;split<;>(try split)<;>omega
theorem or_any(x y:Int)(b:Nat)(w:World)(h0:w.cell? ⟨b,0,none⟩=some (.int .i64 x))(h1:w.cell? ⟨b,1,none⟩=some (.int .i64 y))(bx : -1≤x∧x≤1)(hy1 : -1≤y∧y≤1) :
 Calls Tryz.prog 125 #[.slice (some ⟨b,0,none⟩) 2 2] w fun e w'=>e=.returned (.int .i64 (if x≠0 then x else y))∧w'=w:=by
 by_cases hx:x=0
 ·have hy':(if x≠0 then x else y)=y:=by simp[hx]
  rw[hy'];clear hy';subst hx;by_cases hy:y=0
  ·subst hy;go_enter Tryz.func125,Tryz.ntmps125
   go_wp2;refine wp_loop_rounds 3 ?_;rw[rounds_succ];go_wp2;rw[rounds_succ];go_wp2;rw[rounds_succ];go_wp2;go_ret;exact⟨rfl,rfl⟩
  ·have hy2:(y != 0)=true:=(by simpa using hy);go_enter Tryz.func125,Tryz.ntmps125
   go_wp2;refine wp_loop_rounds 3 ?_;rw[rounds_succ];go_wp2;rw[rounds_succ];go_wp2;go_ret;exact⟨rfl,rfl⟩
 ·have hx':(if x≠0 then x else y)=x:=by simp[hx]
  rw[hx'];clear hx';have hx2:(x != 0)=true:=by simpa using hx
  go_enter Tryz.func125,Tryz.ntmps125
  go_wp2;refine wp_loop_rounds 3 ?_;rw[rounds_succ];go_wp2;go_ret;exact⟨rfl,rfl⟩
end Go.Proofs.YtjlnchhgkfnldaaGreat
