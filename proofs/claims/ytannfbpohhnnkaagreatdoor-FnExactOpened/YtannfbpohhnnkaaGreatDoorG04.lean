import Derived.Test.YtannfbpohhnnkaaGreatDoorG03
import Derived.Lib.ConvBytes
namespace Go.Proofs.YtannfbpohhnnkaaGreatDoor
set_option maxHeartbeats 16000000
set_option maxRecDepth 100000
def comB:List UInt8→List UInt8→Nat
 | a::x,b::y=>if a=b then comB x y+1 else 0
 | [],_=>0
 | _::_,[]=>0
theorem zqv:∀ x y:List UInt8,comB x y≤x.length∧comB x y≤y.length
 | [],_=>by simp[comB]
 | _::_,[]=>by simp[comB]
 | a::x,b::y=>by
  have:=zqv x y;rw[comB];split
  ·simp only[List.length_cons];omega
  ·simp
theorem zkB:∀ x y:List UInt8,x.take (comB x y)=y.take (comB x y)
 | [],_=>by simp[comB]
 | _::_,[]=>by simp[comB]
 | a::x,b::y=>by
  rw[comB];split
  ·rename_i h;subst h;rw[List.take_succ_cons,List.take_succ_cons,zkB x y]
  ·simp
theorem comB_end{x y:List UInt8}{k:Nat}(h:x.length≤k∨y.length≤k):comB (x.drop k) (y.drop k)=0:=by
 rcases h with h | h
 ·rw[List.drop_eq_nil_of_le h];simp[comB]
 ·rw[List.drop_eq_nil_of_le h];cases x.drop k<;>simp[comB]
theorem comB_ne{x y:List UInt8}{k:Nat}(h1:k<x.length)(h2:k<y.length)(h:x[k]≠y[k]):comB (x.drop k) (y.drop k)=0:=by
 rw[List.drop_eq_getElem_cons h1,List.drop_eq_getElem_cons h2,comB,if_neg h]
theorem comB_eq{x y:List UInt8}{k:Nat}(h1:k<x.length)(h2:k<y.length)(h:x[k]=y[k]):comB (x.drop k) (y.drop k)=comB (x.drop (k+1)) (y.drop (k+1))+1:=by
 rw[List.drop_eq_getElem_cons h1,List.drop_eq_getElem_cons h2,comB,if_pos h]
def com(a b:ByteArray):Nat:=comB a.data.toList b.data.toList
theorem zjS(a b:ByteArray):com a b≤a.size∧com a b≤b.size:=by
 have:=zqv a.data.toList b.data.toList;rw[ze,ze] at this;exact this
def stp(e:Ent):Nat:=2*e.seq.toNat+(if e.gone=true then 1 else 0)
def packE(last:ByteArray)(e:Ent):List UInt8 :=
 enc (com last e.key)++((enc (e.key.size-com last e.key)++e.key.data.toList.drop (com last e.key))++(enc (stp e)++(enc e.val.size++e.val.data.toList)))
def ahead(i:Nat)(last:ByteArray):ByteArray:=if i % 8=0 then ⟨#[]⟩ else last
def packF:Nat→ByteArray→List Ent→List UInt8
 | _,_,[]=>[]
 | i,last,e::r=>packE (ahead i last) e++packF (i+1) e.key r
def packA(es:List Ent):List UInt8:=enc es.length++packF 0 ⟨#[]⟩ es
def packL(es:List Ent):List UInt8:=if okL es=true then packA es else []
theorem zgi{es:List Ent}{k:Nat}(h:k<es.length)(last:ByteArray):packF k last (es.drop k)=packE (ahead k last) (nth es k)++packF (k+1) (nth es k).key (es.drop (k+1)):=by
 rw[List.drop_eq_getElem_cons h,packF,zE h]
theorem zkN(es:List Ent)(last:ByteArray):packF es.length last (es.drop es.length)=[]:=by
 rw[List.drop_eq_nil_of_le (Nat.le_refl _),packF]
theorem zaE{e:Ent}(h:okE e=true):1≤e.key.size∧e.key.size≤40∧e.val.size≤200∧1≤e.seq∧e.seq≤1000000:=by
 simp only[okE,Bool.and_eq_true,decide_eq_true_eq] at h;obtain⟨⟨⟨⟨⟨h1,h2⟩,h3⟩,_⟩,h5⟩,h6⟩:=h;exact⟨h1,h2,h3,h5,h6⟩
theorem zoq{e:Ent}(h:okE e=true):stp e≤2000001:=by
 have:=zaE h;unfold stp;split<;>omega
theorem zeQ{last:ByteArray}{e:Ent}(h:okE e=true):(packE last e).length≤300:=by
 have hp:=zaE h;have hs:=zoq h;have hc:=zjS last e.key;have h1:=zT (com last e.key) (by omega);have h2:=zT (e.key.size-com last e.key) (by omega);have h3:=zT (stp e) (by omega);have h4:=zT e.val.size (by omega);unfold packE;simp only[List.length_append,List.length_drop,ze];omega
def PkE(e:Ent):Prop:=e.key.size≤1000∧e.val.size≤1000∧0≤e.seq∧e.seq≤1000000000
theorem zqe{e:Ent}(h:okE e=true):PkE e:=by
 have:=zaE h;exact⟨by omega,by omega,by omega,by omega⟩
theorem zoI{e:Ent}(h:PkE e):stp e≤2000000001:=by
 obtain⟨_,_,_,_⟩:=h;unfold stp;split<;>omega
theorem zjP:∀ (es:List Ent) (i:Nat) (last:ByteArray),(∀ e∈es,okE e=true)→(packF i last es).length≤300*es.length
 | [],_,_,_=>by simp[packF]
 | e::r,i,last,h=>by
  have h1:=zeQ (last:=ahead i last) (h e List.mem_cons_self);have h2:=zjP r (i+1) e.key (fun x hx=>h x (List.mem_cons_of_mem _ hx));rw[packF,List.length_append,List.length_cons];omega
theorem zdx{es:List Ent}(h:okL es=true):∀ e∈es,okE e=true:=((za0 es).1 h).2.1
theorem zpQ{es:List Ent}(h:okL es=true):(packA es).length≤90009:=by
 have h1:=zjP es 0 ⟨#[]⟩ (zdx h);have h2:=zZ h;have h3:=zT es.length (by omega);unfold packA;rw[List.length_append];omega
def rdEnt(chk:Bool)(last:ByteArray)(bs:List UInt8):Option (Ent×Nat) :=
 if (rdNum bs).2=0∨last.size<(rdNum bs).1∨(zr (bs.drop (rdNum bs).2)).2=0 then none
 else if chk=true∧com last ⟨(last.data.toList.take (rdNum bs).1++(zr (bs.drop (rdNum bs).2)).1).toArray⟩≠(rdNum bs).1 then none
 else if (rdNum (bs.drop ((rdNum bs).2+(zr (bs.drop (rdNum bs).2)).2))).2=0∨(zr (bs.drop ((rdNum bs).2+(zr (bs.drop (rdNum bs).2)).2+(rdNum (bs.drop ((rdNum bs).2+(zr (bs.drop (rdNum bs).2)).2))).2))).2=0 then none
 else some (⟨⟨(last.data.toList.take (rdNum bs).1++(zr (bs.drop (rdNum bs).2)).1).toArray⟩,
  ⟨(zr (bs.drop ((rdNum bs).2+(zr (bs.drop (rdNum bs).2)).2+(rdNum (bs.drop ((rdNum bs).2+(zr (bs.drop (rdNum bs).2)).2))).2))).1.toArray⟩,
  (((rdNum (bs.drop ((rdNum bs).2+(zr (bs.drop (rdNum bs).2)).2))).1 / 2:Nat):Int),decide ((rdNum (bs.drop ((rdNum bs).2+(zr (bs.drop (rdNum bs).2)).2))).1 % 2=1)⟩,
  (rdNum bs).2+(zr (bs.drop (rdNum bs).2)).2+(rdNum (bs.drop ((rdNum bs).2+(zr (bs.drop (rdNum bs).2)).2))).2+(zr (bs.drop ((rdNum bs).2+(zr (bs.drop (rdNum bs).2)).2+(rdNum (bs.drop ((rdNum bs).2+(zr (bs.drop (rdNum bs).2)).2))).2))).2)
def zY(chk:Bool)(last:ByteArray)(a:Nat×Nat)(t:List UInt8×Nat)(s:Nat×Nat)(v:List UInt8×Nat):Option (Ent×Nat) :=
 if a.2=0∨last.size<a.1∨t.2=0 then none
 else if chk=true∧com last ⟨(last.data.toList.take a.1++t.1).toArray⟩≠a.1 then none
 else if s.2=0∨v.2=0 then none
 else some (⟨⟨(last.data.toList.take a.1++t.1).toArray⟩,⟨v.1.toArray⟩,((s.1 / 2:Nat):Int),decide (s.1 % 2=1)⟩,a.2+t.2+s.2+v.2)
theorem zbJ(chk:Bool)(last:ByteArray)(bs:List UInt8)(a:Nat×Nat)(t:List UInt8×Nat)(s:Nat×Nat)(v:List UInt8×Nat)(ha:rdNum bs=a)(ht:zr (bs.drop a.2)=t)(hs:rdNum (bs.drop (a.2+t.2))=s)(hv:zr (bs.drop (a.2+t.2+s.2))=v) :
 rdEnt chk last bs=zY chk last a t s v:=by
 subst ha;subst ht;subst hs;subst hv;rfl
theorem zlm(l r:List UInt8)(h:l.length≤3000):zr ((enc l.length++l)++r)=(l,(enc l.length++l).length):=by
 have:=zfA ⟨l.toArray⟩ r (by show l.toArray.size≤3000;simpa using h);simpa [ByteArray.size] using this
theorem zca{a b:List UInt8}:(a++b).drop a.length=b:=List.drop_left
theorem znm(chk:Bool)(last:ByteArray)(e:Ent)(r:List UInt8)(h:okE e=true):rdEnt chk last (packE last e++r)=some (e,(packE last e).length):=by
 have hp:=zaE h;have hs:=zoq h;have hc:=zjS last e.key;have hkl:=ze e.key;have hvl:=ze e.val;obtain⟨c,hcd⟩:∃ c,com last e.key=c:=⟨_,rfl⟩;obtain⟨l,hl⟩:∃ l,e.key.data.toList.drop c=l:=⟨_,rfl⟩;have hll:l.length=e.key.size-c:=by rw[← hl,List.length_drop,hkl]
 have hE:packE last e=enc c++((enc l.length++l)++(enc (stp e)++(enc e.val.size++e.val.data.toList))):=by
  unfold packE;rw[hcd,hl,hll]
 rw[hcd] at hc;have hb0:packE last e++r=enc c++((enc l.length++l)++(enc (stp e)++((enc e.val.size++e.val.data.toList)++r))):=by rw[hE];simp only[List.append_assoc]
 have ha:=zdr c ((enc l.length++l)++(enc (stp e)++((enc e.val.size++e.val.data.toList)++r))) (by omega);have ht:=zlm l (enc (stp e)++((enc e.val.size++e.val.data.toList)++r)) (by omega);have hst:=zdr (stp e) ((enc e.val.size++e.val.data.toList)++r) (by omega);have hv:=zfA e.val r (by omega);rw[hb0];rw[zbJ chk last _ (c,(enc c).length) (l,(enc l.length++l).length) (stp e,(enc (stp e)).length) (e.val.data.toList,(enc e.val.size++e.val.data.toList).length) ha (by rw[zca];exact ht) (by rw[← List.drop_drop,zca,zca];exact hst) (by rw[← List.drop_drop,← List.drop_drop,zca,zca,zca];exact hv)];have hkey:(⟨(last.data.toList.take c++l).toArray⟩:ByteArray)=e.key:=by
  have ht:=zkB last.data.toList e.key.data.toList;have:com last e.key=comB last.data.toList e.key.data.toList:=rfl;rw[← this,hcd] at ht;rw[ht,← hl,List.take_append_drop]
 have p1:=zbL c;have p2:=zbL l.length;have p3:=zbL (stp e);have p4:=zbL e.val.size;unfold zY;simp only[hkey];rw[if_neg (by simp only[List.length_append];omega),if_neg (by rw[hcd];simp),if_neg (by simp only[List.length_append];omega),back,hE];have h2:(((stp e / 2:Nat):Int))=e.seq:=by unfold stp;split<;>omega
 have h3:decide (stp e % 2=1)=e.gone:=by
  unfold stp;cases hg:e.gone with
  | true=>rw[if_pos rfl];exact decide_eq_true (by omega)
  | false=>rw[if_neg (by simp)];exact decide_eq_false (by omega)
 rw[h2,h3];simp only[List.length_append,Nat.add_assoc]
theorem zod(last:ByteArray)(bs:List UInt8)(e:Ent)(k:Nat)(h:rdEnt true last bs=some (e,k)):bs.take k=packE last e∧k=(packE last e).length∧k≤bs.length:=by
 obtain⟨a,ha⟩:∃ a,rdNum bs=a:=⟨_,rfl⟩;obtain⟨t,ht⟩:∃ t,zr (bs.drop a.2)=t:=⟨_,rfl⟩;obtain⟨s,hs⟩:∃ s,rdNum (bs.drop (a.2+t.2))=s:=⟨_,rfl⟩;obtain⟨v,hv⟩:∃ v,zr (bs.drop (a.2+t.2+s.2))=v:=⟨_,rfl⟩;rw[zbJ true last bs a t s v ha ht hs hv] at h;unfold zY at h;by_cases h1:a.2=0∨last.size<a.1∨t.2=0
 ·rw[if_pos h1] at h;cases h
 rw[if_neg h1] at h;by_cases h2:true=true∧com last ⟨(last.data.toList.take a.1++t.1).toArray⟩≠a.1
 ·rw[if_pos h2] at h;cases h
 rw[if_neg h2] at h;by_cases h3:s.2=0∨v.2=0
 ·rw[if_pos h3] at h;cases h
 rw[if_neg h3] at h;obtain⟨he,hk⟩:=Prod.mk.inj (Option.some.inj h);have hcom:com last ⟨(last.data.toList.take a.1++t.1).toArray⟩=a.1:=by
  refine Decidable.byContradiction fun hn=>h2 ⟨rfl,hn⟩
 have A:=zcw bs (by rw[ha];omega);rw[ha] at A;have T:=zes (bs.drop a.2) (by rw[ht];omega);rw[ht] at T;have S:=zcw (bs.drop (a.2+t.2)) (by rw[hs];omega);rw[hs] at S;have V:=zes (bs.drop (a.2+t.2+s.2)) (by rw[hv];omega);rw[hv] at V;have la:=(zag bs).1;rw[ha] at la;have ls:=(zag (bs.drop (a.2+t.2))).1;rw[hs] at ls;have lt:=T.2.2;have lv:=V.2.2;simp only[List.length_drop] at ls lt lv;have ltk:(last.data.toList.take a.1).length=a.1:=by rw[List.length_take,ze];omega
 have e1:e.key.data.toList=last.data.toList.take a.1++t.1:=by rw[← he]
 have e2:e.key.size=a.1+t.1.length:=by rw[← ze,e1,List.length_append,ltk]
 have e3:com last e.key=a.1:=by rw[← he];exact hcom
 have e4:e.val.data.toList=v.1:=by rw[← he]
 have e5:e.val.size=v.1.length:=by rw[← ze,e4]
 have e6:stp e=s.1:=by
  have q1:e.seq=((s.1 / 2:Nat):Int):=by rw[← he]
  have q2:e.gone=decide (s.1 % 2=1):=by rw[← he]
  unfold stp;rw[q1,q2];simp only[decide_eq_true_eq];split<;>omega
 have hP:packE last e=enc a.1++((enc t.1.length++t.1)++(enc s.1++(enc v.1.length++v.1))):=by
  unfold packE;rw[e3,e6,e5,e4,e2,e1,show a.1+t.1.length-a.1=t.1.length by omega];rw[List.drop_append_of_le_length (by omega),List.drop_eq_nil_of_le (by omega),List.nil_append]
 have hB:bs.take k=packE last e:=by
  rw[hP,← A.1,← T.2.1,← S.1,← V.2.1,← hk];rw[List.take_add,List.take_add,List.take_add];simp only[List.append_assoc]
 refine⟨hB,?_,by omega⟩;rw[← hB,List.length_take];omega
def rdEs(chk:Bool)(bs:List UInt8):Nat→Nat→List Ent→ByteArray→Option (List Ent×Nat)
 | 0,p,acc,_=>some (acc,p)
 | n+1,p,acc,last=>match rdEnt chk (ahead acc.length last) (bs.drop p) with
  | none=>none
  | some (e,k)=>rdEs chk bs n (p+k) (acc++[e]) e.key
theorem zi7{chk:Bool}{bs:List UInt8}{n p:Nat}{acc:List Ent}{last:ByteArray}(h:rdEnt chk (ahead acc.length last) (bs.drop p)=none):rdEs chk bs (n+1) p acc last=none:=by
 rw[rdEs,h]
theorem zhB{chk:Bool}{bs:List UInt8}{n p k:Nat}{acc:List Ent}{last:ByteArray}{e:Ent}(h:rdEnt chk (ahead acc.length last) (bs.drop p)=some (e,k)):rdEs chk bs (n+1) p acc last=rdEs chk bs n (p+k) (acc++[e]) e.key:=by
 rw[rdEs,h]
theorem zkh(chk:Bool)(bs r:List UInt8):∀ (es:List Ent) (p:Nat) (acc:List Ent) (last:ByteArray),(∀ e∈es,okE e=true)→bs.drop p=packF acc.length last es++r→rdEs chk bs es.length p acc last=some (acc++es,p+(packF acc.length last es).length)
 | [],p,acc,last,_,_=>by simp[rdEs,packF]
 | e::es,p,acc,last,h,hd=>by
  have hE:=znm chk (ahead acc.length last) e (packF (acc.length+1) e.key es++r) (h e List.mem_cons_self);rw[packF,List.append_assoc] at hd;rw[List.length_cons,zhB (by rw[hd];exact hE)];have hlen:(acc++[e]).length=acc.length+1:=by simp
  have:=zkh chk bs r es (p+(packE (ahead acc.length last) e).length) (acc++[e]) e.key (fun x hx=>h x (List.mem_cons_of_mem _ hx)) (by rw[← List.drop_drop,hd,zca,hlen]);rw[this,hlen,packF];simp only[List.append_assoc,List.singleton_append,List.length_append,Nat.add_assoc]
theorem zjF(bs:List UInt8):∀ (n p:Nat) (acc:List Ent) (last:ByteArray) (x:List Ent×Nat),p≤bs.length→rdEs true bs n p acc last=some x→∃ es,x.1=acc++es∧es.length=n∧x.2=p+(packF acc.length last es).length∧(bs.drop p).take (packF acc.length last es).length=packF acc.length last es∧x.2≤bs.length
 | 0,p,acc,last,x,hp,h=>by
  rw[rdEs] at h;cases h
  exact⟨[],by simp,rfl,by simp[packF],by simp[packF],hp⟩
 | n+1,p,acc,last,x,hp,h=>by
  cases hE:rdEnt true (ahead acc.length last) (bs.drop p) with
  | none=>rw[zi7 hE] at h;cases h
  | some y =>
   obtain⟨e,k⟩:=y;rw[zhB hE] at h;obtain⟨b1,b2,b3⟩:=zod _ _ _ _ hE;rw[List.length_drop] at b3;obtain⟨es,h1,h2,h3,h4,h5⟩:=zjF bs n (p+k) (acc++[e]) e.key x (by omega) h;have hlen:(acc++[e]).length=acc.length+1:=by simp
   rw[hlen] at h3 h4;refine⟨e::es,by rw[h1];simp,by rw[List.length_cons,h2],?_,?_,h5⟩
   ·rw[packF,List.length_append,← b2,h3];omega
   ·rw[packF,List.length_append,← b2,List.take_add,b1,List.drop_drop,h4]
def unpC(chk:Bool)(bs:List UInt8):Option (List Ent×Nat):=if (rdNum bs).2=0∨300<(rdNum bs).1 then none else rdEs chk bs (rdNum bs).1 (rdNum bs).2 [] ⟨#[]⟩
def finI(bs:List UInt8):Option (List Ent×Nat)→List Ent×Bool
 | none=>([],false)
 | some (es,p)=>if p=bs.length∧okL es=true then (es,true) else ([],false)
def finS(bs:List UInt8):Option (List Ent×Nat)→List Ent×Bool
 | none=>([],false)
 | some (es,_)=>if packL es=bs then (es,true) else ([],false)
def unpI(bs:List UInt8):List Ent×Bool:=finI bs (unpC true bs)
def unpS(bs:List UInt8):List Ent×Bool:=finS bs (unpC false bs)
theorem zkd(chk:Bool)(es:List Ent)(r:List UInt8)(h:okL es=true):unpC chk (packA es++r)=some (es,(packA es).length):=by
 have hl:=zZ h;have hp:=zbL es.length;unfold unpC packA;rw[List.append_assoc,zdr es.length _ (by omega)];simp only;rw[if_neg (by omega),zkh chk _ r es _ [] ⟨#[]⟩ (zdx h) (by rw[zca];rfl),List.nil_append,List.length_append];rfl
theorem zju{es:List Ent}(h:okL es=true):unpI (packA es)=(es,true):=by
 have:=zkd true es [] h;rw[List.append_nil] at this;unfold unpI finI;rw[this];simp[h]
theorem zhm{bs:List UInt8}{es:List Ent}(h:unpI bs=(es,true)):okL es=true∧packA es=bs:=by
 unfold unpI at h;cases hc:unpC true bs with
 | none=>rw[hc] at h;cases h
 | some x =>
  obtain⟨ys,p⟩:=x;rw[hc] at h;unfold finI at h;simp only at h;by_cases hh:p=bs.length∧okL ys=true
  ·rw[if_pos hh] at h;obtain⟨he,_⟩:=Prod.mk.inj h;subst he;refine⟨hh.2,?_⟩;unfold unpC at hc;by_cases hn:(rdNum bs).2=0∨300<(rdNum bs).1
   ·rw[if_pos hn] at hc;cases hc
   ·rw[if_neg hn] at hc;have hb:=zcw bs (by omega);have hl:=(zag bs).1;obtain⟨es,h1,h2,h3,h4,h5⟩:=zjF bs _ _ _ _ _ hl hc;simp only[List.nil_append,List.length_nil] at h1 h2 h3 h4 h5;subst h1;unfold packA;have h6:bs.drop (rdNum bs).2=packF 0 ⟨#[]⟩ ys:=by rw[← h4];exact(List.take_of_length_le (by rw[List.length_drop];omega)).symm
    rw[h2,← hb.1,← h6,List.take_append_drop]
  ·rw[if_neg hh] at h;cases h
theorem zqm{bs:List UInt8}{es:List Ent}(h:unpI bs=(es,false)):es=[]:=by
 unfold unpI at h;cases hc:unpC true bs with
 | none=>rw[hc] at h;cases h;rfl
 | some x =>
  obtain⟨ys,p⟩:=x;rw[hc] at h;unfold finI at h;simp only at h;split at h
  ·cases h
  ·cases h;rfl
theorem ze4{es:List Ent}(h:okL es=true):packL es=packA es:=by unfold packL;rw[if_pos h]
theorem unp_same(bs:List UInt8):unpS bs=unpI bs:=by
 cases hI:unpI bs with
 | mk es ok =>
  cases ok with
  | true =>
   obtain⟨h1,h2⟩:=zhm hI;have:=zkd false es [] h1;rw[List.append_nil,h2] at this;unfold unpS finS;rw[this];simp only;rw[if_pos (by rw[ze4 h1];exact h2)]
  | false =>
   have he:=zqm hI;subst he;unfold unpS;cases hc:unpC false bs with
   | none=>rfl
   | some x =>
    obtain⟨ys,p⟩:=x;unfold finS;simp only;by_cases hp:packL ys=bs
    ·exfalso;cases hk:okL ys with
     | true =>
      rw[ze4 hk] at hp;have:=zju hk;rw[hp,hI] at this;cases this
     | false =>
      unfold packL at hp;rw[if_neg (by simp[hk])] at hp;subst hp;simp[unpC,rdNum,rdF] at hc
    ·rw[if_neg hp]
open Go.RowKit
def stepD(h:Nat)(b:UInt8):Nat:=(h*1000003+b.toNat+1) % 2147483647
def dig(h:Nat)(bs:List UInt8):Nat:=bs.foldl stepD h
theorem zi1(h:Nat)(b:UInt8):stepD h b<2147483647:=Nat.mod_lt _ (by omega)
theorem zir(bs:List UInt8):∀ h,h<2147483647→dig h bs<2147483647:=by
 induction bs with
 | nil=>intro h hh;exact hh
 | cons b bs ih=>intro h _;exact ih _ (zi1 h b)
theorem znj(h:Nat)(a b:List UInt8):dig h (a++b)=dig (dig h a) b:=List.foldl_append
theorem dig_at(h k:Nat)(bs:List UInt8)(hk:k<bs.length):dig h (bs.drop k)=dig (stepD h bs[k]) (bs.drop (k+1)):=by
 rw[List.drop_eq_getElem_cons hk];rfl
theorem zpo(h k:Nat)(bs:List UInt8)(hk:bs.length≤k):dig h (bs.drop k)=h:=by
 rw[List.drop_eq_nil_of_le hk];rfl
theorem zpu{k:IntKind}{a b:Int}(h:a=b):Ending.returned (.int k a)=.returned (.int k b):=by rw[h]
theorem zlD(n:Int)(h : -9223372036854775808≤n∧n≤9223372036854775807):wrap64 n=n:=by unfold wrap64;omega
theorem zjx(m:Nat)(b:UInt8)(hm:m<2147483647):(wrap64 (wrap64 ((m:Int)*1000003+wrap64 (b.toNat:Int))+1)).tmod 2147483647=(stepD m b:Int):=by
 have hb:=UInt8.toNat_lt b;rw[zlD (b.toNat:Int) (by omega),zlD ((m:Int)*1000003+(b.toNat:Int)) (by omega),zlD _ (by omega),Int.tmod_eq_emod_of_nonneg (by omega)];unfold stepD;omega
theorem zci(s:ByteArray)(w:World)(hs:s.size≤1099511627776) :
 Calls Tryz.prog 108 #[.string s] w fun e w'=>e=.returned (.int .i64 (dig 1 s.data.toList:Int))∧w'=w:=by
 have hsz:=ze s;obtain⟨R,hR⟩:∃ R,R=dig 1 s.data.toList:=⟨_,rfl⟩;rw[← hR];go_enter Tryz.func108,Tryz.ntmps108
 go_wp2;go_loop [3,4] (fun h i=>∃ k m:Nat,k≤s.size∧i=.int .i64 k∧h=.int .i64 m∧m<2147483647∧Hid (R=dig m (s.data.toList.drop k))) (fun _ i=>s.size-(intOf i).toNat)
 case atStart=>exact⟨0,1,by omega,rfl,rfl,by omega,hR⟩
 case round =>
  obtain⟨k,m,hk,rfl,rfl,hm,HR⟩:=hrel;clear hR;by_cases hlt:k<s.size
  ·go_wp2;go_round
   case rel =>
    have hb:s[k]=s.data.toList[k]'(by omega):=rfl;refine⟨k+1,stepD m s[k],by omega,by go_num,by rw[zjx _ _ hm],zi1 _ _,?_⟩;show R=_;rw[HR.out,dig_at _ _ _ (by omega),hb]
   case measure=>simp[intOf];omega
  ·go_wp2;go_ret;exact⟨zpu (by rw[HR.out,zpo _ _ _ (by omega)]),rfl⟩
theorem zkz(m:Nat)(b:UInt8)(w:World)(hm:m<2147483647) :
 Calls Tryz.prog 235 #[.int .i64 m,.int .u8 (b.toNat:Int)] w fun e w'=>e=.returned (.int .i64 (stepD m b:Int))∧w'=w:=by
 have hr:=zjx m b hm;go_enter Tryz.func235,Tryz.ntmps235
 go_wp2;go_ret;exact⟨rfl,rfl⟩
theorem zgf(m:Nat)(v:Value)(bs:List UInt8)(w:World)(hm:m<2147483647)(hr:Rd w v bs) :
 Calls Tryz.prog 234 #[.int .i64 m,.func (.func 235) #[] #[],v] w fun e w'=>e=.returned (.int .i64 (dig m bs:Int))∧w'=w:=by
 obtain⟨a,cap,rfl,hl,hc,hA⟩:=hr;unfold maxLen at hc;obtain⟨R,hR⟩:∃ R,R=dig m bs:=⟨_,rfl⟩;rw[← hR];go_enter Tryz.func234,Tryz.ntmps234
 go_wp2;go_loop [0,8,11] (fun h _ i=>∃ k m':Nat,k≤bs.length∧i=.int .i64 k∧h=.int .i64 m'∧m'<2147483647∧Hid (R=dig m' (bs.drop k))) (fun _ _ i=>bs.length-(intOf i).toNat)
 case atStart=>exact⟨0,m,by omega,rfl,rfl,hm,hR⟩
 case round =>
  obtain⟨k,m',hk,rfl,rfl,hm',HR⟩:=hrel;clear hR;by_cases hlt:k<bs.length
  ·obtain⟨b0,off,ha,hcell⟩:∃ b0 off,a=some ⟨b0,off,none⟩∧w.cell? ⟨b0,off+k,none⟩=some (.int .u8 (bs[k].toNat:Int)):=by
    rcases hA with h | ⟨b,off,ha,hc⟩
    ·subst h;simp at hlt
    ·exact⟨b,off,ha,hc k hlt⟩
   rw[ha];clear hA ha;go_wp2_with fail
   refine(zkz m' bs[k] _ hm').mono ?_;rintro e w1 ⟨rfl,rfl⟩;have hlt2:=zi1 m' bs[k];have HN:Hid (R=dig (stepD m' bs[k]) (bs.drop (k+1))):=by
    show R=_;rw[HR.out,dig_at _ _ _ hlt]
   go_wp2;go_round
   case rel=>exact⟨k+1,stepD m' bs[k],by omega,by go_num,rfl,hlt2,HN⟩
   case measure=>simp[intOf];omega
  ·go_wp2;go_ret;exact⟨zpu (by rw[HR.out,zpo _ _ _ (by omega)]),rfl⟩
theorem zdi(m:Nat)(s:ByteArray)(w:World)(hm:m<2147483647)(hs:s.size≤1099511627776) :
 Calls Tryz.prog 208 #[.int .i64 m,.string s] w fun e w'=>e=.returned (.int .i64 (dig m s.data.toList:Int))∧Below w.heap.size w w':=by
 have hcv:=zcB w s;have hrd:=ze6 w s (by unfold maxLen;omega);have hbl:=zbH w s;generalize Lib.bytesWorld w 5 s=W at hcv hrd hbl;generalize grownCap w s.size 0 5=c0 at hcv hrd;go_enter Tryz.func208,Tryz.ntmps208
 go_wp2_with fail
 refine(zgf m _ _ _ hm hrd).mono ?_;rintro e w1 ⟨rfl,rfl⟩;go_wp2;go_ret;exact⟨rfl,hbl⟩
theorem zhP(s:ByteArray)(w:World)(hs:s.size≤1099511627776) :
 Calls Tryz.prog 170 #[.string s] w fun e w'=>e=.returned (.int .i64 (dig 1 s.data.toList:Int))∧Below w.heap.size w w':=by
 go_enter Tryz.func170,Tryz.ntmps170
 go_wp2_with fail
 refine(zdi 1 s _ (by omega) hs).mono ?_;rintro e w1 ⟨rfl,hb⟩;go_wp2;go_ret;exact⟨rfl,hb⟩
def atI(ns:List Int)(n:Int):Nat:=(ns.takeWhile (fun a=>decide (a<n))).length
def putI(ns:List Int)(n:Int):List Int:=if ns[atI ns n]? = some n then ns else ns.take (atI ns n)++n::ns.drop (atI ns n)
theorem atI_le(ns:List Int)(n:Int):atI ns n≤ns.length:=(List.takeWhile_sublist _).length_le
theorem zqB:∀ (ns:List Int) (n:Int) (i:Nat) (h:i<ns.length),i<atI ns n→ns[i]<n
 | [],_,_,h,_=>by simp at h
 | a::r,n,i,h,hi=>by
  unfold atI at hi;rw[List.takeWhile_cons] at hi;split at hi
  ·rename_i ha;cases i with
   | zero=>simpa using ha
   | succ i=>rw[List.getElem_cons_succ];exact zqB r n i (by simpa using h) (by simpa [atI] using hi)
  ·simp at hi
theorem zji:∀ (ns:List Int) (n:Int) (h:atI ns n<ns.length),¬ ns[atI ns n]<n
 | [],_,h=>by simp at h
 | a::r,n,h=>by
  by_cases ha:a<n
  ·have e:atI (a::r) n=atI r n+1:=by unfold atI;rw[List.takeWhile_cons,if_pos (by simpa using ha)];rfl
   have h2:atI r n<r.length:=by rw[e,List.length_cons] at h;omega
   have:=zji r n h2;simp only[e,List.getElem_cons_succ];exact this
  ·have e:atI (a::r) n=0:=by unfold atI;rw[List.takeWhile_cons,if_neg (by simpa using ha)];rfl
   simp only[e,List.getElem_cons_zero];exact ha
theorem atI_of(ns:List Int)(n:Int)(k:Nat)(hk:k≤ns.length)(h1:∀ i (h:i<ns.length),i<k→ns[i]<n)(h2:∀ (h:k<ns.length),¬ ns[k]<n):atI ns n=k:=by
 have h3:=atI_le ns n;rcases Nat.lt_trichotomy (atI ns n) k with h | h | h
 ·exact absurd (h1 _ (by omega) h) (zji ns n (by omega))
 ·exact h
 ·exact absurd (zqB ns n k (by omega) h) (h2 (by omega))
theorem ziR(ns:List Int)(n x:Int):x∈putI ns n↔x=n∨x∈ns:=by
 unfold putI;split
 ·rename_i h;have hn:n∈ns:=List.mem_of_getElem? h;exact⟨.inr,fun h=>by rcases h with rfl | h;exact hn;exact h⟩
 ·rw[List.mem_append,List.mem_cons];constructor
  ·rintro (h | h | h)
   ·exact .inr (List.mem_of_mem_take h)
   ·exact .inl h
   ·exact .inr (List.mem_of_mem_drop h)
  ·rintro (h | h)
   ·exact .inr (.inl h)
   ·rw[← List.take_append_drop (atI ns n) ns] at h;rcases List.mem_append.1 h with h | h
    ·exact .inl h
    ·exact .inr (.inr h)
theorem zjb(ns:List Int)(n:Int):(putI ns n).length≤ns.length+1:=by
 have:=atI_le ns n;unfold putI;split
 ·omega
 ·simp;omega
def mk1(key:ByteArray):Int:=((dig 1 key.data.toList % 256:Nat):Int)
def mk2(key:ByteArray):Int:=((dig 1 (key.data.toList++[42]) % 256:Nat):Int)
def zaC(key:ByteArray):List Int:=putI [mk1 key] (mk2 key)
theorem mk1_in(key:ByteArray):0≤mk1 key∧mk1 key<256:=by unfold mk1;omega
theorem mk2_in(key:ByteArray):0≤mk2 key∧mk2 key<256:=by unfold mk2;omega
theorem zfr(key:ByteArray)(x:Int):x∈zaC key↔x=mk2 key∨x=mk1 key:=by unfold zaC;rw[ziR];simp
theorem zik(key:ByteArray):(zaC key).length≤2:=zjb _ _
def zav(ns:List Int)(ms:List Int):List Int:=ms.foldl putI ns
def bitsL(es:List Ent):List Int:=es.foldl (fun b e=>zav b (zaC e.key)) []
theorem znk(ms:List Int):∀ (ns:List Int) (x:Int),x∈zav ns ms↔x∈ns∨x∈ms:=by
 unfold zav;induction ms with
 | nil=>intro ns x;simp
 | cons m r ih=>intro ns x;rw[List.foldl_cons,ih,ziR,List.mem_cons];grind
theorem zoD(es:List Ent):∀ (ns:List Int) (x:Int),x∈es.foldl (fun b e=>zav b (zaC e.key)) ns↔x∈ns∨∃ e∈es,x∈zaC e.key:=by
 induction es with
 | nil=>intro ns x;simp
 | cons e r ih =>
  intro ns x;rw[List.foldl_cons,ih,znk];constructor
  ·rintro ((h | h) | ⟨y,hy,h⟩)
   ·exact .inl h
   ·exact .inr ⟨e,List.mem_cons_self,h⟩
   ·exact .inr ⟨y,List.mem_cons_of_mem _ hy,h⟩
  ·rintro (h | ⟨y,hy,h⟩)
   ·exact .inl (.inl h)
   ·rcases List.mem_cons.1 hy with rfl | hy
    ·exact .inl (.inr h)
    ·exact .inr ⟨y,hy,h⟩
theorem zhD(es:List Ent)(x:Int):x∈bitsL es↔∃ e∈es,x∈zaC e.key:=by unfold bitsL;rw[zoD];simp
theorem znr(ms:List Int):∀ ns:List Int,(zav ns ms).length≤ns.length+ms.length:=by
 unfold zav;induction ms with
 | nil=>intro ns;simp
 | cons m r ih=>intro ns;rw[List.foldl_cons];have:=ih (putI ns m);have:=zjb ns m;rw[List.length_cons];omega
theorem zqR(es:List Ent):∀ ns:List Int,(es.foldl (fun b e=>zav b (zaC e.key)) ns).length≤ns.length+2*es.length:=by
 induction es with
 | nil=>intro ns;simp
 | cons e r ih =>
  intro ns;rw[List.foldl_cons,List.length_cons];have h1:=ih (zav ns (zaC e.key));have h2:=znr (zaC e.key) ns;have h3:=zik e.key;omega
theorem zpO(es:List Ent):(bitsL es).length≤2*es.length:=by have:=zqR es [];simpa [bitsL] using this
structure Tbl where
 first:ByteArray
 last:ByteArray
 bits:List Int
 blocks:List ByteArray
deriving DecidableEq
def zeroT:Tbl:=⟨⟨#[]⟩,⟨#[]⟩,[],[]⟩
def allF:List ByteArray→List Ent→Option (List Ent)
 | [],acc=>some acc
 | b::r,acc=>if (unpI b.data.toList).2=true∧1≤(unpI b.data.toList).1.length∧(unpI b.data.toList).1.length≤8 then allF r (acc++(unpI b.data.toList).1) else none
def allL(T:Tbl):List Ent×Bool:=if T.blocks.length<1∨40<T.blocks.length then ([],false) else match allF T.blocks [] with
 | none=>([],false)
 | some es=>(es,okL es)
def zA(T:Tbl):Bool:=(allL T).2&&decide (T.first=(nth (allL T).1 0).key)&&decide (T.last=(nth (allL T).1 ((allL T).1.length-1)).key)&&decide (T.bits=bitsL (allL T).1)
def chunk(es:List Ent)(i:Nat):List Ent:=(es.drop i).take 8
def blkF(es:List Ent):Nat→Nat→List ByteArray
 | 0,_=>[]
 | n+1,i=>⟨(packA (chunk es i)).toArray⟩::blkF es n (i+8)
def blksL(es:List Ent):List ByteArray:=blkF es ((es.length+7) / 8) 0
def zq(es:List Ent):Tbl:=⟨(nth es 0).key,(nth es (es.length-1)).key,bitsL es,blksL es⟩
def zN(es:List Ent):Bool:=okL es && !decide (es.length=0)
def zcE(es:List Ent):Tbl:=if zN es=true then zq es else zeroT
def zp(T:Tbl):List Ent:=if zA T=true then (allL T).1 else []
theorem okL_sub{es fs:List Ent}(h:okL es=true)(hs:fs.Sublist es):okL fs=true:=by
 rw[za0] at h ⊢;exact⟨Nat.le_trans hs.length_le h.1,fun e he=>h.2.1 e (hs.subset he),h.2.2.sublist hs⟩
theorem zmo{es:List Ent}(h:okL es=true)(i:Nat):okL (chunk es i)=true:=okL_sub h ((List.take_sublist _ _).trans (List.drop_sublist _ _))
theorem zmi{es:List Ent}(h:okL es=true):∀ (n i:Nat) (acc:List Ent),i+8*n<es.length+8→i≤es.length→es.length≤i+8*n→allF (blkF es n i) acc=some (acc++es.drop i)
 | 0,i,acc,_,_,h2=>by rw[blkF,allF,List.drop_eq_nil_of_le (by omega),List.append_nil]
 | n+1,i,acc,h0,h1,h2=>by
  have hu:unpI (packA (chunk es i))=(chunk es i,true):=zju (zmo h i);have hl:(chunk es i).length=min 8 (es.length-i):=by unfold chunk;rw[List.length_take,List.length_drop]
  have hd:(⟨(packA (chunk es i)).toArray⟩:ByteArray).data.toList=packA (chunk es i):=by simp
  rw[blkF,allF,hd,hu,if_pos ⟨rfl,by simp only;omega,by simp only;omega⟩];simp only;by_cases hlast:es.length≤i+8
  ·have hn:n=0:=by omega
   subst hn;rw[blkF,allF];unfold chunk;rw[List.take_of_length_le (by rw[List.length_drop];omega)]
  ·rw[zmi h n (i+8) _ (by omega) (by omega) (by omega),List.append_assoc];unfold chunk;rw[← List.drop_drop,List.take_append_drop]
theorem zm1(es:List Ent):∀ n i,(blkF es n i).length=n
 | 0,_=>rfl
 | n+1,i=>by rw[blkF,List.length_cons,zm1 es n]
theorem zkK{es:List Ent}(h:zN es=true):allL (zq es)=(es,true):=by
 simp only[zN,Bool.and_eq_true,Bool.not_eq_true',decide_eq_false_iff_not] at h;have hl:=zZ h.1;unfold allL zq blksL;rw[if_neg (by rw[zm1];omega),zmi h.1 _ 0 [] (by omega) (by omega) (by omega)];simp[h.1]
theorem ziE{es:List Ent}(h:zN es=true):zA (zq es)=true:=by
 unfold zA;rw[zkK h];simp[zq]
theorem zfa{es:List Ent}(h:zN es=true):zp (zq es)=es:=by
 unfold zp;rw[if_pos (ziE h),zkK h]
theorem zab{T:Tbl}(h:zA T=true):okL (zp T)=true∧zp T≠[]∧T.first=(nth (zp T) 0).key∧T.last=(nth (zp T) ((zp T).length-1)).key∧T.bits=bitsL (zp T):=by
 have he:zp T=(allL T).1:=by unfold zp;rw[if_pos h]
 unfold zA at h;simp only[Bool.and_eq_true,decide_eq_true_eq] at h;obtain⟨⟨⟨h1,h2⟩,h3⟩,h4⟩:=h;rw[he];refine⟨?_,?_,h2,h3,h4⟩
 ·unfold allL at h1 ⊢;split at h1
  ·cases h1
  ·rename_i hb;rw[if_neg hb];split at h1
   ·cases h1
   ·exact h1
 ·intro hn;unfold allL at h1 hn;split at h1
  ·cases h1
  ·rename_i hb;rw[if_neg hb] at hn;split at h1
   ·cases h1
   ·rename_i es hes;rw[hes] at hn;simp only at hn;subst hn;obtain⟨b,r,hbr⟩:∃ b r,T.blocks=b::r:=by
     cases hT:T.blocks with
     | nil=>rw[hT] at hb;simp at hb
     | cons b r=>exact⟨b,r,rfl⟩
    rw[hbr,allF] at hes;split at hes
    ·rename_i hq;have:=allF_grow r _ _ hes;rw[List.nil_append] at this;simp at this;rw[this] at hq;simp at hq
    ·cases hes
where
 allF_grow:∀ (bs:List ByteArray) (acc es:List Ent),allF bs acc=some es→∃ t,es=acc++t
  | [],acc,es,h=>by rw[allF] at h;cases h;exact⟨[],by simp⟩
  | b::r,acc,es,h=>by
   rw[allF] at h;split at h
   ·obtain⟨t,ht⟩:=allF_grow r _ _ h;exact⟨_,by rw[ht,List.append_assoc]⟩
   ·cases h
structure Tre where
 mem:List Ent
 young:List Tbl
 old:List Tbl
 seq:Int
 snaps:List Int
def zey:Tre:=⟨[],[],[],0,[]⟩
def lenS(ls:List (List Ent)):Nat:=(ls.map List.length).sum
def tabL(T:Tre):List (List Ent):=(T.young++T.old).map zp
def lsT(T:Tre):List (List Ent):=T.mem::tabL T
def allOk(T:Tre):Bool:=okL T.mem&&decide (T.young.length≤6)&&decide (T.old.length≤1)&&(T.young++T.old).all (fun t=>!decide ((zp t).length=0))
def allT(T:Tre):List Ent×Bool:=if allOk T=true then (zk (lsT T),decide ((zk (lsT T)).length=lenS (lsT T))) else ([],false)
def zao(seq:Int)(ss:List Int):Bool:=(List.range ss.length).all (fun i=>decide (0≤ss.getD i 0)&&decide (ss.getD i 0≤seq)&&(decide (i=0)||decide (ss.getD (i-1) 0<ss.getD i 0)))
def zlp(mem all:List Ent)(i:Nat):Bool:=!(kEq (nth all i).key (nth all (i+1)).key&&hasKS mem (nth all (i+1)) && !hasKS mem (nth all i))
def zo2(mem all:List Ent):Bool:=(List.range (all.length-1)).all (zlp mem all)
def zai(T:Tre):Bool:=(allT T).2&&decide (0≤T.seq)&&decide (T.seq≤1000000)&&decide (T.snaps.length≤10)&&zao T.seq T.snaps&&(allT T).1.all (fun e=>decide (e.seq≤T.seq))&&zo2 T.mem (allT T).1
def Dsj(a b:List Ent):Prop:=∀ x∈a,∀ y∈b,zz x y=false
theorem zlz:∀ (n:Nat) (a b:List Ent),a.length+b.length≤n→Sr a→Sr b→((mrg a b).length=a.length+b.length↔Dsj a b):=by
 intro n;induction n with
 | zero =>
  intro a b hn _ _;have ha:a=[]:=List.eq_nil_of_length_eq_zero (by omega);have hb:b=[]:=List.eq_nil_of_length_eq_zero (by omega);subst ha;subst hb;simp[mrg,Dsj]
 | succ n ih =>
  intro a b hn sa sb;match a,b with
  | [],b=>rw[mrg];simp[Dsj]
  | x::r,[]=>rw[mrg];simp[Dsj]
  | x::r,y::s =>
   have sa':=List.pairwise_cons.1 sa;have sb':=List.pairwise_cons.1 sb;cases hxy:ahd x y with
   | true =>
    rw[mrg,if_pos hxy];have h1:=ih r (y::s) (by simp at hn ⊢;omega) sa'.2 sb;have hx:∀ z∈y::s,zz x z=false:=fun z hz=>by
     cases hk:zz x z with
     | false=>rfl
     | true =>
      rcases List.mem_cons.1 hz with e | e
      ·subst e;exact(zbj hxy hk).elim
      ·exact(zbj (zaD hxy (sb'.1 z e)) hk).elim
    constructor
    ·intro h;have:=h1.1 (by simp at h ⊢;omega);intro u hu z hz;rcases List.mem_cons.1 hu with e | e
     ·subst e;exact hx z hz
     ·exact this u e z hz
    ·intro h;have:=h1.2 (fun u hu z hz=>h u (List.mem_cons_of_mem _ hu) z hz);simp at this ⊢;omega
   | false =>
    cases hyx:ahd y x with
    | true =>
     rw[mrg,if_neg (by rw[hxy];simp),if_pos hyx];have h1:=ih (x::r) s (by simp at hn ⊢;omega) sa sb'.2;have hy:∀ z∈x::r,zz z y=false:=fun z hz=>by
      cases hk:zz z y with
      | false=>rfl
      | true =>
       rcases List.mem_cons.1 hz with e | e
       ·subst e;exact(zbj hyx (zap hk)).elim
       ·exact(zbj (zaD hyx (sa'.1 z e)) (zap hk)).elim
     constructor
     ·intro h;have:=h1.1 (by simp at h ⊢;omega);intro u hu z hz;rcases List.mem_cons.1 hz with e | e
      ·subst e;exact hy u hu
      ·exact this u hu z e
     ·intro h;have:=h1.2 (fun u hu z hz=>h u hu z (List.mem_cons_of_mem _ hz));simp at this ⊢;omega
    | false =>
     have hs:zz x y=true:=zhx x y (by rw[hxy];simp) (by rw[hyx];simp);rw[mrg,if_neg (by rw[hxy];simp),if_neg (by rw[hyx];simp)];have hl:=ziV _ (x::r) s (Nat.le_refl _);constructor
     ·intro h;simp at h hl;omega
     ·intro h;have:=h x List.mem_cons_self y List.mem_cons_self;rw[hs] at this;cases this
theorem mF_dsj(ls:List (List Ent))(hs:∀ l∈ls,Sr l):∀ a:List Ent,Sr a→((ls.foldl mrg a).length=a.length+lenS ls↔(∀ l∈ls,Dsj a l)∧ls.Pairwise Dsj):=by
 induction ls with
 | nil=>intro a _;simp[lenS]
 | cons l r ih =>
  intro a sa;have sl:=hs l List.mem_cons_self;have sm:=zpr _ a l (Nat.le_refl _) sa sl;have h1:=zlz _ a l (Nat.le_refl _) sa sl;have h2:=ziV _ a l (Nat.le_refl _);have h3:=mF_len r (mrg a l);have hi:=ih (fun m hm=>hs m (List.mem_cons_of_mem _ hm)) (mrg a l) sm;have e:lenS (l::r)=l.length+lenS r:=by simp[lenS]
  have h3':(r.foldl mrg (mrg a l)).length≤(mrg a l).length+lenS r:=h3;rw[List.foldl_cons,e];constructor
  ·intro h;have hd:=h1.1 (by omega);have hr:=hi.1 (by omega);have hmem:=zow _ a l (Nat.le_refl _) sa sl;refine⟨fun m hm=>?_,?_⟩
   ·rcases List.mem_cons.1 hm with e | e
    ·subst e;exact hd
    ·exact fun x hx y hy=>hr.1 m e x ((hmem x).2 (.inl hx)) y hy
   ·rw[List.pairwise_cons];refine⟨fun m hm x hx y hy=>hr.1 m hm x ((hmem x).2 (.inr ⟨hx,fun u hu=>hd u hu x hx⟩)) y hy,hr.2⟩
  ·rintro ⟨h4,h5⟩;have h6:=List.pairwise_cons.1 h5;have hd:=h4 l List.mem_cons_self;have hlen:=h1.2 hd;have:=hi.2 ⟨fun m hm x hx y hy=>by
    rcases zi3 hx with hx | hx
    ·exact h4 m (List.mem_cons_of_mem _ hm) x hx y hy
    ·exact h6.1 m hm x hx y hy,h6.2⟩
   omega
theorem zdT{ls:List (List Ent)}(hs:∀ l∈ls,Sr l):(zk ls).length=lenS ls↔ls.Pairwise Dsj:=by
 have:=mF_dsj ls hs [] List.Pairwise.nil;unfold zk;rw[show ([]:List Ent).length+lenS ls=lenS ls by simp] at this;rw[this];exact⟨fun h=>h.2,fun h=>⟨(fun l _ x hx=>by cases hx),h⟩⟩
theorem zbA{ls:List (List Ent)}(hs:∀ l∈ls,Sr l)(hd:ls.Pairwise Dsj)(z:Ent):z∈zk ls↔∃ l∈ls,z∈l:=by
 rw[zgV hs];constructor
 ·rintro ⟨i,l,h1,h2,_⟩;exact⟨l,List.mem_of_getElem? h1,h2⟩
 ·rintro ⟨l,hl,hz⟩;obtain⟨i,hi,rfl⟩:=List.getElem_of_mem hl;refine⟨i,_,List.getElem?_eq_getElem hi,hz,fun j m hj hm u hu=>?_⟩;have hjl:j<ls.length:=by omega
  have hmj:ls[j]=m:=(List.getElem?_eq_some_iff.1 hm).2;exact List.pairwise_iff_getElem.1 hd j i hjl hi hj u (by rw[hmj];exact hu) z hz
theorem zeW{ls:List (List Ent)}(hs:∀ l∈ls,Sr l):Sr (zk ls):=mF_sr ls hs [] List.Pairwise.nil
theorem zlf(t:Tbl):Sr (zp t):=by
 cases h:zA t with
 | true=>exact ziu (zab h).1
 | false=>unfold zp;rw[if_neg (by rw[h];simp)];exact List.Pairwise.nil
theorem zk6(T:Tre):∀ l∈tabL T,Sr l:=fun l hl=>by
 obtain⟨t,_,rfl⟩:=List.mem_map.1 hl;exact zlf t
theorem ze7{T:Tre}(h:okL T.mem=true):∀ l∈lsT T,Sr l:=fun l hl=>by
 rcases List.mem_cons.1 hl with rfl | hl
 ·exact ziu h
 ·exact zk6 T l hl
structure TreeP (T:Tre):Prop where
 mem:okL T.mem=true
 young:T.young.length≤6
 old:T.old.length≤1
 full:∀ t∈T.young++T.old,zA t=true
 apart:(lsT T).Pairwise Dsj
 seq0:0≤T.seq
 seq1:T.seq≤1000000
 few:T.snaps.length≤10
 snaps:zao T.seq T.snaps=true
 top:∀ l∈lsT T,∀ e∈l,e.seq≤T.seq
 newer:∀ x∈T.mem,∀ l∈tabL T,∀ y∈l,x.key=y.key→y.seq<x.seq
theorem entriesL_full{t:Tbl}:(zp t).length≠0↔zA t=true:=by
 cases h:zA t with
 | true =>
  have:=(zab h).2.1;simp only[iff_true];exact fun e=>this (List.eq_nil_of_length_eq_zero e)
 | false=>unfold zp;rw[if_neg (by rw[h];simp)];simp
theorem zpR{T:Tre}(hm:okL T.mem=true)(hd:(lsT T).Pairwise Dsj){e:Ent}(he:e∈zk (lsT T)):hasKS T.mem e=true↔e∈T.mem:=by
 unfold hasKS;rw[List.any_eq_true];constructor
 ·rintro ⟨x,hx,hk⟩;have hxm:x∈zk (lsT T):=(zbA (ze7 hm) hd x).2 ⟨T.mem,List.mem_cons_self,hx⟩;have hs:=(zaG x e).1 hk;rw[← ks_eq (zeW (ze7 hm)) hxm he hs.1 hs.2];exact hx
 ·intro h;exact⟨e,h,zen e⟩
theorem zki{T:Tre}(hm:okL T.mem=true)(hd:(lsT T).Pairwise Dsj):zo2 T.mem (zk (lsT T))=true↔∀ x∈T.mem,∀ l∈tabL T,∀ y∈l,x.key=y.key→y.seq<x.seq:=by
 have sr:=zeW (ze7 hm);have mm:=zbA (ze7 hm) hd;have hk:=fun {e} he=>zpR (e:=e) hm hd he
 have hd':=List.pairwise_cons.1 hd;obtain⟨all,hall⟩:∃ all,all=zk (lsT T):=⟨_,rfl⟩;rw[← hall] at sr mm hk ⊢;have nm:∀ i,i<all.length→nth all i∈all:=fun i hi=>by rw[zE hi];exact List.getElem_mem hi
 have ah:∀ i j,i<j→j<all.length→ahd (nth all i) (nth all j)=true:=fun i j hij hj=>by
  rw[zE (show i<all.length by omega),zE hj];exact List.pairwise_iff_getElem.1 sr i j (by omega) hj hij
 unfold zo2;rw[List.all_eq_true];constructor
 ·intro h x hx l hl y hy hxy;have hxa:x∈all:=(mm x).2 ⟨T.mem,List.mem_cons_self,hx⟩;have hya:y∈all:=(mm y).2 ⟨l,List.mem_cons_of_mem _ hl,hy⟩;have hyn:y ∉ T.mem:=fun e=>by
   have:=hd'.1 l hl y e y hy;rw[zen] at this;cases this
  obtain⟨i,hi,hxi⟩:=List.getElem_of_mem hxa;obtain⟨j,hj,hyj⟩:=List.getElem_of_mem hya;rw[← zE hi] at hxi;rw[← zE hj] at hyj;rcases Nat.lt_trichotomy i j with hij | hij | hij
  ·have:=ah i j hij hj;rw[hxi,hyj,zaX,hxy,zW] at this;rcases this with h0 | h0
   ·cases h0
   ·exact h0.2
  ·subst hij;rw[hxi] at hyj;subst hyj;exact absurd hx hyn
  ·exfalso;have step:∀ d,j+d≤i→nth all (j+d) ∉ T.mem:=by
    intro d;induction d with
    | zero=>intro _;rw[Nat.add_zero,hyj];exact hyn
    | succ d ihd =>
     intro hd2 hin;have h0:=ihd (by omega);have hr:=h (j+d) (by rw[List.mem_range];omega);unfold zlp at hr;have e1:hasKS T.mem (nth all (j+d+1))=true:=(hk (nm _ (by omega))).2 hin;have e2:hasKS T.mem (nth all (j+d))=false:=by
      cases e:hasKS T.mem (nth all (j+d)) with
      | false=>rfl
      | true=>exact absurd ((hk (nm _ (by omega))).1 e) h0
     have keyAt:∀ p,j≤p→p≤i→(nth all p).key=y.key:=fun p hp1 hp2=>by
      by_cases hpj:p=j
      ·rw[hpj,hyj]
      ·by_cases hpi:p=i
       ·rw[hpi,hxi,hxy]
       ·have:=zkZ (ah j p (by omega) (by omega)) (ah p i (by omega) hi) (by rw[hyj,hxi,hxy]);rw[this,hyj]
     have e3:kEq (nth all (j+d)).key (nth all (j+d+1)).key=true:=by
      unfold kEq;rw[keyAt _ (by omega) (by omega),keyAt _ (by omega) (by omega)];simp
     rw[e1,e2,e3] at hr;simp at hr
   have:=step (i-j) (by omega);rw[show j+(i-j)=i by omega,hxi] at this;exact this hx
 ·intro h i hi;rw[List.mem_range] at hi;unfold zlp;cases e3:kEq (nth all i).key (nth all (i+1)).key with
  | false=>rfl
  | true =>
   cases e1:hasKS T.mem (nth all (i+1)) with
   | false=>rfl
   | true =>
    have hin:=(hk (nm (i+1) (by omega))).1 e1;cases e2:hasKS T.mem (nth all i) with
    | true=>rfl
    | false =>
     exfalso;obtain⟨l,hl,hy⟩:=(mm _).1 (nm i (by omega));rcases List.mem_cons.1 hl with rfl | hl
     ·rw[(hk (nm i (by omega))).2 hy] at e2;cases e2
     ·have hkey:(nth all i).key=(nth all (i+1)).key:=of_decide_eq_true e3;have:=h _ hin l hl _ hy hkey.symm;have h2:=ah i (i+1) (by omega) (by omega);rw[zaX,hkey,zW] at h2;rcases h2 with h2 | h2
      ·cases h2
      ·omega
theorem zcl(T:Tre):zai T=true↔TreeP T:=by
 unfold zai allT;by_cases ha:allOk T=true
 ·rw[if_pos ha];have hp:=ha;simp only[allOk,Bool.and_eq_true,decide_eq_true_eq,List.all_eq_true,Bool.not_eq_true',decide_eq_false_iff_not] at hp;obtain⟨⟨⟨hm,hy⟩,ho⟩,hf⟩:=hp;have hs:=ze7 hm;simp only[Bool.and_eq_true,decide_eq_true_eq,List.all_eq_true];constructor
  ·rintro ⟨⟨⟨⟨⟨⟨h1,h2⟩,h3⟩,h4⟩,h5⟩,h6⟩,h7⟩;have hd:=(zdT hs).1 h1;refine⟨hm,hy,ho,fun t ht=>entriesL_full.1 (hf t ht),hd,h2,h3,h4,h5,fun l hl e he=>h6 e ((zbA hs hd e).2 ⟨l,hl,he⟩),(zki hm hd).1 h7⟩
  ·intro h;exact⟨⟨⟨⟨⟨⟨(zdT hs).2 h.apart,h.seq0⟩,h.seq1⟩,h.few⟩,h.snaps⟩,fun e he=>by
    obtain⟨l,hl,hel⟩:=(zbA hs h.apart e).1 he;exact h.top l hl e hel⟩,(zki hm h.apart).2 h.newer⟩
 ·rw[if_neg ha];simp only[Bool.false_and,Bool.false_eq_true,false_iff];intro h;apply ha;simp only[allOk,Bool.and_eq_true,decide_eq_true_eq,List.all_eq_true,Bool.not_eq_true',decide_eq_false_iff_not];exact⟨⟨⟨h.mem,h.young⟩,h.old⟩,fun t ht=>entriesL_full.2 (h.full t ht)⟩
end Go.Proofs.YtannfbpohhnnkaaGreatDoor
