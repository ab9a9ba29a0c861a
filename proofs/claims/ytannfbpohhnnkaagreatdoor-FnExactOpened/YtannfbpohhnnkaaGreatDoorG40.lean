import Derived.Test.YtannfbpohhnnkaaGreatDoorG39
import Derived.WalkMore
import Derived.Deep.LoopGhost
namespace Go.Proofs.YtannfbpohhnnkaaGreatDoor
set_option maxHeartbeats 16000000
set_option maxRecDepth 100000
open Go.RowKit
def zmH(w:World)(ts:List ByteArray)(n:Nat)(e:Ending)(w':World):Prop :=
 ∃ u,e=.returned (.tuple #[u,.int .i64 (n:Int)])∧OwnS w' w.heap.size u ts∧Below w.heap.size w w'
def RecI(d:List UInt8)(ts:List ByteArray)(n:Nat)(ys:List ByteArray)(p:Nat):Prop :=
 ∃ rest m,ts=ys++rest∧n=p+m∧RecsP (d.drop p) rest m
theorem zh9{d:List UInt8}{ts:List ByteArray}{n:Nat}(h:RecsP d ts n):RecI d ts n [] 0:=⟨ts,n,rfl,by omega,h⟩
theorem zjV{d x:List UInt8}{ts ys:List ByteArray}{n p:Nat}(hx:x=d.drop p)(hp:p≤d.length)(h:RecI d ts n ys p){e:Ending}(he:RecP x e) :
 (∃ (t:ByteArray) (q:Nat),e=.returned (.tuple #[.string t,.int .i64 (q:Int)])∧4≤q∧q≤4000∧p+q≤d.length∧RecI d ts n (ys++[t]) (p+q))∨(e=.returned (.tuple #[.string ⟨#[]⟩,.int .i64 0])∧ts=ys∧n=p):=by
 obtain⟨rest,m,e1,e2,hr⟩:=h;subst hx;rcases zo1 hr with ⟨t,r,m',rfl,rfl,ht,hr'⟩ | ⟨rfl,rfl,h0⟩
 ·rcases he with ⟨t',ht',rfl⟩ | ⟨h0,_⟩
  ·obtain rfl:=zko ht' ht;have hs:=zdy ht.1;have hl:=zdu ht;rw[← zeO,List.length_drop] at hl;refine .inl ⟨t',(recT t').size,rfl,hs.1,hs.2,by omega,r,m',by rw[e1];simp,by omega,?_⟩;rw[List.drop_drop] at hr';exact hr'
  ·exact absurd ht (h0 t)
 ·rcases he with ⟨t',ht',_⟩ | ⟨_,rfl⟩
  ·exact absurd ht' (h0 t')
  ·exact .inr ⟨rfl,by rw[e1];simp,by omega⟩
theorem zgJ(d:ByteArray)(ts:List ByteArray)(n:Nat)(w:World)(hd:d.size≤1048576)(h:RecsP d.data.toList ts n) :
 Calls Tryz.prog 64 #[.string d] w fun e w'=>zmH w ts n e w':=by
 have hl:=ze d;have HI:Hid (RecI d.data.toList ts n [] 0):=zh9 h;have o0:=zR w;have b0:=za w (.cells #[] 9);clear h;go_enter Tryz.func64,Tryz.ntmps64
 go_wp2;go_loopw [4,5,6,7] (fun oo pp _ _ wr=>∃ (p:Nat) (ys:List ByteArray),pp=.int .i64 p∧p≤d.size∧ys.length≤p∧Hid (RecI d.data.toList ts n ys p)∧OwnS wr w.heap.size oo ys∧Below w.heap.size w wr) (fun _ pp _ _ _=>d.size+1-(intOf pp).toNat)
 case atStart=>exact⟨0,[],rfl,Nat.zero_le _,Nat.le_refl _,HI.out,o0,b0⟩
 case round =>
  clear o0 b0 HI;obtain⟨p,ys,rfl,hp,hy,HI,ho,hb⟩:=hrel;obtain⟨x,hx⟩:∃ x,x=d.extract p d.size:=⟨_,rfl⟩;have hxs:x.size≤1048576:=by rw[hx,ByteArray.size_extract];omega
  have HX:Hid (d.extract p d.size=x):=hx.symm;have HXL:Hid (x.data.toList=d.data.toList.drop p):=by
   unfold Hid;rw[hx];show zaL _=_;rw[zQ,List.take_of_length_le (by rw[List.length_drop];omega)]
  have c1:(0:Int)≤(p:Int):=by omega
  have c2:(p:Int)≤(d.size:Int):=by omega
  clear hx;go_wp2_with fail
  rw[HX.out];refine(ziN x _ hxs).mono ?_;rintro e w1 ⟨he,hb1⟩;have HN:=zjV HXL.out (by omega) HI.out he;have b1:=hb.trans (hb1.mono hb.size);have o1:=ho.below hb1;clear he hb1 hb ho HI HXL;rcases HN with ⟨t,q,rfl,hq1,hq2,hq3,hI⟩ | ⟨rfl,hts,hnn⟩
  ·have HI:Hid (RecI d.data.toList ts n (ys++[t]) (p+q)):=hI;have hqz:((q:Int)==0)=false:=by simp;omega
   have s1:=b1.size;have ho2:=o1.below (za w1 (.cells #[.string t] 9));have hr2:=zl1 w1 t;clear hI;go_wp2_with (at_builtin;(refine zO rfl _ _ rfl w.heap.size _ _ ys [t] rfl rfl ho2 hr2 ?c1 (by simp;omega) (by simp;omega) ?_))
   case c1=>intro n c e;cases e
   intro v' w3 hown' hgrow;have hb3:=zaV o1 (Nat.le_refl _) b1 s1 hgrow;clear ho2 hr2 o1 b1 hgrow;go_wp2;go_roundw
   case rel=>exact⟨p+q,ys++[t],by go_num,by omega,by rw[List.length_append];simp;omega,HI,hown',hb3⟩
   case measure=>simp[intOf];omega
  ·have HE:Hid (ts=ys∧n=p):=⟨hts,hnn⟩;clear hts hnn;go_wp2;go_ret2
   obtain⟨e1,e2⟩:=HE.out;subst e1;subst e2;exact⟨_,rfl,o1,b1⟩
theorem zhi(d:ByteArray)(ts:List ByteArray)(n:Nat)(w:World)(hd:d.size≤1048576)(hT:Tab w)(h:RecsP d.data.toList ts n) :
 Calls Tryz.prog 77 #[.string d] w fun e w'=>zmH w ts n e w':=by
 have hl:=ze d;have HTB:Hid (∀ W,Below w.heap.size w W→Tab W):=fun W h=>hT.on h
 clear hT;have HI:Hid (RecI d.data.toList ts n [] 0):=zh9 h;have o0:=zR w;have b0:=za w (.cells #[] 9);clear h;go_enter Tryz.func77,Tryz.ntmps77
 go_wp2;go_loopw [4,5,6,7] (fun oo pp _ _ wr=>∃ (p:Nat) (ys:List ByteArray),pp=.int .i64 p∧p≤d.size∧ys.length≤p∧Hid (RecI d.data.toList ts n ys p)∧OwnS wr w.heap.size oo ys∧Below w.heap.size w wr) (fun _ pp _ _ _=>d.size+1-(intOf pp).toNat)
 case atStart=>exact⟨0,[],rfl,Nat.zero_le _,Nat.le_refl _,HI.out,o0,b0⟩
 case round =>
  clear o0 b0 HI;obtain⟨p,ys,rfl,hp,hy,HI,ho,hb⟩:=hrel;obtain⟨x,hx⟩:∃ x,x=d.extract p d.size:=⟨_,rfl⟩;have hxs:x.size≤1048576:=by rw[hx,ByteArray.size_extract];omega
  have HX:Hid (d.extract p d.size=x):=hx.symm;have HXL:Hid (x.data.toList=d.data.toList.drop p):=by
   unfold Hid;rw[hx];show zaL _=_;rw[zQ,List.take_of_length_le (by rw[List.length_drop];omega)]
  have c1:(0:Int)≤(p:Int):=by omega
  have c2:(p:Int)≤(d.size:Int):=by omega
  clear hx;go_wp2_with fail
  rw[HX.out];refine(zhe x _ hxs (HTB.out _ hb)).mono ?_;rintro e w1 ⟨he,hb1⟩;have HN:=zjV HXL.out (by omega) HI.out he;have b1:=hb.trans (hb1.mono hb.size);have o1:=ho.below hb1;clear he hb1 hb ho HI HXL;rcases HN with ⟨t,q,rfl,hq1,hq2,hq3,hI⟩ | ⟨rfl,hts,hnn⟩
  ·have HI:Hid (RecI d.data.toList ts n (ys++[t]) (p+q)):=hI;have hqz:((q:Int)==0)=false:=by simp;omega
   have s1:=b1.size;have ho2:=o1.below (za w1 (.cells #[.string t] 9));have hr2:=zl1 w1 t;clear hI;go_wp2_with (at_builtin;(refine zO rfl _ _ rfl w.heap.size _ _ ys [t] rfl rfl ho2 hr2 ?c1 (by simp;omega) (by simp;omega) ?_))
   case c1=>intro n c e;cases e
   intro v' w3 hown' hgrow;have hb3:=zaV o1 (Nat.le_refl _) b1 s1 hgrow;clear ho2 hr2 o1 b1 hgrow;go_wp2;go_roundw
   case rel=>exact⟨p+q,ys++[t],by go_num,by omega,by rw[List.length_append];simp;omega,HI,hown',hb3⟩
   case measure=>simp[intOf];omega
  ·have HE:Hid (ts=ys∧n=p):=⟨hts,hnn⟩;clear hts hnn;go_wp2;go_ret2
   obtain⟨e1,e2⟩:=HE.out;subst e1;subst e2;exact⟨_,rfl,o1,b1⟩
open Go.RowKit
def tidyT(T:Tre):Tre:=sinkR (zc1 T)
theorem ziw{T:Tre}(h:TreeP T):TreeP (tidyT T):=zh4 (zcX h)
def addT(T:Tre)(xs:List Wri):Option Tre:=if zx T xs=true then some (zw T xs) else if zx (tidyT T) xs=true then some (zw (tidyT T) xs) else none
theorem zdC{T:Tre}{xs:List Wri}(h:TreeP T)(hr:zx T xs=true):TreeP (zw T xs):=zgS h (zcP hr).1 (zcP hr).2.1 (zcP hr).2.2
theorem zpB{T T':Tre}{xs:List Wri}(h:TreeP T)(e:addT T xs=some T'):TreeP T':=by
 unfold addT at e;split at e
 ·rename_i hr;rw[← Option.some.inj e];exact zdC h hr
 ·split at e
  ·rename_i hr;rw[← Option.some.inj e];exact zdC (ziw h) hr
  ·cases e
noncomputable def rdB (s:ByteArray):List Wri×Bool:=(rb_ex s).choose
theorem zi5(s:ByteArray):RB s (rdB s):=(rb_ex s).choose_spec
theorem zoz{s:ByteArray}(h:(rdB s).2=true):batS (rdB s).1=s∧zC (rdB s).1=true∧(rdB s).1≠[]∧∀ x∈(rdB s).1,FitsW x:=by
 have hs:=zi5 s;generalize rdB s=r at hs h;obtain⟨xs,b⟩:=r;simp only at h;subst h;rcases id hs with ⟨_,h2,h3,h4⟩ | ⟨h1,_⟩
 ·refine⟨by rw[zd6 h2 h3];exact h4,h2,h3,fun x hx=>?_⟩;have:=(rb_small hs).2 x hx;exact⟨Nat.le_trans this.1 (by decide),Nat.le_trans this.2 (by decide)⟩
 ·cases h1
noncomputable def repK (ts:List ByteArray):Nat→Option (Tre×Nat)
 | 0=>some (zey,0)
 | k+1=>match repK ts k with
  | none=>none
  | some (T,n)=>if h:k<ts.length then (if (rdB ts[k]).2=true∧n+(recS ts[k]).size≤20000 then (match addT T (rdB ts[k]).1 with | some T'=>some (T',n+(recS ts[k]).size) | none=>none) else none) else none
theorem zdB{ts:List ByteArray}{k n:Nat}{T:Tre}(h:repK ts k=some (T,n))(hk:k<ts.length):repK ts (k+1)=if (rdB ts[k]).2=true∧n+(recS ts[k]).size≤20000 then (match addT T (rdB ts[k]).1 with | some T'=>some (T',n+(recS ts[k]).size) | none=>none) else none:=by
 rw[repK,h];simp only[hk,dite_true]
theorem zra{ts:List ByteArray}{k:Nat}(h:(repK ts (k+1)).isSome=true):(repK ts k).isSome=true:=by
 cases e:repK ts k with
 | none=>rw[repK,e] at h;cases h
 | some p=>rfl
theorem zmR{ts:List ByteArray}{k j:Nat}(hj:j≤k)(h:(repK ts k).isSome=true):(repK ts j).isSome=true:=by
 induction k with
 | zero=>obtain rfl:j=0:=by omega
         exact h
 | succ k ih =>
  rcases Nat.lt_or_ge j (k+1) with h1 | h1
  ·exact ih (by omega) (zra h)
  ·obtain rfl:j=k+1:=by omega
   exact h
theorem ze9{ts:List ByteArray}:∀ {k n:Nat} {T:Tre},repK ts k=some (T,n)→TreeP T
 | 0,n,T,h=>by
  have:=Option.some.inj h;rw[← show _=T from congrArg Prod.fst this];exact zeZ
 | k+1,n,T,h=>by
  cases e:repK ts k with
  | none=>rw[repK,e] at h;cases h
  | some p =>
   obtain⟨T0,n0⟩:=p;by_cases hk:k<ts.length
   ·rw[zdB e hk] at h;split at h
    ·split at h
     ·rename_i T' ha;have:=Option.some.inj h;rw[← show _=T from congrArg Prod.fst this];exact zpB (ze9 e) ha
     ·cases h
    ·cases h
   ·rw[repK,e] at h;simp[hk] at h
theorem zii{ts:List ByteArray}:∀ {k n:Nat} {T:Tre},repK ts k=some (T,n)→T.snaps=[]
 | 0,n,T,h=>by
  have:=Option.some.inj h;rw[← show _=T from congrArg Prod.fst this];rfl
 | k+1,n,T,h=>by
  cases e:repK ts k with
  | none=>rw[repK,e] at h;cases h
  | some p =>
   obtain⟨T0,n0⟩:=p;by_cases hk:k<ts.length
   ·rw[zdB e hk] at h;split at h
    ·split at h
     ·rename_i T' ha;have:=Option.some.inj h;rw[← show _=T from congrArg Prod.fst this];have h0:=zii e;have ht:=ze9 e;unfold addT at ha;split at ha
      ·rw[← Option.some.inj ha,(zcS _ _).2.2,h0]
      ·split at ha
       ·rw[← Option.some.inj ha,(zcS _ _).2.2];unfold tidyT;rw[zll (zcX ht),zkR ht,h0]
       ·cases ha
     ·cases h
    ·cases h
   ·rw[repK,e] at h;simp[hk] at h
def RepEnd(ts:List ByteArray)(T:Tre)(n:Nat):Prop:=∃ k,k≤ts.length∧repK ts k=some (T,n)∧(k=ts.length∨repK ts (k+1)=none)
theorem zbC{ts:List ByteArray}{T T':Tre}{n n' k:Nat}(h:RepEnd ts T n)(hk:k≤ts.length)(e:repK ts k=some (T',n'))(hl:k=ts.length∨repK ts (k+1)=none):T=T'∧n=n':=by
 obtain⟨j,hj,ej,hjl⟩:=h;have hne:j=k:=by
  rcases Nat.lt_trichotomy j k with h1 | h1 | h1
  ·exfalso;have:=zmR (ts:=ts) (k:=k) (j:=j+1) (by omega) (by rw[e];rfl);rcases hjl with h2 | h2
   ·omega
   ·rw[h2] at this;cases this
  ·exact h1
  ·exfalso;have:=zmR (ts:=ts) (k:=j) (j:=k+1) (by omega) (by rw[ej];rfl);rcases hl with h2 | h2
   ·omega
   ·rw[h2] at this;cases this
 subst hne;rw[ej] at e;have:=Option.some.inj e;exact⟨congrArg Prod.fst this,congrArg Prod.snd this⟩
theorem zgC{ts:List ByteArray}:∀ (m:Nat) {k:Nat},ts.length-k=m→k≤ts.length→(repK ts k).isSome=true→∃ T n,RepEnd ts T n
 | m,k,hm,hk,h=>by
  obtain⟨p,hp⟩:=Option.isSome_iff_exists.1 h;obtain⟨T,n⟩:=p;rcases Nat.lt_or_ge k ts.length with hlt | hge
  ·cases e:repK ts (k+1) with
   | none=>exact⟨T,n,k,hk,hp,.inr e⟩
   | some q =>
    match m,hm with
    | 0,hm=>omega
    | m+1,hm=>exact zgC m (k:=k+1) (by omega) (by omega) (by rw[e];rfl)
  ·exact⟨T,n,k,hk,hp,.inl (by omega)⟩
theorem zpH(ts:List ByteArray):∃ T n,RepEnd ts T n:=zgC (ts.length-0) (k:=0) rfl (Nat.zero_le _) rfl
theorem RepEnd.tree{ts:List ByteArray}{T:Tre}{n:Nat}(h:RepEnd ts T n):TreeP T:=by obtain⟨k,_,e,_⟩:=h;exact ze9 e
theorem RepEnd.snaps{ts:List ByteArray}{T:Tre}{n:Nat}(h:RepEnd ts T n):T.snaps=[]:=by obtain⟨k,_,e,_⟩:=h;exact zii e
def joinR(ts:List ByteArray)(k:Nat):List UInt8:=((ts.take k).map fun t=>(recS t).data.toList).flatten
theorem zfO{ts:List ByteArray}{k:Nat}(h:k<ts.length):joinR ts (k+1)=joinR ts k++(recS ts[k]).data.toList:=by
 unfold joinR;rw[List.take_succ_eq_append_getElem h];simp only[List.map_append,List.map_cons,List.map_nil,List.flatten_append,List.flatten_cons,List.flatten_nil,List.append_nil]
theorem zeM{ts:List ByteArray}:∀ {k n:Nat} {T:Tre},repK ts k=some (T,n)→(joinR ts k).length=n∧n≤20000
 | 0,n,T,h=>by
  have:=congrArg Prod.snd (Option.some.inj h);simp only at this;subst this;exact⟨by unfold joinR;simp,Nat.zero_le _⟩
 | k+1,n,T,h=>by
  cases e:repK ts k with
  | none=>rw[repK,e] at h;cases h
  | some p =>
   obtain⟨T0,n0⟩:=p;by_cases hk:k<ts.length
   ·rw[zdB e hk] at h;split at h
    ·rename_i hc;split at h
     ·have:=congrArg Prod.snd (Option.some.inj h);simp only at this;subst this;rw[zfO hk,List.length_append,(zeM e).1,ze];exact⟨rfl,hc.2⟩
     ·cases h
    ·cases h
   ·rw[repK,e] at h;simp[hk] at h
open Go.RowKit
theorem zoX{es:List Ent}(hok:okL es=true){i:Nat}(hi:i<es.length):(nth es i).seq≤1000000:=by
 have:=((za0 es).1 hok).2.1 (nth es i) (by rw[zE hi];exact List.getElem_mem hi);simp only[okE,Bool.and_eq_true,decide_eq_true_eq] at this;exact this.2
theorem znN{es:List Ent}(hok:okL es=true){i:Nat}(hi:i<es.length):nwAt es i=zaa es 1000000 i:=by
 unfold nwAt zaa;have h1:=zoX hok hi;rw[decide_eq_true h1,Bool.true_and];by_cases h0:i=0
 ·simp[h0]
 ·have h2:=zoX hok (show i-1<es.length by omega);have h3:decide ((1000000:Int)<(nth es (i-1)).seq)=false:=decide_eq_false (by omega);rw[h3,Bool.or_false]
theorem zny{es:List Ent}(hok:okL es=true){i:Nat}(hi:i<es.length)(q:Int):snAt es i q=zaa es q i:=by
 rw[znt hok q i hi];unfold snAt;cases hq:seenL es (nth es i).key q with
 | none=>simp
 | some u =>
  have hu:u∈es:=List.mem_of_find?_eq_some hq;have hk:=(zfz hq).1;have hm:nth es i∈es:=by rw[zE hi];exact List.getElem_mem hi
  simp only[Option.isSome_some,Bool.true_and,Option.getD_some,Option.some.injEq];apply decide_eq_decide.2;exact⟨fun h=>ks_eq (ziu hok) hu hm hk h,fun h=>by rw[h]⟩
theorem kept_any{es:List Ent}(hok:okL es=true)(qs:List Int){i:Nat}(hi:i<es.length):kept es qs i=(1000000::qs).any (fun q=>zaa es q i):=by
 rw[zoY,List.any_cons,znN hok hi];congr 1
 exact congrArg (fun f=>qs.any f) (funext fun q=>zny hok hi q)
theorem zo0{qs:List Int}{j:Nat}(hj:j<qs.length)(p:Int→Bool)(h:(qs.take j).any p=false):(p qs[j]=false→(qs.take (j+1)).any p=false)∧(p qs[j]=true→qs.any p=true):=by
 refine⟨fun h1=>by rw[zms hj,h,h1];rfl,fun h1=>List.any_eq_true.2 ⟨_,List.getElem_mem hj,h1⟩⟩
theorem ziW(v vq:Value)(es:List Ent)(qs:List Int)(w:World)(hr:RdE w v es)(hq:RdI w vq qs)(hf:∀ e∈es,Fits e) :
 Calls Tryz.prog 194 #[v,vq] w fun e w'=>zdI w (zcr es qs) e w':=by
 obtain⟨a,cap,hv,hl,hm,_⟩:=id hr;obtain⟨nn,hnn⟩:∃ nn,nn=es.length:=⟨_,rfl⟩;have HNN:Hid (nn=es.length):=hnn;rw[← hnn] at hv hl;subst hv;unfold maxLen at hm;obtain⟨aq,cq,hvq,hlq,hmq,_⟩:=id hq;obtain⟨mm,hmm⟩:∃ mm,mm=qs.length:=⟨_,rfl⟩;have HMM:Hid (mm=qs.length):=hmm;rw[← hmm] at hvq hlq;subst hvq;unfold maxLen at hmq;clear hnn hmm;cases hok:okL es with
 | false =>
  have RES:Hid (zcr es qs=[]):=by unfold Hid zcr toldS;simp[hok]
  go_enter Tryz.func194,Tryz.ntmps194
  go_wp2;go_step3
  go_wp2_with fail
  refine(zdp _ es _ hr hf hok).mono ?_;rintro e w1 ⟨rfl,hb1⟩;go_wp2;try rw[Exit.noGoto_ret]
  go_ret;refine⟨_,rfl,?_,hb1.alloc hb1.size _⟩;rw[RES.out];exact(zS w1).mono hb1.size
 | true =>
  by_cases hm20:20<mm
  ·skip
   have RES:Hid (zcr es qs=[]):=by
    unfold Hid zcr toldS;have:decide (qs.length≤20)=false:=decide_eq_false (by rw[← HMM.out];omega);simp[hok,this]
   go_enter Tryz.func194,Tryz.ntmps194
   go_wp2;go_step3
   go_wp2_with fail
   refine(zaN _ es _ hr hf hok).mono ?_;rintro e w1 ⟨rfl,hb1⟩;go_wp2;try rw[Exit.noGoto_ret]
   go_ret;refine⟨_,rfl,?_,hb1.alloc hb1.size _⟩;rw[RES.out];exact(zS w1).mono hb1.size
  ·skip
   have RES:Hid (zcr es qs=zbq es qs):=by
    unfold Hid zcr toldS;have:decide (qs.length≤20)=true:=decide_eq_true (by rw[← HMM.out];omega);simp[hok,this]
   have hnl:nn≤300:=by have:=zZ hok;rw[HNN.out];exact this
   have HOK:Hid (okL es=true):=hok;have HKA:Hid (∀ k,k<nn→kept es qs k=(1000000::qs).any (fun q=>zaa es q k)):=fun k hk=>kept_any HOK.out qs (by rw[← HNN.out];exact hk)
   go_enter Tryz.func194,Tryz.ntmps194
   go_wp2;go_step3
   go_wp2_with fail
   refine(zaN _ es _ hr hf hok).mono ?_;rintro e w1 ⟨rfl,hb1⟩;clear hok hf;have hoi:=zeV w1 1000000;have bi:=hb1.alloc hb1.size (.cells #[.int .i64 1000000] 2);have hq1:=hq.below bi;have hs1:=hb1.size;clear hb1 hq;go_wp2_with (at_builtin;(refine zaf rfl _ _ rfl w1.heap.size _ _ [1000000] qs rfl rfl hoi hq1 (by rw[← HMM.out];simp;omega) (by simp) ?_))
   intro v2 w2 ho2 hg2;have b2:Below w.heap.size w w2:=bi.grown hg2 (by simp;omega) (fun k hk=>by cases hk;exact hs1);obtain⟨sq,hsq⟩:∃ sq,sq=1000000::qs:=⟨_,rfl⟩;have ho2':OwnI w2 w.heap.size v2 sq:=by rw[hsq];exact ho2.mono hs1
   obtain⟨g2,c2,hv2⟩:=zjC ho2' (by rw[hsq];simp);obtain⟨sn,hsn⟩:∃ sn,sn=sq.length:=⟨_,rfl⟩;have HSN:Hid (sn=sq.length):=hsn;have hs21:sn≤21:=by rw[hsn,hsq,List.length_cons,← HMM.out];omega
   rw[← hsn] at hv2;subst hv2;rw[← hsq] at HKA;obtain⟨a2,cc2,hvv,hlc,hmc,_⟩:=id ho2'.rd;simp only[Value.slice.injEq] at hvv;obtain⟨h1x,h2x,rfl⟩:=hvv;clear h1x h2x;rw[← hsn] at hlc;unfold maxLen at hmc;have ho3:=ho2'.below (za w2 (.cells #[] 94));have hgB:g2<w2.heap.size:=zqE ho2' g2 rfl;obtain⟨B2,hB2⟩:∃ B2,B2=w2.heap.size:=⟨_,rfl⟩;have hoe:OwnE (w2.alloc (.cells #[] 94)) B2 (.slice (some ⟨w2.heap.size,0,none⟩) 0 0) []:=by rw[hB2];exact zS w2
   have hszB:B2≤(w2.alloc (.cells #[] 94)).heap.size:=by simp;omega
   have hBw2:w.heap.size≤B2:=by rw[hB2];exact b2.size
   rw[← hB2] at hgB;have b3:=b2.alloc b2.size (.cells #[] 94);clear hsq hsn ho2 ho2' hg2 b2 bi hoi hq1 hs1 hB2;go_wp2;go_step3
   go_wp2;go_loopg [6,26] nn (fun gg u i wr=>∃ k:Nat,k+gg=nn∧i=.int .i64 k∧OwnE wr B2 u (seTo es qs k)∧OwnI wr w.heap.size (.slice (some ⟨g2,0,none⟩) sn c2) sq∧B2≤wr.heap.size∧Below w.heap.size w wr)
   case atStart=>exact⟨0,by omega,rfl,hoe,ho3,hszB,b3⟩
   case round =>
    obtain⟨k,hkg,rfl,ho,hoi,hsB,hb⟩:=hrel;clear ho3 hoe b3 hszB;by_cases hlt:k<nn
    ·cases gk with
     | zero=>exfalso;omega
     | succ gg =>
      obtain⟨b,off,rfl,hc⟩:=(hr.below hb).at HNN.out k (by rw[← HNN.out];exact hlt);obtain⟨x,hx⟩:∃ x,x=nth es k:=⟨_,rfl⟩;rw[← hx] at hc;have HX:Hid (x=nth es k):=hx;obtain⟨hY,hN⟩:=zlw es qs k;have HYES:Hid (sq.any (fun q=>zaa es q k)=true→seTo es qs (k+1)=seTo es qs k++[x]):=fun h=>by rw[hx];exact hY (by rw[HKA.out k hlt];exact h)
      have HNO:Hid (sq.any (fun q=>zaa es q k)=false→seTo es qs (k+1)=seTo es qs k):=fun h=>hN (by rw[HKA.out k hlt];exact h)
      have hsl:(seTo es qs k).length≤300:=by have:=zgq es qs k;omega
      clear hx hY hN;obtain⟨c0,c1,c2',c3⟩:=id hc;have hoA:=ho.below (za wr (.cells #[.string x.key,.string x.val,.int .i64 x.seq,.bool x.gone] 94));have hoiA:=hoi.below (za wr (.cells #[.string x.key,.string x.val,.int .i64 x.seq,.bool x.gone] 94));have hbA:=hb.alloc hb.size (.cells #[.string x.key,.string x.val,.int .i64 x.seq,.bool x.gone] 94);have hxA:=zad wr x 94;have hBw:w.heap.size≤wr.heap.size:=hb.size;have hlB:∀ j,u6.ownBlock=some j→j<wr.heap.size:=zqC ho;have hsBA:B2≤(wr.alloc (.cells #[.string x.key,.string x.val,.int .i64 x.seq,.bool x.gone] 94)).heap.size:=by simp;omega
      clear ho hoi hb hsB;go_wp2;generalize wr.alloc (.cells #[.string x.key,.string x.val,.int .i64 x.seq,.bool x.gone] 94)=W1 at hoA hoiA hbA hxA hsBA ⊢;generalize wr.heap.size=B at hxA hBw hlB ⊢;clear c0 c1 c2' c3 hc wr;go_loopg [6,33] sn (fun g3 u j wr=>∃ jn:Nat,jn+g3=sn∧j=.int .i64 jn∧Hid ((sq.take jn).any (fun q=>zaa es q k)=false)∧OwnE wr B2 u (seTo es qs k)∧OwnI wr w.heap.size (.slice (some ⟨g2,0,none⟩) sn c2) sq∧EntAt wr B 0 x∧B2≤wr.heap.size∧Below w.heap.size w wr)
      case atStart=>exact⟨0,by omega,rfl,by unfold Hid;simp,hoA,hoiA,hxA,hsBA,hbA⟩
      case round =>
       obtain⟨jn,hjg,rfl,HJ,ho,hoi,hxa,hsB,hb⟩:=hrel;clear hoA hoiA hxA hbA hsBA;by_cases hjl:jn<sn
       ·cases gk with
        | zero=>exfalso;omega
        | succ g3 =>
         obtain⟨b',o',hbo,hcq⟩:=hoi.rd.at jn (by rw[← HSN.out];exact hjl);cases hbo
         obtain⟨q,hqq⟩:∃ q,q=sq[jn]'(by rw[← HSN.out];exact hjl):=⟨_,rfl⟩;rw[← hqq] at hcq;simp only[Nat.zero_add] at hcq;obtain⟨h0,h1⟩:=zo0 (show jn<sq.length by rw[← HSN.out];exact hjl) (fun q=>zaa es q k) HJ.out;rw[← hqq] at h0 h1;have hrw:=hr.below hb;have hjc:jn<c2:=by omega
         cases hsh:zaa es q k with
         | false =>
          have HJ2:Hid ((sq.take (jn+1)).any (fun q=>zaa es q k)=false):=h0 hsh;clear h0 h1 hqq;go_wp2_with fail
          refine(zkf _ es k q false _ hrw (by rw[← HNN.out];exact hlt) hsh).mono ?_;rintro e w3 ⟨rfl,n3,rfl⟩;have hb3:=zqo hb n3;go_wp2;go_roundg g3
          case rel=>exact⟨jn+1,by omega,by go_num,HJ2,ho,hoi,hxa,hsB,hb3⟩
          case measure=>omega
         | true =>
          have HS:Hid (seTo es qs (k+1)=seTo es qs k++[x]):=HYES.out (h1 hsh);clear h0 h1 hqq;go_wp2_with fail
          refine(zkf _ es k q true _ hrw (by rw[← HNN.out];exact hlt) hsh).mono ?_;rintro e w3 ⟨rfl,n3,rfl⟩;have hb3:=zqo hb n3;have ho3:=ho.drewN n3;have hoi3:=hoi.drewN n3;have hxa3:EntAt (wr.drewN n3) B 0 x:=hxa;have hsB3:B2≤(wr.drewN n3).heap.size:=hsB;generalize wr.drewN n3=W3 at hb3 ho3 hoi3 hxa3 hsB3 ⊢;clear ho hoi hxa hb hrw hcq hsB;obtain⟨c0,c1,c2',c3⟩:=id hxa3;simp only[Nat.zero_add] at c1 c2' c3;have hb4:=hb3.alloc hb3.size (.cells #[.string x.key,.string x.val,.int .i64 x.seq,.bool x.gone] 94);have ho4:=ho3.below (za W3 (.cells #[.string x.key,.string x.val,.int .i64 x.seq,.bool x.gone] 94));have hoi4:=hoi3.below (za W3 (.cells #[.string x.key,.string x.val,.int .i64 x.seq,.bool x.gone] 94));have h14:=zqA W3 x;clear ho3 hoi3 hb3;go_wp2_with (at_builtin;(refine zi rfl _ _ rfl B2 _ _ (seTo es qs k) [x] rfl rfl ho4 h14.rd (by simp;omega) (by simp;omega) ?_))
          intro v5 w5 ho5 hg5;have hb5:=hb4.grown hg5 hb4.size (fun j hj=>by have:=(World.ownsRow.lt ho4 j hj).1;omega);have hoi5:OwnI w5 w.heap.size (.slice (some ⟨g2,0,none⟩) sn c2) sq:=zj hoi4 hg5 (fun j hj e=>by have h1:=(World.ownsRow.lt ho4 j e).1;have hj2:g2=j:=Option.some.inj hj;omega);have hsB5:B2≤w5.heap.size:=Nat.le_trans (by simp;omega) hg5.size;rw[← HS.out] at ho5;clear hb4 ho4 hoi4 h14 hg5 c0 c1 c2' c3 hxa3;go_wp2;go_roundg gg
          case rel=>exact⟨k+1,by omega,by go_num,ho5,hoi5,hsB5,hb5⟩
          case measure=>omega
       ·skip
        have hje:jn=sn:=by omega
        have HS:Hid (seTo es qs (k+1)=seTo es qs k):=HNO.out (by have:=HJ.out;rw[hje,HSN.out,List.take_length] at this;exact this);rw[← HS.out] at ho;clear hje;go_wp2;go_roundg gg
        case rel=>exact⟨k+1,by omega,by go_num,ho,hoi,hsB,hb⟩
        case measure=>omega
    ·skip
     have hke:k=nn:=by omega
     have HE:Hid (seTo es qs k=zcr es qs):=by unfold Hid;rw[RES.out,hke,HNN.out];rfl
     rw[HE.out] at ho;clear hke;go_wp2;try rw[Exit.noGoto_ret]
     go_ret;exact⟨_,rfl,ho.mono hBw2,hb⟩
open Go.RowKit
def zah:List Ent→List Ent
 | []=>[]
 | x::r=>if (zah r).isEmpty&&x.gone then [] else x::zah r
theorem zh0:∀ es:List Ent,(zah es).Sublist es
 | []=>List.Sublist.slnil
 | x::r=>by
  rw[zah];split
  ·exact List.nil_sublist _
  ·exact(zh0 r).cons_cons x
theorem zgH:∀ (l:List Ent) (x:Ent),x.gone=true→zah (l++[x])=zah l
 | [],x,h=>by simp[zah,h]
 | y::r,x,h=>by rw[List.cons_append,zah,zgH r x h,zah]
theorem zhG:∀ (l:List Ent) (x:Ent),x.gone=false→zah (l++[x])=l++[x]
 | [],x,h=>by simp[zah,h]
 | y::r,x,h=>by
  rw[List.cons_append,zah,zhG r x h];simp
theorem zlX(x:Ent)(r:List Ent):zB (x::r)=botS x (zB r):=rfl
theorem zf9:∀ (g rest:List Ent) (K:ByteArray),(∀ x∈g,x.key=K)→(∀ x∈rest,x.key≠K)→zB (g++rest)=zah g++zB rest
 | [],rest,K,_,_=>by simp[zah]
 | x::r,rest,K,h1,h2=>by
  have ih:=zf9 r rest K (fun y hy=>h1 y (List.mem_cons_of_mem _ hy)) h2;have hx:=h1 x List.mem_cons_self;rw[List.cons_append,zlX,ih,zah];cases hs:zah r with
  | nil =>
   have hla:(decide ((zB rest).length=0) || !kEq (nth (zB rest) 0).key x.key)=true:=by
    cases hb:zB rest with
    | nil=>rfl
    | cons z s =>
     have:z∈rest:=(zd2 rest).subset (by rw[hb];exact List.mem_cons_self);have:=h2 z this;rw[zbs,hx];simp[kEq,this]
   unfold botS;rw[List.nil_append,hla,Bool.true_and,List.isEmpty_nil,Bool.true_and];cases x.gone<;>simp
  | cons y s =>
   have:y∈r:=(zh0 r).subset (by rw[hs];exact List.mem_cons_self);have hy:=h1 y (List.mem_cons_of_mem _ this);unfold botS;rw[List.cons_append,zbs,hx,hy];simp[kEq]
theorem zlh{al:List Ent}(hok:okL al=true){k t:Nat}(hkt:k<t)(ht:t≤al.length)(h1:∀ j,k≤j→j<t→(nth al j).key=(nth al k).key)(h2:t<al.length→(nth al t).key≠(nth al k).key) :
 zB (al.drop k)=zah ((al.take t).drop k)++zB (al.drop t):=by
 have hd:al.drop k=(al.take t).drop k++al.drop t:=by
  have:=congrArg (List.drop k) (List.take_append_drop t al);rw[← this,List.drop_append,List.length_take,Nat.min_eq_left ht,show k-t=0 by omega,List.drop_zero]
 rw[hd];refine zf9 _ _ (nth al k).key (fun x hx=>?_) (fun x hx=>?_)
 ·obtain⟨i,hi,rfl⟩:=List.getElem_of_mem hx;rw[List.length_drop,List.length_take,Nat.min_eq_left ht] at hi;have e:=h1 (k+i) (by omega) (by omega);rw[← e,← zE (es:=(al.take t).drop k),zgv (by rw[List.length_take];omega),ziM (by omega) (by omega)]
 ·obtain⟨i,hi,rfl⟩:=List.getElem_of_mem hx;rw[List.length_drop] at hi;rw[← zE (es:=al.drop t),zgv (by omega)];intro he;refine h2 (by omega) ?_;by_cases hi0:i=0
  ·subst hi0;exact he
  ·exact zkZ (zbN hok hkt (by omega)) (zbN hok (show t<t+i by omega) (by omega)) he.symm
def zlS(w:World)(es:List Ent)(k:Nat)(e:Ending)(w':World):Prop :=
 ∃ t:Nat,e=.returned (.int .i64 t)∧k<t∧t≤es.length∧(∀ j,k≤j→j<t→(nth es j).key=(nth es k).key)∧(t<es.length→(nth es t).key≠(nth es k).key)∧∃ n,w'=w.drewN n
theorem zjs(v:Value)(es:List Ent)(k:Nat)(w:World)(hr:RdE w v es)(hk:k<es.length) :
 Calls Tryz.prog 195 #[v,.int .i64 k] w fun e w'=>zlS w es k e w':=by
 obtain⟨a,cap,hv,hl,hm,_⟩:=id hr;obtain⟨nn,hnn⟩:∃ nn,nn=es.length:=⟨_,rfl⟩;have HNN:Hid (nn=es.length):=hnn;rw[← hnn] at hv hl hk;subst hv;unfold maxLen at hm;obtain⟨b,off,rfl,hck⟩:=hr.at hnn k (by rw[← hnn];exact hk);obtain⟨x,hx⟩:∃ x,x=nth es k:=⟨_,rfl⟩;rw[← hx] at hck;have HX:Hid (x=nth es k):=hx;clear hx hnn;go_enter Tryz.func195,Tryz.ntmps195
 go_wp2;go_loopw [5] (fun i wr=>∃ t:Nat,k≤t∧t≤nn∧i=.int .i64 t∧Hid (∀ j,k≤j→j<t→(nth es j).key=x.key)∧∃ n,wr=w.drewN n) (fun i _=>nn-(intOf i).toNat)
 case atStart=>exact⟨k,Nat.le_refl _,by omega,rfl,(fun j h1 h2=>by omega),0,rfl⟩
 case round =>
  obtain⟨t,hkt,htn,rfl,HJ,n,rfl⟩:=hrel;by_cases hlt:t<nn
  ·obtain⟨b2,off2,ha2,hd⟩:=(hr.drewN n).at HNN.out t (by rw[← HNN.out];exact hlt);cases ha2
   obtain⟨y,hy⟩:∃ y,y=nth es t:=⟨_,rfl⟩;rw[← hy] at hd;have hkb:=zcb y.key x.key;have htl:decide (t<nn)=true:=decide_eq_true hlt;have hck2:EntAt (w.drewN n) b (off+k*4) x:=hck;have htc:t<cap:=by omega
   have hkc:k<cap:=by omega
   cases hke:kEq y.key x.key with
   | true =>
    rw[hke] at hkb;have HJ2:Hid (∀ j,k≤j→j<t+1→(nth es j).key=x.key):=fun j h1 h2=>by
     by_cases hjt:j=t
     ·rw[hjt,← hy];exact of_decide_eq_true hke
     ·exact HJ.out j h1 (by omega)
    clear hy;go_wp2_with fail
    refine wp_region_noPanic ?_;refine wp_region_held_drew (S:=fun w'=>EntAt w' b (off+t*4) y∧EntAt w' b (off+k*4) x) (by kernel_rfl) ⟨hd,hck2⟩ (fun hH=>?_);refine kA 0 7 hH ?_;refine kA 1 8 hH ?_;refine kA 2 9 hH ?_;refine kA 3 10 hH ?_;refine kA 4 11 hH ?_;refine kA 5 12 hH ?_;refine kA 6 13 hH ?_;refine kA 7 14 hH ?_;refine kA 8 15 hH ?_;refine kA 9 16 hH ?_;refine kA 10 17 hH ?_;refine kA 11 18 hH ?_;refine kA 12 19 hH ?_;refine kA 13 20 hH ?_;refine kA 14 21 hH ?_;refine kA 15 22 hH ?_;refine kA 16 23 hH ?_;refine dne ?_;go_wp2;go_roundw
    case rel=>exact⟨t+1,by omega,by omega,by go_num,HJ2,n+1,rfl⟩
    case measure=>simp[intOf];omega
   | false =>
    rw[hke] at hkb;have hne:y.key≠x.key:=of_decide_eq_false hke;have HE:Hid (zlS w es k (.returned (.int .i64 t)) (w.drewN (n+1))):=by
     refine⟨t,rfl,?_,by rw[← HNN.out];omega,fun j h1 h2=>by rw[← HX.out];exact HJ.out j h1 h2,fun _=>by rw[← HX.out,← hy];exact hne,n+1,rfl⟩;rcases Nat.lt_or_ge k t with h | h
     ·exact h
     ·have:t=k:=by omega
      subst this;rw[hy,← HX.out] at hne;exact absurd rfl hne
    clear hne hy;go_wp2_with fail
    refine wp_region_noPanic ?_;refine wp_region_held_drew (S:=fun w'=>EntAt w' b (off+t*4) y∧EntAt w' b (off+k*4) x) (by kernel_rfl) ⟨hd,hck2⟩ (fun hH=>?_);refine kA 0 7 hH ?_;refine kA 1 8 hH ?_;refine kA 2 9 hH ?_;refine kA 3 10 hH ?_;refine kA 4 11 hH ?_;refine kA 5 12 hH ?_;refine kA 6 13 hH ?_;refine kA 7 14 hH ?_;refine kA 8 15 hH ?_;refine kA 9 16 hH ?_;refine kA 10 17 hH ?_;refine kA 11 18 hH ?_;refine kA 12 19 hH ?_;refine kA 13 20 hH ?_;refine kA 14 21 hH ?_;refine kA 15 22 hH ?_;refine kA 16 23 hH ?_;refine dne ?_;go_wp2;go_ret;exact HE.out
  ·skip
   have hte:t=nn:=by omega
   have htl:decide (t<nn)=false:=decide_eq_false hlt;have HE:Hid (zlS w es k (.returned (.int .i64 t)) (w.drewN (n+1))):=⟨t,rfl,by omega,by rw[← HNN.out];omega,fun j h1 h2=>by rw[← HX.out];exact HJ.out j h1 h2,fun h=>absurd h (by rw[← HNN.out];omega),n+1,rfl⟩;clear hte;go_wp2_with fail
   refine wp_region_noPanic ?_;refine wp_region_held_drew (S:=fun _=>True) (by kernel_rfl) trivial (fun hH=>?_);refine kA 0 7 hH ?_;refine kA 1 8 hH ?_;refine kA 2 9 hH ?_;refine kA 3 10 hH ?_;refine kA 4 11 hH ?_;refine kS 5 12 hH ?_;refine kS 6 13 hH ?_;refine kS 7 14 hH ?_;refine kS 8 15 hH ?_;refine kS 9 16 hH ?_;refine kS 10 17 hH ?_;refine kS 11 18 hH ?_;refine kS 12 19 hH ?_;refine kS 13 20 hH ?_;refine kS 14 21 hH ?_;refine kS 15 22 hH ?_;refine kA 16 23 hH ?_;refine dne ?_;go_wp2;go_ret;exact HE.out
theorem znA{g:List Ent}{n:Nat}(hn:n<g.length)(h:(nth g n).gone=true):zah (g.take (n+1))=zah (g.take n):=by
 rw[List.take_succ_eq_append_getElem hn,← zE hn];exact zgH _ _ h
theorem znV{g:List Ent}{n:Nat}(hn:n<g.length)(h:(nth g n).gone=false):zah (g.take (n+1))=g.take (n+1):=by
 rw[List.take_succ_eq_append_getElem hn,← zE hn];exact zhG _ _ h
theorem zgZ(v:Value)(g:List Ent)(w:World)(hr:RdE w v g) :
 Calls Tryz.prog 196 #[v] w fun e w'=>∃ u,e=.returned u∧(∀ W,RdE W v g→RdE W u (zah g))∧w'=w:=by
 obtain⟨a,cap,hv,hl,hm,_⟩:=id hr;obtain⟨nn,hnn⟩:∃ nn,nn=g.length:=⟨_,rfl⟩;have HNN:Hid (nn=g.length):=hnn;rw[← hnn] at hv hl;subst hv;unfold maxLen at hm;have HS0:Hid (zah g=zah (g.take nn)):=by unfold Hid;rw[hnn,List.take_length]
 clear hnn;go_enter Tryz.func196,Tryz.ntmps196
 go_wp2;go_loop [3] (fun i=>∃ n:Nat,n≤nn∧i=.int .i64 n∧Hid (zah g=zah (g.take n))) (fun i=>(intOf i).toNat)
 case atStart=>exact⟨nn,Nat.le_refl _,rfl,HS0⟩
 case round =>
  obtain⟨n,hnn,rfl,HS⟩:=hrel;clear HS0;cases n with
  | zero =>
   have HE:Hid ((g.take 0).drop 0=zah g):=by unfold Hid;rw[HS.out];rfl
   go_wp2_with fail
   refine(zmc _ g 0 0 _ _ _ rfl rfl hr (Nat.le_refl _) (Nat.zero_le _)).mono ?_;rintro e w3 ⟨u,rfl,hu,rfl⟩;rw[HE.out] at hu;have HU:Hid (∀ W,RdE W (.slice a nn cap) g→RdE W u (zah g)):=hu;clear hu;go_wp2;go_ret;exact⟨u,rfl,HU.out,rfl⟩
  | succ m =>
   have hml:m<g.length:=by rw[← HNN.out];omega
   obtain⟨b,off,rfl,hc⟩:=hr.at HNN.out m hml;obtain⟨x,hx⟩:∃ x,x=nth g m:=⟨_,rfl⟩;rw[← hx] at hc;obtain⟨c0,c1,c2,c3⟩:=id hc;have hmc:m<cap:=by omega
   have hmi:((m+1:Nat):Int)-1=(m:Int):=by omega
   cases hg:x.gone with
   | true =>
    rw[hg] at c3;have HS2:Hid (zah g=zah (g.take m)):=by unfold Hid;rw[HS.out,znA hml (by rw[← hx];exact hg)]
    clear hx HS;go_wp2;go_round
    case rel=>exact⟨m,by omega,by go_num,HS2⟩
    case measure=>simp[intOf]
   | false =>
    rw[hg] at c3;have HE:Hid ((g.take (m+1)).drop 0=zah g):=by unfold Hid;rw[HS.out,znV hml (by rw[← hx];exact hg),List.drop_zero]
    clear hx HS;go_wp2_with fail
    refine(zmc _ g 0 (m+1) _ _ _ rfl (by omega) hr (Nat.zero_le _) (by omega)).mono ?_;rintro e w3 ⟨u,rfl,hu,rfl⟩;rw[HE.out] at hu;have HU:Hid (∀ W,RdE W (.slice (some ⟨b,off,none⟩) nn cap) g→RdE W u (zah g)):=hu;clear hu;go_wp2;go_ret;exact⟨u,rfl,HU.out,rfl⟩
open Go.RowKit
theorem zob(es:List Ent)(qs:List Int):zgF es qs=zB (zcr es qs):=by
 unfold zgF zcr;split
 ·rfl
 ·rfl
theorem zqK(es:List Ent)(qs:List Int):okL (zcr es qs)=true:=by
 unfold zcr;split
 ·rename_i h;exact seens_ok (told_ok h) qs
 ·rfl
theorem zed(v vq:Value)(es:List Ent)(qs:List Int)(w:World)(hr:RdE w v es)(hq:RdI w vq qs)(hf:∀ e∈es,Fits e) :
 Calls Tryz.prog 142 #[v,vq] w fun e w'=>zdI w (zgF es qs) e w':=by
 have HC:Hid (Calls _ _ _ _ _):=ziW v vq es qs w hr hq hf;have hok:=zqK es qs;rw[zob];generalize zcr es qs=al at HC hok;have hsl:=zZ hok;have HOK:Hid (okL al=true):=hok;obtain⟨i0,hi,hz0,hz1,hz2⟩:=info_parts Tryz.info31;clear hr hq hf hok;go_enter Tryz.func142,Tryz.ntmps142
 go_wp2_with fail
 refine HC.out.mono ?_;rintro e w1 ⟨ua,rfl,hoa,hba⟩;obtain⟨nn,hnn⟩:∃ nn,nn=al.length:=⟨_,rfl⟩;have HNN:Hid (nn=al.length):=hnn;have hra:=hoa.rd;obtain⟨aa,ca,hva,hla,hma,_⟩:=id hra;rw[← hnn] at hva hla hsl;subst hva;unfold maxLen at hma;have hp1:=zqg w1;have b1:=za w1 (.cells #[] 31);clear hnn HC hoa;go_wp2;go_loopw [6,7] (fun o i wr=>∃ (k:Nat) (ps:List (Value×List Ent)),k≤nn∧i=.int .i64 k∧ps.length≤k∧OwnP wr w1.heap.size o ps∧Hid (∀ p∈ps,RdE w1 p.1 p.2)∧Hid (zB al=joinE ps++zB (al.drop k))∧Below w1.heap.size w1 wr) (fun _ i _=>nn-(intOf i).toNat)
 case atStart=>exact⟨0,[],Nat.zero_le _,rfl,Nat.le_refl _,hp1,(fun p hp=>by cases hp),rfl,b1⟩
 case round =>
  obtain⟨k,ps,hk,rfl,hpk,ho,HP,HJ,hb⟩:=hrel;clear hp1 b1;have hrw:=hra.below hb;by_cases hlt:k<nn
  ·skip
   go_wp2_with fail
   refine(zjs _ al k _ hrw (by rw[← HNN.out];exact hlt)).mono ?_;rintro e w2 ⟨t,rfl,hkt,htn,h1,h2,n2,rfl⟩;have HST:Hid (zB (al.drop k)=zah ((al.take t).drop k)++zB (al.drop t)):=zlh HOK.out hkt htn h1 h2;rw[← HNN.out] at htn;clear h1 h2;have hrw2:=hrw.drewN n2;have ho2:=ho;have hb2:=zqo hb n2;have hp2:OwnP (wr.drewN n2) w1.heap.size u6 ps:=ho;generalize wr.drewN n2=W2 at hrw2 hb2 hp2 ⊢;clear ho ho2 hb hrw;go_wp2_with fail
   refine(zmc _ al k t _ _ _ rfl rfl hrw2 (by omega) (by rw[← HNN.out];omega)).mono ?_;rintro e w3 ⟨u,rfl,hu,rfl⟩;have hu1:=hu _ hrw2;have hu0:=hu _ hra;generalize (al.take t).drop k=gr at hu hu1 hu0 HST;clear hu;go_wp2_with fail
   refine(zgZ _ gr _ hu1).mono ?_;rintro e w4 ⟨u4,rfl,hu4,rfl⟩;have hu40:=hu4 _ hu0;obtain⟨zs,hzs⟩:∃ zs,zs=zah gr:=⟨_,rfl⟩;rw[← hzs] at hu40 HST;have HP2:Hid (∀ p∈ps++[(u4,zs)],RdE w1 p.1 p.2):=by
    intro p hp;rcases List.mem_append.1 hp with h | h
    ·exact HP.out p h
    ·simp at h;subst h;exact hu40
   obtain⟨a4,c4,hua,_⟩:=id hu40;obtain⟨z4,hz4⟩:∃ z4,z4=zs.length:=⟨_,rfl⟩;rw[← hz4] at hua;subst hua;have hs:=hb2.size;have HJ2:Hid (zB al=joinE (ps++[(.slice a4 z4 c4,zs)])++zB (al.drop t)):=by unfold Hid;rw[zoe,HJ.out,HST.out,List.append_assoc]
   clear hu4 hu40 hu1 hu0 hzs hz4 HST HJ HP;go_wp2_with (at_builtin;(refine wpList_append_own _ rfl _ _ 120 rfl w1.heap.size 31 i0 (.slice none 0 0) 1 24 Tryz.underlying120 hi hz0 hz1 hz2 rfl (by decide) _ _ _ rfl (World.ownsRow.alloc hp2 _) ⟨w4.heap.size,0,none⟩ 1 1 [.slice a4 z4 c4] rfl rfl ?c1 ?c2 ?c3 ?c4 ?c5 ?_))
   case c1=>exact znE _ _ _ _ rfl
   case c2=>intro z hz;simp at hz;subst hz;rfl
   case c3=>unfold maxLen;omega
   case c4=>omega
   case c5=>simp;omega
   intro v5 w5 ho5 hg5 _;have R1:OwnP w5 w1.heap.size v5 (ps++[(.slice a4 z4 c4,zs)]):=zpy ho5;have bz5:Below w1.heap.size w1 w5:=(hb2.alloc hs _).grown hg5 (by simp;omega) (fun k hk=>(World.ownsRow.lt hp2 k hk).1);have hpl:(ps++[(Value.slice a4 z4 c4,zs)]).length≤t:=by rw[List.length_append];simp;omega
   clear ho5 hg5 hb2 hp2 hrw2;go_wp2;go_roundw
   case rel=>exact⟨t,_,htn,rfl,hpl,R1,HP2,HJ2,bz5⟩
   case measure=>simp[intOf];omega
  ·skip
   have hke:k=nn:=by omega
   have HJ2:Hid (zB al=joinE ps):=by
    unfold Hid;rw[HJ.out,hke,HNN.out,List.drop_eq_nil_of_le (Nat.le_refl _)];exact List.append_nil _
   clear hke;have hjl:(joinE ps).length≤1000000:=by rw[← HJ2.out];have:=zqz al;rw[← HNN.out] at this;omega
   go_wp2_with fail
   refine(zfh _ ps _ (ho.pieces (fun p hp=>(HP.out p hp).below hb)) hjl (by omega)).mono ?_;rintro e w3 ⟨u,rfl,ho3,hb3⟩;have bz:=hba.trans ((hb.trans (hb3.mono hb.size)).mono hba.size);have ho4:OwnE w3 w.heap.size u (zB al):=by rw[HJ2.out];exact ho3.mono (Nat.le_trans hba.size hb.size)
   clear ho3 hb3;go_wp2;go_ret;exact⟨_,rfl,ho4,bz⟩
end Go.Proofs.YtannfbpohhnnkaaGreatDoor
