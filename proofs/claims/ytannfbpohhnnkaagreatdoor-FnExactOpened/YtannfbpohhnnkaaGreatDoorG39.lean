import Derived.Test.YtannfbpohhnnkaaGreatDoorG38
namespace Go.Proofs.YtannfbpohhnnkaaGreatDoor
set_option maxHeartbeats 16000000
set_option maxRecDepth 100000
open Go.RowKit
abbrev lfB:ByteArray:=⟨#[10]⟩
def recT(t:ByteArray):ByteArray:=itoaS (t.size:Int)++blankB++itoaS (dig 1 t.data.toList:Int)++lfB++t++lfB
def recS(t:ByteArray):ByteArray:=if t.size≤3000 then recT t else ⟨#[]⟩
def szL(t:ByteArray):List UInt8:=Lib.decDigits t.size
def dgL(t:ByteArray):List UInt8:=Lib.decDigits (dig 1 t.data.toList)
theorem zeA(n:Nat):(itoaS (n:Int)).data.toList=Lib.decDigits n:=by
 unfold itoaS;rw[Lib.itoa_nonneg]
theorem zfV{a b:ByteArray}(h:a.data.toList=b.data.toList):a=b:=by
 cases a;cases b;simp_all
theorem ze5(t:ByteArray):(recT t).data.toList=szL t++32::(dgL t++10::(t.data.toList++[10])):=by
 unfold recT szL dgL;rw[zcx,zcx,zcx,zcx,zcx,zeA,zeA];simp
theorem zfE(t:ByteArray):∀ b∈szL t,isDig b:=zgh _ _ (Nat.le_refl _)
theorem ziI(t:ByteArray):∀ b∈dgL t,isDig b:=zgh _ _ (Nat.le_refl _)
theorem zjk(t:ByteArray):valD 0 (szL t)=t.size:=zlY _ _ (Nat.le_refl _)
theorem zij{l:List UInt8}{c:UInt8}(h:∀ b∈l,isDig b)(hc:¬ isDig c):c ∉ l:=fun hm=>hc (h c hm)
theorem zbB:¬ isDig 32:=by unfold isDig;decide
theorem zby:¬ isDig 10:=by unfold isDig;decide
def isRec(d:List UInt8)(t:ByteArray):Prop:=t.size≤3000∧∃ r,d=szL t++32::(dgL t++10::(t.data.toList++10::r))
theorem isRec_iff{d:List UInt8}{t:ByteArray}:isRec d t↔t.size≤3000∧(recT t).data.toList <+: d:=by
 unfold isRec;refine and_congr_right fun _=>⟨?_,?_⟩
 ·rintro ⟨r,rfl⟩;exact⟨r,by rw[ze5];simp⟩
 ·rintro ⟨r,rfl⟩;exact⟨r,by rw[ze5];simp⟩
theorem zg9{c:UInt8}:∀ (a a' x x':List UInt8),c ∉ a→c ∉ a'→a++c::x=a'++c::x'→a=a'∧x=x'
 | [],[],x,x',_,_,h=>by simpa using h
 | [],b::a',x,x',_,h2,h=>by
  injection h with h3 h4
  exact absurd (h3 ▸ List.mem_cons_self) h2
 | b::a,[],x,x',h1,_,h=>by
  injection h with h3 h4
  exact absurd (h3 ▸ List.mem_cons_self) h1
 | b::a,b'::a',x,x',h1,h2,h=>by
  injection h with h3 h4
  obtain⟨rfl,rfl⟩:=zg9 a a' x x' (fun h=>h1 (List.mem_cons_of_mem _ h)) (fun h=>h2 (List.mem_cons_of_mem _ h)) h4;exact⟨by rw[h3],rfl⟩
theorem zko{d:List UInt8}{t t':ByteArray}(h:isRec d t)(h':isRec d t'):t=t':=by
 obtain⟨_,r,rfl⟩:=h;obtain⟨_,r',e⟩:=h';obtain⟨e1,e2⟩:=zg9 _ _ _ _ (zij (zfE _) zbB) (zij (zfE _) zbB) e;obtain⟨_,e3⟩:=zg9 _ _ _ _ (zij (ziI _) zby) (zij (ziI _) zby) e2;have hs:t.size=t'.size:=by rw[← zjk t,e1,zjk]
 have hl:=ze t;have hl':=ze t';exact zfV (List.append_inj e3 (by omega)).1
theorem zm7{d:List UInt8}{t:ByteArray}(h:isRec d t){k:Nat}(hk:k<(szL t).length):∃ hd:k<d.length,d[k]=(szL t)[k]:=by
 obtain⟨_,r,rfl⟩:=h;exact⟨by rw[List.length_append];omega,List.getElem_append_left hk⟩
theorem zdu{d:List UInt8}{t:ByteArray}(h:isRec d t):(szL t).length+1+(dgL t).length+1+t.size+1≤d.length:=by
 obtain⟨_,r,rfl⟩:=h;have:=ze t;simp only[List.length_append,List.length_cons];omega
theorem ziK{d:List UInt8}{t:ByteArray}(h:isRec d t):d[(szL t).length]? = some 32:=by
 obtain⟨_,r,rfl⟩:=h;simp
theorem dgL_at{d:List UInt8}{t:ByteArray}(h:isRec d t){k:Nat}(hk:k<(dgL t).length):d[(szL t).length+1+k]? = some (dgL t)[k]:=by
 obtain⟨_,r,rfl⟩:=h;rw[List.getElem?_append_right (by omega),show (szL t).length+1+k-(szL t).length=k+1 by omega,List.getElem?_cons_succ,List.getElem?_append_left hk,List.getElem?_eq_getElem hk]
theorem lf_at{d:List UInt8}{t:ByteArray}(h:isRec d t):d[(szL t).length+1+(dgL t).length]? = some 10:=by
 obtain⟨_,r,rfl⟩:=h;rw[List.getElem?_append_right (by omega),show (szL t).length+1+(dgL t).length-(szL t).length=(dgL t).length+1 by omega,List.getElem?_cons_succ,List.getElem?_append_right (Nat.le_refl _)];simp
theorem zqM{d:List UInt8}{t:ByteArray}(h:isRec d t):(d.drop ((szL t).length+1+(dgL t).length+1)).take t.size=t.data.toList:=by
 obtain⟨_,r,rfl⟩:=h;have e:szL t++32::(dgL t++10::(t.data.toList++10::r))=(szL t++32::(dgL t++[10]))++(t.data.toList++10::r):=by simp
 have hl:(szL t).length+1+(dgL t).length+1=(szL t++32::(dgL t++[10])).length:=by simp;omega
 rw[e,hl,List.drop_left,← ze t,List.take_left]
theorem zqu{d:List UInt8}{t:ByteArray}(h:isRec d t):d.take ((szL t).length+1+(dgL t).length+1+t.size+1)=(recT t).data.toList:=by
 obtain⟨r,rfl⟩:=(isRec_iff.1 h).2;have hl:(szL t).length+1+(dgL t).length+1+t.size+1=(recT t).data.toList.length:=by
  rw[ze5,← ze t];simp;omega
 rw[hl,List.take_left]
theorem zeO(t:ByteArray):(recT t).size=(szL t).length+1+(dgL t).length+1+t.size+1:=by
 rw[← ze,ze5,← ze t];simp;omega
def S0(d:List UInt8):Prop:=∀ t,¬ isRec d t
def S1(d:List UInt8)(k n:Nat):Prop:=∀ t,isRec d t→k≤(szL t).length∧n=valD 0 ((szL t).take k)
def S2(d:List UInt8)(k n:Nat):Prop:=∀ t,isRec d t→n=t.size∧(szL t).length+1≤k∧k≤(szL t).length+1+(dgL t).length
def S3(d:List UInt8)(k n:Nat):Prop:=∀ t,isRec d t→n=t.size∧k=(szL t).length+1+(dgL t).length+1
theorem s1_start(d:List UInt8):S1 d 0 0:=fun _ _=>⟨Nat.zero_le _,rfl⟩
theorem s1_digit{d:List UInt8}{k n:Nat}(h:S1 d k n)(hk:k<d.length)(hd:isDig d[k]):S1 d (k+1) (10*n+(d[k].toNat-48)):=by
 intro t ht;obtain⟨h1,h2⟩:=h t ht;have hlt:k<(szL t).length:=by
  rcases Nat.lt_or_ge k (szL t).length with h | h
  ·exact h
  ·obtain rfl:k=(szL t).length:=by omega
   have e:=ziK ht;rw[List.getElem?_eq_getElem hk] at e;rw[Option.some.inj e] at hd;exact absurd hd zbB
 obtain⟨_,e⟩:=zm7 ht hlt;refine⟨hlt,?_⟩;rw[List.take_succ_eq_append_getElem hlt,zcZ,← h2,e];show _=n*10+_;rw[Nat.mul_comm]
theorem s1_blank{d:List UInt8}{k n:Nat}(h:S1 d k n)(hk:k<d.length)(hd:d[k]=32):S2 d (k+1) n:=by
 intro t ht;obtain⟨h1,h2⟩:=h t ht;have hlt:k=(szL t).length:=by
  rcases Nat.lt_or_ge k (szL t).length with h | h
  ·obtain⟨_,e⟩:=zm7 ht h;have:=zfE t _ (List.getElem_mem h);rw[← e,hd] at this;exact absurd this zbB
  ·omega
 subst hlt;rw[List.take_of_length_le (Nat.le_refl _),zjk] at h2;exact⟨h2,by omega,by omega⟩
theorem s1_end{d:List UInt8}{k n:Nat}(h:S1 d k n)(hk:d.length≤k):S0 d:=by
 intro t ht;have:=(h t ht).1;have:=zdu ht;omega
theorem s1_other{d:List UInt8}{k n:Nat}(h:S1 d k n)(hk:k<d.length)(h1:¬ isDig d[k])(h2:d[k]≠32):S0 d:=by
 intro t ht;have:=(h t ht).1;rcases Nat.lt_or_ge k (szL t).length with h3 | h3
 ·obtain⟨_,e⟩:=zm7 ht h3;rw[e] at h1;exact h1 (zfE t _ (List.getElem_mem h3))
 ·obtain rfl:k=(szL t).length:=by omega
  have e:=ziK ht;rw[List.getElem?_eq_getElem hk] at e;exact h2 (Option.some.inj e)
theorem s1_big{d:List UInt8}{k n:Nat}(h:S1 d k n)(hn:3000<n):S0 d:=by
 intro t ht;have h2:=(h t ht).2;have h3:=zpq (szL t) k;rw[zjk] at h3;have:=ht.1;omega
theorem s2_digit{d:List UInt8}{k n:Nat}(h:S2 d k n)(hk:k<d.length)(hd:isDig d[k]):S2 d (k+1) n:=by
 intro t ht;obtain⟨h1,h2,h3⟩:=h t ht;refine⟨h1,by omega,?_⟩;rcases Nat.lt_or_ge k ((szL t).length+1+(dgL t).length) with h | h
 ·omega
 ·obtain rfl:k=(szL t).length+1+(dgL t).length:=by omega
  have e:=lf_at ht;rw[List.getElem?_eq_getElem hk] at e;rw[Option.some.inj e] at hd;exact absurd hd zby
theorem s2_in{d:List UInt8}{t:ByteArray}{k:Nat}(ht:isRec d t)(hk:k<d.length)(h2:(szL t).length+1≤k)(h3:k<(szL t).length+1+(dgL t).length):isDig d[k]:=by
 have e:=dgL_at ht (k:=k-((szL t).length+1)) (by omega);rw[show (szL t).length+1+(k-((szL t).length+1))=k by omega,List.getElem?_eq_getElem hk] at e;rw[Option.some.inj e];exact ziI t _ (List.getElem_mem _)
theorem s2_lf{d:List UInt8}{k n:Nat}(h:S2 d k n)(hk:k<d.length)(hd:d[k]=10):S3 d (k+1) n:=by
 intro t ht;obtain⟨h1,h2,h3⟩:=h t ht;refine⟨h1,?_⟩;rcases Nat.lt_or_ge k ((szL t).length+1+(dgL t).length) with h | h
 ·have:=s2_in ht hk h2 h;rw[hd] at this;exact absurd this zby
 ·omega
theorem s2_end{d:List UInt8}{k n:Nat}(h:S2 d k n)(hk:d.length≤k):S0 d:=by
 intro t ht;have:=(h t ht).2.2;have:=zdu ht;omega
theorem s2_other{d:List UInt8}{k n:Nat}(h:S2 d k n)(hk:k<d.length)(hd:¬ isDig d[k])(hl:d[k]≠10):S0 d:=by
 intro t ht;obtain⟨h1,h2,h3⟩:=h t ht;rcases Nat.lt_or_ge k ((szL t).length+1+(dgL t).length) with h | h
 ·exact hd (s2_in ht hk h2 h)
 ·obtain rfl:k=(szL t).length+1+(dgL t).length:=by omega
  have e:=lf_at ht;rw[List.getElem?_eq_getElem hk] at e;exact hl (Option.some.inj e)
theorem s3_short{d:List UInt8}{k n:Nat}(h:S3 d k n)(hk:d.length≤k+n):S0 d:=by
 intro t ht;obtain⟨rfl,rfl⟩:=h t ht;have:=zdu ht;omega
theorem s3_no{d:List UInt8}{k n:Nat}(h:S3 d k n){x:ByteArray}(hx:x.data.toList=(d.drop k).take n)(hne:d.take (k+n+1)≠(recT x).data.toList):S0 d:=by
 intro t ht;obtain⟨rfl,rfl⟩:=h t ht;rw[zqM ht] at hx;obtain rfl:=zfV hx;exact hne (zqu ht)
theorem s3_yes{d:List UInt8}{x:ByteArray}{m:Nat}(hx:x.size≤3000)(he:d.take m=(recT x).data.toList):isRec d x :=
 isRec_iff.2 ⟨hx,by rw[← he];exact List.take_prefix _ _⟩
def RecP(d:List UInt8)(e:Ending):Prop :=
 (∃ t,isRec d t∧e=.returned (.tuple #[.string t,.int .i64 ((recT t).size:Int)]))∨(S0 d∧e=.returned (.tuple #[.string ⟨#[]⟩,.int .i64 0]))
theorem zdy{t:ByteArray}(h:t.size≤3000):4≤(recT t).size∧(recT t).size≤4000:=by
 have hsa:=zbD (t.size:Int) (by omega) (by omega);have hD:dig 1 t.data.toList<2147483647:=zlQ 1 _ (by decide);have hsb:=zbD (dig 1 t.data.toList:Int) (by omega) (by omega);rw[← ze,zeA] at hsa hsb;rw[zeO];unfold szL dgL;have h1:1≤(Lib.decDigits t.size).length:=by rw[zaM];simp
 have h2:1≤(Lib.decDigits (dig 1 t.data.toList)).length:=by rw[zaM];simp
 omega
def RecsP(d:List UInt8)(ts:List ByteArray)(n:Nat):Prop :=
 (∀ t∈ts,t.size≤3000)∧n≤d.length∧d.take n=(ts.map fun t=>(recT t).data.toList).flatten∧S0 (d.drop n)
def lenR(ts:List ByteArray):Nat:=(ts.map fun t=>(recT t).data.toList).flatten.length
theorem zmJ{d:List UInt8}(h:S0 d):RecsP d [] 0:=⟨(fun t h=>by cases h),Nat.zero_le _,rfl,h⟩
theorem zqt{d:List UInt8}{t:ByteArray}{ts:List ByteArray}{n:Nat}(h:isRec d t)(hr:RecsP (d.drop (recT t).size) ts n):RecsP d (t::ts) ((recT t).size+n):=by
 obtain⟨h1,h2,h3,h4⟩:=hr;obtain⟨r,hd⟩:=(isRec_iff.1 h).2;have hl:=ze (recT t);subst hd;rw[← hl,List.drop_left] at h2 h3 h4;refine⟨fun s hs=>?_,?_,?_,?_⟩
 ·rcases List.mem_cons.1 hs with rfl | hs
  ·exact h.1
  ·exact h1 s hs
 ·rw[List.length_append];omega
 ·rw[← hl,List.take_append,List.take_of_length_le (by omega),show (recT t).data.toList.length+n-(recT t).data.toList.length=n by omega,h3];rfl
 ·rw[← hl,← List.drop_drop,List.drop_left];exact h4
theorem zoV:∀ (m:Nat) (d:List UInt8),d.length≤m→∃ ts n,RecsP d ts n
 | 0,d,h=>⟨[],0,zmJ fun t ht=>by have:=zdu ht;omega⟩
 | m+1,d,h=>by
  by_cases hr:∃ t,isRec d t
  ·obtain⟨t,ht⟩:=hr;have hs:=zdy ht.1;obtain⟨ts,n,hp⟩:=zoV m (d.drop (recT t).size) (by rw[List.length_drop];omega);exact⟨_,_,zqt ht hp⟩
  ·exact⟨[],0,zmJ fun t ht=>hr ⟨t,ht⟩⟩
theorem zpc:∀ ts:List ByteArray,ts.length≤lenR ts
 | []=>Nat.zero_le _
 | t::ts=>by
  have ih:=zpc ts;have h1:=zeO t;unfold lenR at ih ⊢;rw[List.map_cons,List.flatten_cons,List.length_append,ze,List.length_cons];omega
theorem zmZ{d:List UInt8}{ts:List ByteArray}{n:Nat}(h:RecsP d ts n):ts.length≤n:=by
 have h1:=zpc ts;unfold lenR at h1;rw[← h.2.2.1,List.length_take] at h1;omega
theorem zo1{d:List UInt8}{ts:List ByteArray}{n:Nat}(h:RecsP d ts n) :
 (∃ t r m,ts=t::r∧n=(recT t).size+m∧isRec d t∧RecsP (d.drop (recT t).size) r m)∨(ts=[]∧n=0∧S0 d):=by
 obtain⟨h1,h2,h3,h4⟩:=h;have hl:n=lenR ts:=by
  unfold lenR;rw[← h3,List.length_take];omega
 cases ts with
 | nil=>
  obtain rfl:n=0:=hl;exact .inr ⟨rfl,rfl,h4⟩
 | cons t r =>
  refine .inl ⟨t,r,lenR r,rfl,?_,?_,?_,?_,?_,?_⟩
  ·rw[hl];unfold lenR;rw[List.map_cons,List.flatten_cons,List.length_append,ze]
  ·refine isRec_iff.2 ⟨h1 t List.mem_cons_self,?_⟩;rw[List.map_cons,List.flatten_cons] at h3;have:=List.take_prefix n d;rw[h3] at this;exact(List.prefix_append _ _).trans this
  ·exact fun s hs=>h1 s (List.mem_cons_of_mem _ hs)
  ·rw[List.length_drop];rw[hl] at h2;unfold lenR at h2 ⊢;rw[List.map_cons,List.flatten_cons,List.length_append,ze] at h2;omega
  ·rw[hl] at h3;unfold lenR at h3 ⊢;rw[List.map_cons,List.flatten_cons,List.length_append,ze] at h3;rw[List.take_drop,h3];exact List.drop_left' (ze _)
  ·rw[List.drop_drop];rw[hl] at h4;unfold lenR at h4 ⊢;rw[List.map_cons,List.flatten_cons,List.length_append,ze] at h4;exact h4
open Go.RowKit
theorem itoa_any(n:Int)(w:World)(h0 : -9223372036854775808≤n)(h1:n≤9223372036854775807)(ht:Tab w) :
 Calls Tryz.prog 168 #[.int .i64 n] w fun e w'=>e=.returned (.string (itoaS n))∧Below w.heap.size w w':=by
 refine(Tryz.strconv_Itoa n h0 h1 w ht).mono ?_;rintro e w' ⟨rfl,k,os,rfl⟩;exact⟨rfl,Lib.below_grow _ w (Nat.le_refl _) k os⟩
theorem zqf(s:ByteArray)(w:World)(hs:s.size≤281474976710656) :
 Calls Tryz.prog 159 #[.string s] w fun e w'=>e=.returned (.string s)∧Below w.heap.size w w':=by
 go_enter Tryz.func159,Tryz.ntmps159
 go_wp2_with fail
 refine(Tryz.stringslite_Clone s _ hs).mono ?_;rintro e w1 ⟨rfl,b1⟩;go_wp2;go_ret;exact⟨rfl,b1⟩
theorem zbi(b:UInt8)(w:World) :
 Calls Tryz.prog 158 #[.int .u8 (b.toNat:Int)] w fun e w'=>e=.returned (.bool (decide (48≤b.toNat)&&decide (b.toNat≤57)))∧w'=w:=by
 by_cases h1:48≤b.toNat
 ·have c1:(48:Int)≤(b.toNat:Int):=by omega
  by_cases h2:b.toNat≤57
  ·have c2:(b.toNat:Int)≤57:=by omega
   go_enter Tryz.func158,Tryz.ntmps158
   go_wp2;go_ret;exact⟨by simp[h1,h2],rfl⟩
  ·have c2:¬ (b.toNat:Int)≤57:=by omega
   go_enter Tryz.func158,Tryz.ntmps158
   go_wp2;go_ret;exact⟨rfl,rfl⟩
 ·have c1:¬ (48:Int)≤(b.toNat:Int):=by omega
  go_enter Tryz.func158,Tryz.ntmps158
  go_wp2;go_ret;exact⟨rfl,rfl⟩
theorem zdv{t:ByteArray}(h:t.size≤3000):recS t=recT t:=by unfold recS;rw[if_pos h]
theorem ziJ{t:ByteArray}(h:3000<t.size):recS t=⟨#[]⟩:=by unfold recS;rw[if_neg (by omega)]
theorem zch(t:ByteArray)(w:World)(ht:t.size≤1099511627776) :
 Calls Tryz.prog 68 #[.string t] w fun e w'=>e=.returned (.string (recS t))∧Below w.heap.size w w':=by
 by_cases h:3000<t.size
 ·rw[ziJ h];go_enter Tryz.func68,Tryz.ntmps68
  go_wp2;go_ret;exact⟨rfl,Below.refl _ _⟩
 ·rw[zdv (by omega)];have HT:Hid (recT t=itoaS (t.size:Int)++blankB++itoaS (dig 1 t.data.toList:Int)++lfB++t++lfB):=rfl;have HD:Hid (dig 1 t.data.toList<2147483647):=zlQ 1 _ (by decide);have hsa:=zbD (t.size:Int) (by omega) (by omega);go_enter Tryz.func68,Tryz.ntmps68
  go_wp2_with fail
  refine(zgT (t.size:Int) _ (by omega) (by omega)).mono ?_;rintro e w1 ⟨rfl,b1⟩;go_wp2_with fail
  refine(zci t _ ht).mono ?_;obtain⟨D,hD⟩:∃ D,D=dig 1 t.data.toList:=⟨_,rfl⟩;rw[← hD];have HE:Hid (D=dig 1 t.data.toList):=hD;have hlt:D<2147483647:=by rw[hD];exact HD.out
  clear hD;rintro e w2 ⟨rfl,hw2⟩;obtain rfl:=hw2.symm;go_wp2_with fail
  refine(zgT (D:Int) _ (by omega) (by omega)).mono ?_;rintro e w3 ⟨rfl,b3⟩;have hsb:=zbD (D:Int) (by omega) (by omega);have bb:=b1.trans (b3.mono b1.size);clear b1 b3;go_wp2;go_ret;exact⟨by rw[HT.out,HE.out];rfl,bb⟩
theorem zcf(t:ByteArray)(w:World)(ht:t.size≤1099511627776)(hT:Tab w) :
 Calls Tryz.prog 129 #[.string t] w fun e w'=>e=.returned (.string (recS t))∧Below w.heap.size w w':=by
 by_cases h:3000<t.size
 ·rw[ziJ h];clear hT;go_enter Tryz.func129,Tryz.ntmps129
  go_wp2;go_ret;exact⟨rfl,Below.refl _ _⟩
 ·rw[zdv (by omega)];have HT:Hid (recT t=itoaS (t.size:Int)++blankB++itoaS (dig 1 t.data.toList:Int)++lfB++t++lfB):=rfl;have HD:Hid (dig 1 t.data.toList<2147483647):=zlQ 1 _ (by decide);have hsa:=zbD (t.size:Int) (by omega) (by omega);go_enter Tryz.func129,Tryz.ntmps129
  go_wp2_with fail
  refine(itoa_any (t.size:Int) _ (by omega) (by omega) hT).mono ?_;rintro e w1 ⟨rfl,b1⟩;have hT1:=hT.on b1;go_wp2_with fail
  refine(zhP t _ ht).mono ?_;obtain⟨D,hD⟩:∃ D,D=dig 1 t.data.toList:=⟨_,rfl⟩;rw[← hD];have HE:Hid (D=dig 1 t.data.toList):=hD;have hlt:D<2147483647:=by rw[hD];exact HD.out
  clear hD;rintro e w2 ⟨rfl,b2⟩;have hT2:=hT1.on b2;go_wp2_with fail
  refine(fmt_any (D:Int) _ (by omega) (by omega) hT2).mono ?_;rintro e w3 ⟨rfl,b3⟩;have hsb:=zbD (D:Int) (by omega) (by omega);have b12:=b1.trans (b2.mono b1.size);have bb:=b12.trans (b3.mono b12.size);clear b1 b2 b3 b12 hT hT1 hT2;go_wp2;go_ret;exact⟨by rw[HT.out,HE.out];rfl,bb⟩
theorem zlt(w:World) :
 Calls Tryz.prog 146 #[.string ⟨#[48]⟩] w fun e w'=>e=.returned (.tuple #[.int .i64 0,.bool true])∧w'=w:=by
 obtain⟨s,hs⟩:∃ s:ByteArray,s=⟨#[48]⟩:=⟨_,rfl⟩;have hz:s.size=1:=by rw[hs];rfl
 have h0:∀ h:0<s.size,s[0].toNat=48:=by subst hs;intro _;rfl
 rw[← hs];clear hs;have hp:0<s.size:=by omega
 have hc:=h0 hp;have hne:=zgO hp;have hq:((s[0].toNat:Int)==45)=false:=by simp only[beq_eq_false_iff_ne];omega
 have hz2:((s[0].toNat:Int)==48)=true:=by simp only[beq_iff_eq];omega
 have c1:¬ ((s.size:Int)-0<1):=by omega
 have c2:¬ (10<(s.size:Int)-0):=by omega
 have c3:¬ (1<(s.size:Int)):=by omega
 have HC:Hid (s[0].toNat=48):=hc;have HZ:Hid (s.size=1):=hz;clear h0 hc hz;go_enter Tryz.func146,Tryz.ntmps146
 go_wp2;clear c1 c2 hq;go_loop [6,7] (fun nn kk=>∃ k:Nat,k≤s.size∧kk=.int .i64 k∧nn=.int .i64 0) (fun _ kk=>s.size-(intOf kk).toNat)
 case atStart=>exact⟨0,Nat.zero_le _,rfl,rfl⟩
 case round =>
  obtain⟨k,hk2,rfl,rfl⟩:=hrel;by_cases hlt:k<s.size
  ·have hk0:k=0:=by have:=HZ.out;omega
   subst hk0;have d1:¬ (s[0].toNat:Int)<48:=by have:=HC.out;omega
   have d2:¬ 57<(s[0].toNat:Int):=by have:=HC.out;omega
   have d3:(s[0].toNat:Int)-48=0:=by have:=HC.out;omega
   go_wp2;go_round
   case rel=>exact⟨0+1,by omega,by go_num,by go_num⟩
   case measure=>simp[intOf];omega
  ·go_wp2;go_ret2
   exact⟨rfl,rfl⟩
open Go.RowKit
theorem zoZ{w:World}{a:Option Addr}{n cap:Nat}{ss:List ByteArray}(h:RdS w (.slice a n cap) ss)(i:Nat)(hi:i<ss.length):n=ss.length∧n≤cap∧∃ b off,a=some ⟨b,off,none⟩∧w.cell? ⟨b,off+i,none⟩=some (.string ss[i]):=by
 obtain⟨a',c',e,h1,h2,h3⟩:=h;injection e with e1 e2 e3
 subst e1;subst e2;subst e3;rcases h3 with rfl | ⟨b,off,rfl,hc⟩
 ·simp at hi
 ·exact⟨rfl,h1,b,off,rfl,hc i hi⟩
theorem end_at{d:List UInt8}{t:ByteArray}(h:isRec d t){k:Nat}(hn:∀ j,j<k→d[j]?≠some 10)(hk:k<d.length→d[k]? = some 10)(hl:k≤d.length):k=(szL t).length+1+(dgL t).length:=by
 have hL:=zdu h;have h1:=lf_at h;rcases Nat.lt_trichotomy k ((szL t).length+1+(dgL t).length) with hlt | he | hgt
 ·have hk':=hk (by omega);rcases Nat.lt_trichotomy k (szL t).length with h2 | h2 | h2
  ·obtain⟨_,e⟩:=zm7 h h2;rw[List.getElem?_eq_getElem (by omega)] at hk';have hd:=zfE t _ (List.getElem_mem h2);rw[← e,Option.some.inj hk'] at hd;exact absurd hd zby
  ·subst h2;rw[ziK h] at hk';cases hk'
  ·have hd:=s2_in h (by omega) (show (szL t).length+1≤k by omega) hlt;rw[List.getElem?_eq_getElem (by omega)] at hk';rw[Option.some.inj hk'] at hd;exact absurd hd zby
 ·exact he
 ·exact absurd h1 (hn _ hgt)
theorem zoh{d:List UInt8}{t:ByteArray}(h:isRec d t):zau (d.take ((szL t).length+1+(dgL t).length))=[szL t,dgL t]:=by
 obtain⟨_,r,rfl⟩:=h;have e:szL t++32::(dgL t++10::(t.data.toList++10::r))=(szL t++32::dgL t)++(10::(t.data.toList++10::r)):=by simp
 have hl:(szL t).length+1+(dgL t).length=(szL t++32::dgL t).length:=by simp;omega
 rw[e,hl,List.take_left,zeC _ _ (zij (zfE _) zbB),zhJ _ (zij (ziI _) zbB)]
theorem zim:∀ (l a:List UInt8),a∈zau l→a.length≤l.length
 | [],a,h=>by
  have:a=[]:=by simpa [zau] using h
  subst this;simp
 | b::l,a,h=>by
  have ih:=zim l;by_cases hb:b=32
  ·subst hb;have e:=zeC [] l (by simp);rw[List.nil_append] at e;rw[e] at h;rcases List.mem_cons.1 h with rfl | h
   ·simp
   ·have:=ih a h;simp;omega
  ·rw[zau,if_neg hb] at h;split at h
   ·rename_i x y e;rcases List.mem_cons.1 h with rfl | h
    ·have:=ih x (by rw[e];exact List.mem_cons_self);simp;omega
    ·have:=ih a (by rw[e];exact List.mem_cons_of_mem _ h);simp;omega
   ·have:a=[b]:=by simpa using h
    subst this;simp
theorem zp4(n:Nat)(w:World)(hn:n≤3000) :
 Calls Tryz.prog 146 #[.string (itoaS (n:Int))] w fun e w'=>e=.returned (.tuple #[.int .i64 (n:Int),.bool true])∧w'=w:=by
 by_cases h:n=0
 ·subst h;have e:itoaS ((0:Nat):Int)=⟨#[48]⟩:=zfV (by rw[zeA,zaM];rfl);rw[e];exact zlt w
 ·exact znZ (n:Int) w (by omega) (by omega)
theorem ziN(d:ByteArray)(w:World)(hd:d.size≤1048576) :
 Calls Tryz.prog 103 #[.string d] w fun e w'=>RecP d.data.toList e∧Below w.heap.size w w':=by
 have hl:=ze d;go_enter Tryz.func103,Tryz.ntmps103
 go_wp2;go_loop [4] (fun kk=>∃ k:Nat,k≤d.size∧kk=.int .i64 k∧Hid (∀ j,j<k→d.data.toList[j]?≠some 10)) (fun kk=>d.size-(intOf kk).toNat)
 case atStart=>exact⟨0,Nat.zero_le _,rfl,fun j h=>by omega⟩
 case round =>
  obtain⟨k,hk,rfl,HK⟩:=hrel;by_cases hgo:∃ h:k<d.size,d[k]≠10
  ·obtain⟨hlt,hne⟩:=hgo;have HN:Hid (∀ j,j<k+1→d.data.toList[j]?≠some 10):=fun j hj=>by
    rcases Nat.lt_or_ge j k with h | h
    ·exact HK.out j h
    ·obtain rfl:j=k:=by omega
     rw[List.getElem?_eq_getElem (by omega)];intro e;exact hne (Option.some.inj e)
   have hq:((d[k].toNat:Int) != 10)=true:=by
    simp only[bne_iff_ne,ne_eq];intro e;exact hne (UInt8.toNat_inj.1 (by show d[k].toNat=10;omega))
   clear hne HK;go_wp2;go_round
   case rel=>exact⟨k+1,by omega,by go_num,HN⟩
   case measure=>simp[intOf];omega
  ·have HE:Hid (k<d.data.toList.length→d.data.toList[k]? = some 10):=fun h=>by
    rw[List.getElem?_eq_getElem h];have:¬ d[k]'(by omega)≠10:=fun h2=>hgo ⟨by omega,h2⟩
    exact congrArg some (Decidable.not_not.1 this)
   obtain⟨x,hx⟩:∃ x,x=d.extract 0 k:=⟨_,rfl⟩;have hxb:zaL x=d.data.toList.take k:=by rw[hx,zQ];simp
   have hxs:x.size≤1048576:=by rw[hx,ByteArray.size_extract];omega
   have HX:Hid (x=d.extract 0 k):=hx;have HXB:Hid (x.data.toList=d.data.toList.take k):=hxb;clear hx hxb;have c0:(0:Int)≤(k:Int):=by omega
   have c1:(k:Int)≤(d.size:Int):=by omega
   have HW:Hid (∀ W,Calls Tryz.prog 145 #[.string x] W fun e w'=>WordsP W x e w'):=fun W=>zpg x W hxs
   have HN0:Hid (∀ ys:List ByteArray,ys.map zaL=zau x.data.toList→∃ y r,ys=y::r∧y.size≤1048576):=fun ys hy=>by
    cases ys with
    | nil=>exact absurd hy.symm (words_ne _)
    | cons y r =>
     refine⟨y,r,rfl,?_⟩;have h2:=zim x.data.toList y.data.toList (by rw[← hy];exact List.mem_cons_self);rw[ze,ze] at h2;omega
   by_cases hlt:k<d.size
   ·have hq:((d[k].toNat:Int) != 10)=false:=by
     have:¬ d[k]≠10:=fun h2=>hgo ⟨hlt,h2⟩
     have e:d[k]=10:=Decidable.not_not.1 this;rw[e];rfl
    have hq2:((k:Int)==(d.size:Int))=false:=by simp;omega
    clear hgo;by_cases hrec:∃ t,isRec d.data.toList t
    ·obtain⟨t,ht⟩:=hrec;have hk2:=end_at ht HK.out HE.out (by omega);have h3:=zdu ht;have h4:=ht.1;have HY:Hid (∀ ys:List ByteArray,ys.map zaL=zau x.data.toList→∃ y r,ys=y::r∧y=itoaS (t.size:Int)):=fun ys hy=>by
      rw[HXB.out,hk2,zoh ht] at hy;cases ys with
      | nil=>cases hy
      | cons y r =>
       refine⟨y,r,rfl,zfV ?_⟩;rw[zeA];exact(List.cons.inj hy).1
     have HTX:Hid (d.extract (k+1) (k+1+t.size)=t):=zfV (by
      show zaL _=_;rw[zQ,show k+1+t.size-(k+1)=t.size by omega,hk2];exact zqM ht)
     have HTK:Hid (d.extract 0 (recT t).size=recT t):=zfV (by
      show zaL _=_;rw[zQ,zeO];exact zqu ht)
     have HEND:Hid (RecP d.data.toList (.returned (.tuple #[.string t,.int .i64 ((recT t).size:Int)]))):=.inl ⟨t,ht,rfl⟩;have hrs:=zeO t;have HNM:Hid (∀ W,Calls Tryz.prog 146 #[.string (itoaS (t.size:Int))] W fun e w'=>e=.returned (.tuple #[.int .i64 (t.size:Int),.bool true])∧w'=W):=fun W=>zp4 t.size W h4
     have HRS:Hid (recS t=recT t):=zdv h4;obtain⟨n,hn⟩:∃ n,n=t.size:=⟨_,rfl⟩;obtain⟨m,hm⟩:∃ m,m=(recT t).size:=⟨_,rfl⟩;have hm1:m≤d.size:=by omega
     have hn1:k+1+n≤d.size:=by omega
     have hn2:n≤3000:=by omega
     have HNN:Hid (n=t.size):=hn;have HMM:Hid (m=(recT t).size):=hm;rw[← hn] at HTX HNM;rw[← hm] at HTK HEND;have hin:(decide ((0:Int)≤(n:Int))&&decide ((n:Int)≤3000))=true:=by simp;omega
     obtain⟨p,hp0⟩:∃ p,p=k+1:=⟨_,rfl⟩;obtain⟨q,hq0⟩:∃ q,q=p+n:=⟨_,rfl⟩;have hp1:(k:Int)+1=(p:Int):=by omega
     have hp2:(p:Int)+(n:Int)=(q:Int):=by omega
     have hp3:(0:Int)≤(p:Int):=by omega
     have hp4:(p:Int)≤(q:Int):=by omega
     have hp5:(q:Int)≤(d.size:Int):=by omega
     have hp6:¬ (d.size:Int)-(p:Int)<(n:Int):=by omega
     rw[← hp0,← hq0] at HTX;rw[hm] at hm1 HTK;have hm2:¬ (d.size:Int)<((recT t).size:Int):=by omega
     have hm3:((recT t).size:Int)≤(d.size:Int):=by omega
     have hm4:(0:Int)≤((recT t).size:Int):=by omega
     have heq:(!(d.extract 0 (recT t).size).toList==(recT t).toList)=false:=by rw[HTK.out];simp
     clear hp0 hq0 hn1 hm1;clear hrs hk2 h3 h4 ht hn hm HE HK HXB HN0;go_wp2_with fail
     rw[← HX.out];refine(HW.out _).mono ?_;rintro e w2 ⟨v,ys,rfl,hys,hr2,b2⟩;obtain⟨y,r,rfl,rfl⟩:=HY.out _ hys;obtain⟨a,cap,rfl,g1,g2,-⟩:=id hr2;obtain⟨-,-,b,off,rfl,hc⟩:=zoZ hr2 0 (by simp);have c5:(0:Int)<((itoaS (t.size:Int)::r).length:Int):=by rw[List.length_cons];omega
     obtain⟨L,hL⟩:∃ L,L=(itoaS (t.size:Int)::r).length:=⟨_,rfl⟩;rw[← hL] at c5 g1 ⊢;have hc':w2.cell? ⟨b,off,none⟩=some (.string (itoaS (t.size:Int))):=by simpa using hc
     rw[← HNN.out] at hc';clear hys hr2 HY hc hL HW;go_wp2_with fail
     rw[HNN.out];rw[HNN.out] at HNM;refine(HNM.out _).mono ?_;rw[← HNN.out];rintro e w3 ⟨rfl,hw3⟩;obtain rfl:=hw3.symm;clear HNM hc';go_wp2_with fail
     refine(ziC (n:Int) 0 3000 _).mono ?_;rw[hin];rintro e w4 ⟨rfl,hw4⟩;obtain rfl:=hw4.symm;go_wp2_with fail
     rw[HTX.out];refine(zch t _ (by have:=HNN.out;omega)).mono ?_;rw[HRS.out];rintro e w5 ⟨rfl,b5⟩;have bb:=b2.trans (b5.mono b2.size);clear b2 b5;go_wp2;go_ret2
     exact⟨by rw[← HMM.out];exact HEND.out,bb⟩
    ·have HS0:Hid (S0 d.data.toList):=fun t ht=>hrec ⟨t,ht⟩
     have HEND:Hid (RecP d.data.toList (.returned (.tuple #[.string ⟨#[]⟩,.int .i64 0]))):=.inr ⟨HS0.out,rfl⟩;clear hrec HK HE HXB;go_wp2_with fail
     rw[← HX.out];refine(HW.out _).mono ?_;rintro e w2 ⟨v,ys,rfl,hys,hr2,b2⟩;obtain⟨y,r,rfl,hy⟩:=HN0.out _ hys;obtain⟨a,cap,rfl,g1,g2,-⟩:=id hr2;obtain⟨-,-,b,off,rfl,hc⟩:=zoZ hr2 0 (by simp);have c5:(0:Int)<((y::r).length:Int):=by rw[List.length_cons];omega
     obtain⟨L,hL⟩:∃ L,L=(y::r).length:=⟨_,rfl⟩;rw[← hL] at c5 g1 ⊢;have hc':w2.cell? ⟨b,off,none⟩=some (.string y):=by simpa using hc
     clear hys hr2 hc hL HW HN0;go_wp2_with fail
     refine(zgD y _ hy).mono ?_;rintro e w3 ⟨⟨z,is,rfl⟩,hw3⟩;obtain rfl:=hw3.symm;clear hc';cases is with
     | false =>
      go_wp2;go_ret2
      exact⟨HEND.out,b2⟩
     | true =>
      by_cases hin0:0≤z∧z≤3000
      ·obtain⟨hz0,hz1⟩:=hin0;obtain⟨n,rfl⟩:=Int.eq_ofNat_of_zero_le hz0;have hin:(decide ((0:Int)≤(n:Int))&&decide ((n:Int)≤3000))=true:=by simp;omega
       obtain⟨p,hp0⟩:∃ p,p=k+1:=⟨_,rfl⟩;have hp1:(k:Int)+1=(p:Int):=by omega
       have hpb:(p:Int)≤1048577:=by omega
       have hp3:(0:Int)≤(p:Int):=by omega
       clear hp0;by_cases hlong:(d.size:Int)-(p:Int)<(n:Int)
       ·go_wp2_with fail
        refine(ziC (n:Int) 0 3000 _).mono ?_;rw[hin];rintro e w4 ⟨rfl,hw4⟩;obtain rfl:=hw4.symm;go_wp2;go_ret2
        exact⟨HEND.out,b2⟩
       ·obtain⟨q,hq0⟩:∃ q,q=p+n:=⟨_,rfl⟩;have hp2:(p:Int)+(n:Int)=(q:Int):=by omega
        have hp4:(p:Int)≤(q:Int):=by omega
        have hp5:(q:Int)≤(d.size:Int):=by omega
        obtain⟨t,ht⟩:∃ t,t=d.extract p q:=⟨_,rfl⟩;have HTX:Hid (d.extract p q=t):=ht.symm;have hts:t.size≤3000:=by rw[ht,ByteArray.size_extract];omega
        have HRS:Hid (recS t=recT t):=zdv hts;have hrz:=zdy hts;clear hq0 ht;go_wp2_with fail
        refine(ziC (n:Int) 0 3000 _).mono ?_;rw[hin];rintro e w4 ⟨rfl,hw4⟩;obtain rfl:=hw4.symm;go_wp2_with fail
        rw[HTX.out];refine(zch t _ (by omega)).mono ?_;rw[HRS.out];rintro e w5 ⟨rfl,b5⟩;have bb:=b2.trans (b5.mono b2.size);clear b2 b5;by_cases hm0:(d.size:Int)<((recT t).size:Int)
        ·go_wp2;go_ret2
         exact⟨HEND.out,bb⟩
        ·have hm3:((recT t).size:Int)≤(d.size:Int):=by omega
         have hm4:(0:Int)≤((recT t).size:Int):=by omega
         have heq:(!(d.extract 0 (recT t).size).toList==(recT t).toList)=true:=by
          simp only[Bool.not_eq_true',beq_eq_false_iff_ne];rw[zft,zft];intro e;refine HS0.out t (s3_yes hts (m:=(recT t).size) ?_);rw[← e];exact(zQ d 0 (recT t).size).symm
         go_wp2;go_ret2
         exact⟨HEND.out,bb⟩
      ·have hin:(decide ((0:Int)≤z)&&decide (z≤3000))=false:=by simp;omega
       go_wp2_with fail
       refine(ziC z 0 3000 _).mono ?_;rw[hin];rintro e w4 ⟨rfl,hw4⟩;obtain rfl:=hw4.symm;go_wp2;go_ret2
       exact⟨HEND.out,b2⟩
   ·have hke:k=d.size:=by omega
    have HEND:Hid (RecP d.data.toList (.returned (.tuple #[.string ⟨#[]⟩,.int .i64 0]))):=.inr ⟨fun t ht=>by
     have:=end_at ht HK.out HE.out (by omega);have:=zdu ht;omega,rfl⟩
    have hq2:((k:Int)==(d.size:Int))=true:=by simp;omega
    clear hgo HK HE HXB hke;go_wp2_with fail
    rw[← HX.out];refine(HW.out _).mono ?_;rintro e w2 ⟨v,ys,rfl,hys,hr2,b2⟩;obtain⟨y,r,rfl,hy⟩:=HN0.out _ hys;obtain⟨a,cap,rfl,g1,g2,-⟩:=id hr2;obtain⟨-,-,b,off,rfl,hc⟩:=zoZ hr2 0 (by simp);have c5:(0:Int)<((y::r).length:Int):=by rw[List.length_cons];omega
    obtain⟨L,hL⟩:∃ L,L=(y::r).length:=⟨_,rfl⟩;rw[← hL] at c5 g1 ⊢;have hc':w2.cell? ⟨b,off,none⟩=some (.string y):=by simpa using hc
    clear hys hr2 hc hL HW HN0;go_wp2_with fail
    refine(zgD y _ hy).mono ?_;rintro e w3 ⟨⟨n,is,rfl⟩,hw3⟩;obtain rfl:=hw3.symm;clear hc';go_wp2;go_ret2
    exact⟨HEND.out,b2⟩
open Go.RowKit
theorem arr_all{A:Array Value}{n:Nat}(h:A.size=n):A=((List.range n).map fun i=>A.getD i undef).toArray:=by
 apply Array.ext
 ·simp[h]
 ·intro i h1 h2;simp[h1]
theorem fr_rec{a:Act}{x0 x4 x5:Value}(hs:a.tmps.size=76)(hd:a.defers=[])(h0:a.tmps.getD 0 undef=x0)(h4:a.tmps.getD 4 undef=x4)(h5:a.tmps.getD 5 undef=x5) :
 ∃ f:Nat→Value,a = { tmps:=#[x0,f 1,f 2,f 3,x4,x5,f 6,f 7,f 8,f 9,f 10,f 11,f 12,f 13,f 14,f 15,f 16,f 17,f 18,f 19,f 20,f 21,f 22,f 23,f 24,f 25,f 26,f 27,f 28,f 29,f 30,f 31,f 32,f 33,f 34,f 35,f 36,f 37,f 38,f 39,f 40,f 41,f 42,f 43,f 44,f 45,f 46,f 47,f 48,f 49,f 50,f 51,f 52,f 53,f 54,f 55,f 56,f 57,f 58,f 59,f 60,f 61,f 62,f 63,f 64,f 65,f 66,f 67,f 68,f 69,f 70,f 71,f 72,f 73,f 74,f 75],defers:=[] }:=by
 obtain⟨A,ds⟩:=a;refine⟨fun i=>A.getD i undef,?_⟩;have e:=arr_all hs;have e2:((List.range 76).map fun i=>A.getD i undef).toArray = #[A.getD 0 undef,A.getD 1 undef,A.getD 2 undef,A.getD 3 undef,A.getD 4 undef,A.getD 5 undef,A.getD 6 undef,A.getD 7 undef,A.getD 8 undef,A.getD 9 undef,A.getD 10 undef,A.getD 11 undef,A.getD 12 undef,A.getD 13 undef,A.getD 14 undef,A.getD 15 undef,A.getD 16 undef,A.getD 17 undef,A.getD 18 undef,A.getD 19 undef,A.getD 20 undef,A.getD 21 undef,A.getD 22 undef,A.getD 23 undef,A.getD 24 undef,A.getD 25 undef,A.getD 26 undef,A.getD 27 undef,A.getD 28 undef,A.getD 29 undef,A.getD 30 undef,A.getD 31 undef,A.getD 32 undef,A.getD 33 undef,A.getD 34 undef,A.getD 35 undef,A.getD 36 undef,A.getD 37 undef,A.getD 38 undef,A.getD 39 undef,A.getD 40 undef,A.getD 41 undef,A.getD 42 undef,A.getD 43 undef,A.getD 44 undef,A.getD 45 undef,A.getD 46 undef,A.getD 47 undef,A.getD 48 undef,A.getD 49 undef,A.getD 50 undef,A.getD 51 undef,A.getD 52 undef,A.getD 53 undef,A.getD 54 undef,A.getD 55 undef,A.getD 56 undef,A.getD 57 undef,A.getD 58 undef,A.getD 59 undef,A.getD 60 undef,A.getD 61 undef,A.getD 62 undef,A.getD 63 undef,A.getD 64 undef,A.getD 65 undef,A.getD 66 undef,A.getD 67 undef,A.getD 68 undef,A.getD 69 undef,A.getD 70 undef,A.getD 71 undef,A.getD 72 undef,A.getD 73 undef,A.getD 74 undef,A.getD 75 undef]:=rfl;subst hd;show Act.mk A []=_;rw[← h0,← h4,← h5];exact congrArg (fun T=>Act.mk T []) (e.trans e2)
def FS(l:Nat)(d:List UInt8)(k n:Nat):Prop:=(l=1∧S1 d k n)∨(l=2∧n≤3000∧S2 d k n)∨(l=3∧n≤3000∧S3 d k n)∨(l=0∧S0 d)
def FJ(d:ByteArray)(w0:World)(l:Nat)(a:Act)(w:World):Prop :=
 a.tmps.size=76∧a.defers=[]∧a.tmps.getD 0 undef=.string d∧Below w0.heap.size w0 w∧∃ n k:Nat,k≤d.size∧n≤40000∧a.tmps.getD 4 undef=.int .i64 n∧a.tmps.getD 5 undef=.int .i64 k∧Hid (FS l d.data.toList k n)
def fm(D:Nat)(l:Nat)(a:Act)(_:World):Nat :=
 if l=1 then 3*D+10-(intOf (a.tmps.getD 5 undef)).toNat else if l=2 then D+5-(intOf (a.tmps.getD 5 undef)).toNat else if l=3 then 1 else 0
theorem fj{d:ByteArray}{w0 w:World}{l:Nat}{a:Act}{n k:Nat}{M:Nat}(h1:a.tmps.size=76)(h2:a.defers=[])(h3:a.tmps.getD 0 undef=.string d)(h4:a.tmps.getD 4 undef=.int .i64 n)(h5:a.tmps.getD 5 undef=.int .i64 k)(hb:Below w0.heap.size w0 w)(hk:k≤d.size)(hn:n≤40000)(hf:FS l d.data.toList k n)
 (hm:(if l=1 then 3*d.size+10-k else if l=2 then d.size+5-k else if l=3 then 1 else 0)<M):FJ d w0 l a w∧fm d.size l a w<M:=by
 refine⟨⟨h1,h2,h3,hb,n,k,hk,hn,h4,h5,hf⟩,?_⟩;unfold fm;rw[h5];simpa [intOf] using hm
theorem zhe(d:ByteArray)(w:World)(hd:d.size≤1048576)(hT:Tab w) :
 Calls Tryz.prog 115 #[.string d] w fun e w'=>RecP d.data.toList e∧Below w.heap.size w w':=by
 have hl:=ze d;have HTB:Hid (∀ W,Below w.heap.size w W→Tab W):=fun W h=>hT.on h
 clear hT;go_enter Tryz.func115,Tryz.ntmps115
 go_wp2;refine zjX (FJ d w) (fm d.size) ?pass ?first
 case pass =>
  rintro l a wr ⟨hs,hdf,h0,hb,n,k,hk,hn,h4,h5,HS⟩;have HM:Hid (fm d.size l a wr=if l=1 then 3*d.size+10-k else if l=2 then d.size+5-k else if l=3 then 1 else 0):=by unfold Hid fm;rw[h5];simp[intOf]
  generalize fm d.size l a wr=M at HM;obtain⟨f,rfl⟩:=fr_rec hs hdf h0 h4 h5;clear hs hdf h0 h4 h5;rcases HS.out with ⟨rfl,h1⟩ | ⟨rfl,hn3,h2⟩ | ⟨rfl,hn3,h3⟩ | ⟨rfl,h0⟩
  ·-- the size
   have HS1:Hid (S1 d.data.toList k n):=h1;have HMM:Hid (M=3*d.size+10-k):=HM.out;clear h1 HS HM;refine⟨_,rfl,?_⟩;by_cases hke:k=d.size
   ·have hq:((k:Int)==(d.size:Int))=true:=by simp;omega
    have HZ:Hid (S0 d.data.toList):=s1_end HS1.out (by omega);clear hke;go_wp2;go_step3
    exact fj rfl rfl rfl rfl rfl hb hk hn (.inr (.inr (.inr ⟨rfl,HZ.out⟩))) (by rw[HMM.out];simp;omega)
   have hq:((k:Int)==(d.size:Int))=false:=by simp;omega
   have hlt:k<d.size:=by omega
   by_cases hbig:3000<n
   ·have HZ:Hid (S0 d.data.toList):=s1_big HS1.out hbig;go_wp2;go_step3
    exact fj rfl rfl rfl rfl rfl hb hk hn (.inr (.inr (.inr ⟨rfl,HZ.out⟩))) (by rw[HMM.out];simp;omega)
   have hkl:k<d.data.toList.length:=by omega
   by_cases hdig:isDig d[k]
   ·have HN:Hid (S1 d.data.toList (k+1) (10*n+(d[k].toNat-48))):=s1_digit HS1.out hkl hdig;obtain⟨g1,g2⟩:=hdig;have hdd:(decide (48≤d[k].toNat)&&decide (d[k].toNat≤57))=true:=by simp[g1,g2]
    clear hke HS1;go_wp2_with fail
    refine(zbi d[k] _).mono ?_;rw[hdd];rintro e w1 ⟨rfl,hw1⟩;obtain rfl:=hw1.symm;go_wp2;go_step3
    exact fj (n:=10*n+(d[k].toNat-48)) (k:=k+1) rfl rfl rfl (congrArg (Value.int .i64) (by omega)) (congrArg (Value.int .i64) (by omega)) hb (by omega) (by omega) (.inl ⟨rfl,HN.out⟩) (by rw[HMM.out];simp;omega)
   have hdd:(decide (48≤d[k].toNat)&&decide (d[k].toNat≤57))=false:=by
    cases e:(decide (48≤d[k].toNat)&&decide (d[k].toNat≤57)) with
    | false=>rfl
    | true=>simp at e;exact absurd e hdig
   by_cases hbl:d[k]=32
   ·have HN:Hid (S2 d.data.toList (k+1) n):=s1_blank HS1.out hkl hbl;have hq2:((d[k].toNat:Int)==32)=true:=by rw[hbl];rfl
    clear hke HS1 hdig hbl;go_wp2_with fail
    refine(zbi d[k] _).mono ?_;rw[hdd];rintro e w1 ⟨rfl,hw1⟩;obtain rfl:=hw1.symm;go_wp2;go_step3
    exact fj (n:=n) (k:=k+1) rfl rfl rfl rfl (congrArg (Value.int .i64) (by omega)) hb (by omega) (by omega) (.inr (.inl ⟨rfl,by omega,HN.out⟩)) (by rw[HMM.out];simp;omega)
   ·have HZ:Hid (S0 d.data.toList):=s1_other HS1.out hkl hdig hbl;have hq2:((d[k].toNat:Int)==32)=false:=by
     simp only[beq_eq_false_iff_ne];intro e;exact hbl (UInt8.toNat_inj.1 (by show d[k].toNat=32;omega))
    clear hke HS1 hdig hbl;go_wp2_with fail
    refine(zbi d[k] _).mono ?_;rw[hdd];rintro e w1 ⟨rfl,hw1⟩;obtain rfl:=hw1.symm;go_wp2;go_step3
    exact fj rfl rfl rfl rfl rfl hb hk hn (.inr (.inr (.inr ⟨rfl,HZ.out⟩))) (by rw[HMM.out];simp;omega)
  ·-- the digest
   have HS2:Hid (S2 d.data.toList k n):=h2;have HMM:Hid (M=d.size+5-k):=HM.out;clear h2 HS HM;refine⟨_,rfl,?_⟩;by_cases hke:k=d.size
   ·have hq:((k:Int)==(d.size:Int))=true:=by simp;omega
    have HZ:Hid (S0 d.data.toList):=s2_end HS2.out (by omega);clear hke;go_wp2;go_step3
    exact fj rfl rfl rfl rfl rfl hb hk hn (.inr (.inr (.inr ⟨rfl,HZ.out⟩))) (by rw[HMM.out];simp;omega)
   have hq:((k:Int)==(d.size:Int))=false:=by simp;omega
   have hlt:k<d.size:=by omega
   have hkl:k<d.data.toList.length:=by omega
   by_cases hdig:isDig d[k]
   ·have HN:Hid (S2 d.data.toList (k+1) n):=s2_digit HS2.out hkl hdig;obtain⟨g1,g2⟩:=hdig;have hdd:(decide (48≤d[k].toNat)&&decide (d[k].toNat≤57))=true:=by simp[g1,g2]
    clear hke HS2;go_wp2_with fail
    refine(zbi d[k] _).mono ?_;rw[hdd];rintro e w1 ⟨rfl,hw1⟩;obtain rfl:=hw1.symm;go_wp2;go_step3
    exact fj (n:=n) (k:=k+1) rfl rfl rfl rfl (congrArg (Value.int .i64) (by omega)) hb (by omega) (by omega) (.inr (.inl ⟨rfl,hn3,HN.out⟩)) (by rw[HMM.out];simp;omega)
   have hdd:(decide (48≤d[k].toNat)&&decide (d[k].toNat≤57))=false:=by
    cases e:(decide (48≤d[k].toNat)&&decide (d[k].toNat≤57)) with
    | false=>rfl
    | true=>simp at e;exact absurd e hdig
   by_cases hbl:d[k]=10
   ·have HN:Hid (S3 d.data.toList (k+1) n):=s2_lf HS2.out hkl hbl;have hq2:((d[k].toNat:Int)==10)=true:=by rw[hbl];rfl
    clear hke HS2 hdig hbl;go_wp2_with fail
    refine(zbi d[k] _).mono ?_;rw[hdd];rintro e w1 ⟨rfl,hw1⟩;obtain rfl:=hw1.symm;go_wp2;go_step3
    exact fj (n:=n) (k:=k+1) rfl rfl rfl rfl (congrArg (Value.int .i64) (by omega)) hb (by omega) (by omega) (.inr (.inr (.inl ⟨rfl,hn3,HN.out⟩))) (by rw[HMM.out];simp;omega)
   ·have HZ:Hid (S0 d.data.toList):=s2_other HS2.out hkl hdig hbl;have hq2:((d[k].toNat:Int)==10)=false:=by
     simp only[beq_eq_false_iff_ne];intro e;exact hbl (UInt8.toNat_inj.1 (by show d[k].toNat=10;omega))
    clear hke HS2 hdig hbl;go_wp2_with fail
    refine(zbi d[k] _).mono ?_;rw[hdd];rintro e w1 ⟨rfl,hw1⟩;obtain rfl:=hw1.symm;go_wp2;go_step3
    exact fj rfl rfl rfl rfl rfl hb hk hn (.inr (.inr (.inr ⟨rfl,HZ.out⟩))) (by rw[HMM.out];simp;omega)
  ·-- the text
   have HS3:Hid (S3 d.data.toList k n):=h3;have HMM:Hid (M=1):=HM.out;clear h3 HS HM;refine⟨_,rfl,?_⟩;by_cases hshort:d.size≤k+n
   ·have hq:(d.size:Int)-(k:Int)≤(n:Int):=by omega
    have HZ:Hid (S0 d.data.toList):=s3_short HS3.out (by omega);go_wp2;go_step3
    exact fj rfl rfl rfl rfl rfl hb hk hn (.inr (.inr (.inr ⟨rfl,HZ.out⟩))) (by rw[HMM.out];simp)
   have hq:¬ (d.size:Int)-(k:Int)≤(n:Int):=by omega
   obtain⟨p,hp0⟩:∃ p,p=k+n:=⟨_,rfl⟩;obtain⟨q,hq0⟩:∃ q,q=k+(n+1):=⟨_,rfl⟩;obtain⟨t,ht⟩:∃ t,t=d.extract k p:=⟨_,rfl⟩;obtain⟨x,hx⟩:∃ x,x=d.extract 0 q:=⟨_,rfl⟩;have hts:t.size=n:=by rw[ht,ByteArray.size_extract];omega
   have htl:t.data.toList=(d.data.toList.drop k).take n:=by
    rw[ht];show zaL _=_;rw[zQ,hp0,show k+n-k=n by omega]
   have hxl:x.data.toList=d.data.toList.take (k+n+1):=by
    rw[hx];show zaL _=_;rw[zQ,hq0];rfl
   have hxs:x.size=q:=by rw[hx,ByteArray.size_extract];omega
   have HTX:Hid (d.extract k p=t):=ht.symm;have HXX:Hid (d.extract 0 q=x):=hx.symm;have HRS:Hid (recS t=recT t):=zdv (by omega);have HYES:Hid (x=recT t→RecP d.data.toList (.returned (.tuple #[.string t,.int .i64 (q:Int)]))):=fun e=>.inl ⟨t,s3_yes (by omega) (m:=k+n+1) (by rw[← hxl,e]),by rw[← e,hxs]⟩
   have HNO:Hid (x≠recT t→RecP d.data.toList (.returned (.tuple #[.string ⟨#[]⟩,.int .i64 0]))):=fun e=>.inr ⟨s3_no HS3.out htl (fun e2=>e (zfV (by rw[hxl,e2]))),rfl⟩
   have hp1:(k:Int)+(n:Int)=(p:Int):=by omega
   have hq1:(n:Int)+1=((n+1:Nat):Int):=by omega
   have hq2:(k:Int)+((n:Int)+1)=(q:Int):=by omega
   have c1:(0:Int)≤(k:Int):=by omega
   have c2:(k:Int)≤(p:Int):=by omega
   have c3:(p:Int)≤(d.size:Int):=by omega
   have c4:(0:Int)≤(q:Int):=by omega
   have c5:(q:Int)≤(d.size:Int):=by omega
   have hT1:Hid (Tab wr):=HTB.out _ hb;clear hp0 hq0 hx ht htl hxl HS3 hshort hq1 hxs;go_wp2_with fail
   rw[HTX.out];refine wp_region_noPanic ?_;refine wp_region_held_drew (S:=fun _=>True) (by kernel_rfl) trivial (fun hH=>?_);have qb:=hb.drew;have qT:Hid (Tab wr.drew):=hT1.out.on ((Below.refl _ _).drew);clear hT1 hb;revert hH qb qT;generalize wr.drew=W0;intro hH qb qT;refine kG 0 67 hH ?_;refine kG 1 68 hH ?_;refine kG 2 69 hH ?_;refine kG 3 70 hH ?_;rw[HXX.out];by_cases hxe:x=recT t
   ·have heq:(x.toList==(recT t).toList)=true:=by rw[hxe];simp
    have HEND:=HYES.out hxe;clear hxe HYES HNO;refine rdy 4 (fun K hK=>?_);go_simp;refine(zcf t _ (by omega) qT.out).mono ?_;rw[HRS.out];rintro e w1 ⟨rfl,b1⟩;have bb:=qb.trans (b1.mono qb.size);refine hK.out _ _ trivial (fun hA=>?_);clear hK K;try simp only[Act.put,sA,sZ,sS]
    refine kG 5 72 hA ?_;refine dne ?_;clear qb b1 qT hH hA;go_wp2_with fail
    refine(zqf t _ (by omega)).mono ?_;rintro e w2 ⟨rfl,b2⟩;have b3:=bb.trans (b2.mono bb.size);clear bb b2;go_wp2;rw[zeD];go_ret2
    exact⟨HEND,b3⟩
   ·have heq:(x.toList==(recT t).toList)=false:=by
     rw[beq_eq_false_iff_ne,zft,zft];exact fun e=>hxe (zfV e)
    have HEND:=HNO.out hxe;clear hxe HYES HNO;refine rdy 4 (fun K hK=>?_);go_simp;refine(zcf t _ (by omega) qT.out).mono ?_;rw[HRS.out];rintro e w1 ⟨rfl,b1⟩;have bb:=qb.trans (b1.mono qb.size);refine hK.out _ _ trivial (fun hA=>?_);clear hK K;try simp only[Act.put,sA,sZ,sS]
    refine kG 5 72 hA ?_;refine dne ?_;clear qb b1 qT hH hA;go_wp2;go_step3
    go_wp2;rw[zeD];go_ret2
    exact⟨HEND,bb⟩
  ·have HEND:Hid (RecP d.data.toList (.returned (.tuple #[.string ⟨#[]⟩,.int .i64 0]))):=.inr ⟨h0,rfl⟩;clear h0 HS HM;refine⟨_,rfl,?_⟩;go_wp2;rw[zeD];go_ret2
   exact⟨HEND.out,hb⟩
 case first =>
  intro hp;go_wp2;go_step3
  rename_i K hK;refine hK _ _ ?_;exact hop (l:=1) hp rfl ⟨rfl,rfl,rfl,Below.refl _ _,0,0,Nat.zero_le _,Nat.zero_le _,rfl,rfl,.inl ⟨rfl,s1_start _⟩⟩
end Go.Proofs.YtannfbpohhnnkaaGreatDoor
