import Derived.Laws.IdiomStrings
import Derived.Laws.BytesArg
import Derived.Test.YtjlnchhgkfnldaaGreatG01
import Derived.Lib.ConvBytes
namespace Go.Proofs.YtjlnchhgkfnldaaGreat
set_option maxHeartbeats 16000000
set_option maxRecDepth 100000
open Go.RowKit
def rdF:Nat→Nat→Nat→Nat→List UInt8→Nat×Nat
 | 0,_,_,_,_=>(0,0)
 | _+1,_,_,_,[]=>(0,0)
 | f+1,i,n,p,b::r=>if b.toNat<128 then (if 1099511627776<n+b.toNat % 128*p∨0<i∧b.toNat=0 then (0,0) else (n+b.toNat % 128*p,i+1)) else rdF f (i+1) (n+b.toNat % 128*p) (p*128) r
def rdNum(bs:List UInt8):Nat×Nat:=rdF 6 0 0 1 bs
theorem znT(f i n p:Nat)(bs:List UInt8)(k:Nat)(h:bs.length≤k):rdF f i n p (bs.drop k)=(0,0):=by
 rw[List.drop_eq_nil_of_le h];cases f<;>rfl
theorem zl1(f i n p k b:Nat)(bs:List UInt8)(h:k<bs.length)(hb:b=bs[k].toNat)(h1:128≤b):rdF (f+1) i n p (bs.drop k)=rdF f (i+1) (n+b % 128*p) (p*128) (bs.drop (k+1)):=by
 subst hb;rw[List.drop_eq_getElem_cons h,rdF,if_neg (by omega)]
theorem zlW(f i n p k b:Nat)(bs:List UInt8)(h:k<bs.length)(hb:b=bs[k].toNat)(h1:b<128)(h2:1099511627776<n+b % 128*p∨0<i∧b=0):rdF (f+1) i n p (bs.drop k)=(0,0):=by
 subst hb;rw[List.drop_eq_getElem_cons h,rdF,if_pos h1,if_pos h2]
theorem zia(f i n p k b:Nat)(bs:List UInt8)(h:k<bs.length)(hb:b=bs[k].toNat)(h1:b<128)(h2:¬ (1099511627776<n+b % 128*p∨0<i∧b=0)):rdF (f+1) i n p (bs.drop k)=(n+b % 128*p,i+1):=by
 subst hb;rw[List.drop_eq_getElem_cons h,rdF,if_pos h1,if_neg h2]
theorem rdF_len(f:Nat):∀ (i n p:Nat) (bs:List UInt8),(rdF f i n p bs).2≤i+bs.length∧(rdF f i n p bs).1≤1099511627776∧(rdF f i n p bs).2≤i+f:=by
 induction f with
 | zero=>intro i n p bs;simp[rdF]
 | succ f ih =>
  intro i n p bs;cases bs with
  | nil=>simp[rdF]
  | cons b r =>
   rw[rdF];split
   ·split
    ·simp
    ·simp only[List.length_cons];omega
   ·have:=ih (i+1) (n+b.toNat % 128*p) (p*128) r;simp only[List.length_cons];omega
theorem zaP(bs:List UInt8):(rdNum bs).2≤bs.length∧(rdNum bs).1≤1099511627776∧(rdNum bs).2≤6:=by have:=rdF_len 6 0 0 1 bs;unfold rdNum;omega
theorem mul_le(b p:Nat):b % 128*p≤127*p:=Nat.mul_le_mul_right p (by omega)
open Go.RowKit
theorem zZ(v:Value)(bs:List UInt8)(w:World)(hr:Rd w v bs) :
 Calls Tryz.prog 159 #[v] w fun e w'=>e=.returned (.tuple #[.int .i64 ((rdNum bs).1:Int),.int .i64 ((rdNum bs).2:Int)])∧w'=w:=by
 obtain⟨R,hR⟩:∃ R,R=rdNum bs:=⟨_,rfl⟩;rw[← hR];obtain⟨a,cap,rfl,hl,hm,hA⟩:=hr;unfold maxLen at hm;go_enter Tryz.func159,Tryz.ntmps159
 go_wp2;go_loop [4,5,6] (fun n p i=>∃ k m q:Nat,k≤6∧k≤bs.length∧i=.int .i64 k∧n=.int .i64 m∧p=.int .i64 q∧m<q∧q≤4398046511104∧(k<6→q≤34359738368)∧Hid (q=128 ^ k∧R=rdF (6-k) k m q (bs.drop k))) (fun _ _ i=>6-(intOf i).toNat)
 case atStart=>exact⟨0,0,1,by omega,by omega,rfl,rfl,rfl,by omega,by omega,by omega,rfl,hR⟩
 case round =>
  obtain⟨k,m,q,hk6,hk,rfl,rfl,rfl,hmq,hq,hq6,HR⟩:=hrel;by_cases hlt:k<bs.length
  ·by_cases h6:k<6
   ·obtain⟨b0,off,ha,hc⟩:∃ b0 off,a=some ⟨b0,off,none⟩∧w.cell? ⟨b0,off+k,none⟩=some (.int .u8 (bs[k].toNat:Int)):=by
     rcases hA with h | ⟨b,off,ha,hc⟩
     ·subst h;simp at hlt
     ·exact⟨b,off,ha,hc k hlt⟩
    rw[ha];obtain⟨b,hb⟩:∃ b,b=bs[k].toNat:=⟨_,rfl⟩;rw[← hb] at hc;have hb8:b<256:=(by rw[hb];exact UInt8.toNat_lt _);have Hb:Hid (b=bs[k].toNat):=hb;have hml:=mul_le b q;have hq7:=hq6 h6;obtain⟨d,hd⟩:∃ d,d=b % 128*q:=⟨_,rfl⟩;have Hd:Hid (d=b % 128*q):=hd;have hx:(b:Int) % 128*(q:Int)=(d:Int):=(by rw[hd,Int.natCast_mul,Int.natCast_emod];rfl);rw[← hd] at hml;clear hA hR ha hq6 hd hb;by_cases hb7:b<128
    ·by_cases h40:1099511627776<m+d
     ·have hfin:R=(0,0):=by
       have h:=HR.out.2;rw[show 6-k=(5-k)+1 by omega] at h;rw[h,zlW _ _ _ _ _ b bs hlt Hb.out hb7 (by rw[← Hd.out];exact .inl h40)]
      have HF:Hid (R=(0,0)):=hfin;clear hfin;go_wp2;go_ret2
      exact⟨by rw[HF.out];rfl,rfl⟩
     ·by_cases hk0:0<k
      ·by_cases hb0:b=0
       ·have hfin:R=(0,0):=by
         have h:=HR.out.2;rw[show 6-k=(5-k)+1 by omega] at h;rw[h,zlW _ _ _ _ _ b bs hlt Hb.out hb7 (.inr ⟨hk0,hb0⟩)]
        have HF:Hid (R=(0,0)):=hfin;have hbz:((b:Int)==0)=true:=(by simp;omega);clear hfin hb0;go_wp2;go_ret2
        exact⟨by rw[HF.out];rfl,rfl⟩
       ·have hfin:R=(m+d,k+1):=by
         have h:=HR.out.2;rw[show 6-k=(5-k)+1 by omega] at h;rw[h,zia _ _ _ _ _ b bs hlt Hb.out hb7 (by rw[← Hd.out];omega),← Hd.out]
        have HF:Hid (R=(m+d,k+1)):=hfin;have hbz:((b:Int)==0)=false:=(by simp;omega);clear hfin hb0;go_wp2;go_ret2
        exact⟨by rw[HF.out];rfl,rfl⟩
      ·have hfin:R=(m+d,k+1):=by
        have h:=HR.out.2;rw[show 6-k=(5-k)+1 by omega] at h;rw[h,zia _ _ _ _ _ b bs hlt Hb.out hb7 (by rw[← Hd.out];omega),← Hd.out]
       have HF:Hid (R=(m+d,k+1)):=hfin;clear hfin;go_wp2;go_ret2
       exact⟨by rw[HF.out];rfl,rfl⟩
    ·have HN:Hid (q*128=128 ^ (k+1)∧R=rdF (6-(k+1)) (k+1) (m+d) (q*128) (bs.drop (k+1))):=by
      refine⟨by rw[HR.out.1,Nat.pow_succ],?_⟩;have h:=HR.out.2;rw[show 6-k=(6-(k+1))+1 by omega] at h;rw[h,zl1 _ _ _ _ _ b bs hlt Hb.out (by omega),← Hd.out]
     have hq5:k+1<6→q≤268435456:=fun hk5=>by
      have h1:=HR.out.1;have h2:(128:Nat) ^ k≤128 ^ 4:=Nat.pow_le_pow_right (by omega) (by omega);omega
     have HQ:Hid (k+1<6→q≤268435456):=hq5;clear hq5;go_wp2;go_round
     case rel=>exact⟨k+1,m+d,q*128,by omega,by omega,by go_num,by go_num,by go_num,by omega,by omega,fun h=>by have:=HQ.out h;omega,HN⟩
     case measure=>simp[intOf];omega
   ·have hfin:R=(0,0):=by
     have h:=HR.out.2;rw[show 6-k=0 by omega] at h;rw[h];rfl
    have HF:Hid (R=(0,0)):=hfin;clear hfin hR;go_wp2;go_ret2
    exact⟨by rw[HF.out];rfl,rfl⟩
  ·have hfin:R=(0,0):=(by rw[HR.out.2,znT _ _ _ _ _ _ (by omega)]);have HF:Hid (R=(0,0)):=hfin;clear hfin hR;go_wp2;go_ret2
   exact⟨by rw[HF.out];rfl,rfl⟩
open Go.RowKit
def z6(bs:List UInt8):List UInt8×Nat :=
 if (rdNum bs).2=0∨3000<(rdNum bs).1∨bs.length<(rdNum bs).2+(rdNum bs).1 then ([],0) else ((bs.drop (rdNum bs).2).take (rdNum bs).1,(rdNum bs).2+(rdNum bs).1)
theorem zix(bs:List UInt8)(k n:Nat)(h:k+n≤bs.length):((bs.drop k).take n).length=n:=by rw[List.length_take,List.length_drop];omega
theorem zlG(w:World)(b off k n c:Nat)(bs:List UInt8)(h:k+n≤bs.length)(hc:∀ i (h:i<bs.length),w.cell? ⟨b,off+i,none⟩=some (.int .u8 (bs[i].toNat:Int))) :
 (convert 22 9 (.slice (some ⟨b,off+k,none⟩) n c)).run Tryz.prog w=.ok (.string ⟨((bs.drop k).take n).toArray⟩) w :=
 zgU w b (off+k) n c _ (zix bs k n h) fun j hj=>by
  rw[zix bs k n h] at hj;have:=hc (k+j) (by omega);rw[← Nat.add_assoc] at this;rw[this];simp
theorem zi9(w:World)(b off n c:Nat)(h:n=0)(l:List UInt8)(hl:l=[]):(convert 22 9 (.slice (some ⟨b,off,none⟩) n c)).run Tryz.prog w=.ok (.string ⟨l.toArray⟩) w:=by
 subst h;subst hl;exact zgU w b off 0 c [] rfl fun j hj=>by simp at hj
theorem zY(v:Value)(bs:List UInt8)(w:World)(hr:Rd w v bs) :
 Calls Tryz.prog 160 #[v] w fun e w'=>e=.returned (.tuple #[.string ⟨(z6 bs).1.toArray⟩,.int .i64 ((z6 bs).2:Int)])∧w'=w:=by
 have hlen:=zaP bs;obtain⟨T,hT⟩:∃ T,T=z6 bs:=⟨_,rfl⟩;rw[← hT];have HN:=zZ v bs w hr;unfold z6 at hT;obtain⟨n,hn⟩:∃ n,n=(rdNum bs).1:=⟨_,rfl⟩;obtain⟨k,hk⟩:∃ k,k=(rdNum bs).2:=⟨_,rfl⟩;rw[← hn,← hk] at hlen HN hT;clear hn hk;have HT:Hid (T=if k=0∨3000<n∨bs.length<k+n then ([],0) else ((bs.drop k).take n,k+n)):=hT;have HC:Hid (Calls _ _ _ _ _):=HN;clear HN hT;obtain⟨a,cap,hv,hl,hm,hA⟩:=hr;unfold maxLen at hm;subst hv;by_cases h0:k=0
 ·have HF:Hid (T=([],0)):=by rw[if_pos (.inl h0)] at HT;exact HT
  have hk0:((k:Int)==0)=true:=by simp;omega
  clear hA h0 HT;go_enter Tryz.func160,Tryz.ntmps160
  go_wp2_with fail
  refine HC.out.mono ?_;rintro e w1 ⟨rfl,rfl⟩;go_wp2;go_ret2
  exact⟨by rw[HF.out];rfl,rfl⟩
 have hk0:((k:Int)==0)=false:=by simp;omega
 by_cases h1:3000<n
 ·have HF:Hid (T=([],0)):=by rw[if_pos (.inr (.inl h1))] at HT;exact HT
  clear hA HT;go_enter Tryz.func160,Tryz.ntmps160
  go_wp2_with fail
  refine HC.out.mono ?_;rintro e w1 ⟨rfl,rfl⟩;go_wp2;go_ret2
  exact⟨by rw[HF.out];rfl,rfl⟩
 by_cases h2:bs.length<k+n
 ·have HF:Hid (T=([],0)):=by rw[if_pos (.inr (.inr h2))] at HT;exact HT
  clear hA HT;go_enter Tryz.func160,Tryz.ntmps160
  go_wp2_with fail
  refine HC.out.mono ?_;rintro e w1 ⟨rfl,rfl⟩;go_wp2;go_ret2
  exact⟨by rw[HF.out];rfl,rfl⟩
 have HF:Hid (T=((bs.drop k).take n,k+n)):=by rw[if_neg (by omega)] at HT;exact HT
 have hz:bs≠[]:=by intro h;subst h;simp at h2;omega
 rcases hA with h | ⟨b,off,rfl,hc⟩
 ·exact absurd h hz
 generalize hl':(bs.drop k).take n=l at HF;have HL:Hid ((bs.drop k).take n=l):=hl';clear hl' hz HT;by_cases hcap:cap=k
 ·have hcv:=zi9 w b off n 0 (by omega) l (by have h:=zix bs k n (by omega);rw[HL.out] at h;exact List.length_eq_zero_iff.1 (by omega));clear hc;subst hcap;go_enter Tryz.func160,Tryz.ntmps160
  go_wp2_with fail
  refine HC.out.mono ?_;rintro e w1 ⟨rfl,rfl⟩;go_wp2;go_ret2
  exact⟨by rw[HF.out];simp,rfl⟩
 ·have hcv:=zlG w b off k n (cap-k) bs (by omega) hc;rw[HL.out] at hcv;clear hc;go_enter Tryz.func160,Tryz.ntmps160
  go_wp2_with fail
  refine HC.out.mono ?_;rintro e w1 ⟨rfl,rfl⟩;go_wp2;go_ret2
  exact⟨by rw[HF.out];simp,rfl⟩
theorem enc_ne(n:Nat):enc n≠[]:=by
 by_cases h:n<128
 ·rw[zbu n h];simp
 ·rw[zfq n (by omega)];simp
theorem zhj(bs:List UInt8):(z6 bs).2≤bs.length:=by
 have:=zaP bs;unfold z6;split
 ·simp
 ·simp only;omega
theorem zlY(n:Nat)(h:n<128):(UInt8.ofNat n).toNat=n:=by rw[UInt8.toNat_ofNat'];omega
theorem zn9(n:Nat):(UInt8.ofNat (n % 128+128)).toNat=n % 128+128:=by rw[UInt8.toNat_ofNat'];omega
theorem zjC(n p:Nat):n % 128*p+n / 128*(p*128)=n*p:=by
 have h:n % 128+n / 128*128=n:=by omega
 have e:n / 128*(p*128)=n / 128*128*p:=by rw[Nat.mul_comm p 128,Nat.mul_assoc]
 rw[e,← Nat.add_mul,h]
theorem zfP(f i m p:Nat)(b:UInt8)(r:List UInt8):rdF (f+1) i m p (b::r)=if b.toNat<128 then (if 1099511627776<m+b.toNat % 128*p∨0<i∧b.toNat=0 then (0,0) else (m+b.toNat % 128*p,i+1)) else rdF f (i+1) (m+b.toNat % 128*p) (p*128) r:=rfl
theorem rdF_enc(f:Nat):∀ (i m p n:Nat) (r:List UInt8),n<128 ^ (f+1)→(0<i→0<n)→m+n*p≤1099511627776→rdF (f+1) i m p (enc n++r)=(m+n*p,i+(enc n).length):=by
 induction f with
 | zero =>
  intro i m p n r h hi hm;have hn:n<128:=by simpa using h
  rw[zbu n hn,List.singleton_append,zfP,zlY n hn,if_pos hn,Nat.mod_eq_of_lt hn,if_neg (by omega)];rfl
 | succ f ih =>
  intro i m p n r h hi hm;by_cases hn:n<128
  ·rw[zbu n hn,List.singleton_append,zfP,zlY n hn,if_pos hn,Nat.mod_eq_of_lt hn,if_neg (by omega)];rfl
  ·have hs:=zjC n p;rw[zfq n (by omega),List.cons_append,zfP,zn9,if_neg (by omega),show (n % 128+128) % 128=n % 128 by omega];rw[ih (i+1) (m+n % 128*p) (p*128) (n / 128) r (by rw[Nat.pow_succ] at h;omega) (by omega) (by omega),List.length_cons];have e1:m+n % 128*p+n / 128*(p*128)=m+n*p:=(by omega);have e2:i+1+(enc (n / 128)).length=i+((enc (n / 128)).length+1):=(by omega);rw[e1,e2]
theorem zeS(n:Nat)(r:List UInt8)(h:n≤1099511627776):rdNum (enc n++r)=(n,(enc n).length):=by
 have:=rdF_enc 5 0 0 1 n r (by omega) (by omega) (by omega);unfold rdNum;rw[this];simp
theorem zc7(n:Nat):0<(enc n).length:=List.length_pos_iff.2 (enc_ne n)
theorem zg9(s:ByteArray)(r:List UInt8)(h:s.size≤3000):z6 ((enc s.size++s.data.toList)++r)=(s.data.toList,(enc s.size++s.data.toList).length):=by
 have hp:=zc7 s.size;unfold z6;rw[List.append_assoc,zeS s.size _ (by omega)];simp only;rw[if_neg (by simp only[lA,zH];omega),List.drop_left,List.take_append_of_le_length (by rw[zH];omega),List.take_of_length_le (by rw[zH];omega),lA,zH]
theorem back(s:ByteArray):(⟨s.data.toList.toArray⟩:ByteArray)=s:=by cases s;simp
theorem zeU(b:UInt8):UInt8.ofNat b.toNat=b:=by simp
theorem rdF_back(f:Nat):∀ (i m p:Nat) (bs:List UInt8),(rdF f i m p bs).2≠0→∃ n j,rdF f i m p bs=(m+n*p,i+j)∧bs.take j=enc n∧(0<i→0<n)∧j=(enc n).length:=by
 induction f with
 | zero=>intro i m p bs h;exact absurd rfl h
 | succ f ih =>
  intro i m p bs h;cases bs with
  | nil=>exact absurd rfl h
  | cons b r =>
   rw[zfP] at h ⊢;by_cases hb:b.toNat<128
   ·rw[if_pos hb] at h ⊢;by_cases hc:1099511627776<m+b.toNat % 128*p∨0<i∧b.toNat=0
    ·rw[if_pos hc] at h;exact absurd rfl h
    ·rw[if_neg hc,Nat.mod_eq_of_lt hb];refine⟨b.toNat,1,rfl,?_,by omega,?_⟩
     ·rw[zbu _ hb,zeU];rfl
     ·rw[zbu _ hb];rfl
   ·rw[if_neg hb] at h ⊢;obtain⟨n,j,h1,h2,h3,h4⟩:=ih _ _ _ _ h;have hn:=h3 (by omega);have hb8:=UInt8.toNat_lt b;have e1:(b.toNat % 128+128*n) % 128=b.toNat % 128:=(by omega);have e2:(b.toNat % 128+128*n) / 128=n:=(by omega);have e3:b.toNat % 128+128=b.toNat:=(by omega);have hE:enc (b.toNat % 128+128*n)=b::enc n:=(by rw[zfq _ (by omega),e1,e2,e3,zeU]);have hs:=zjC (b.toNat % 128+128*n) p;rw[e1,e2] at hs;refine⟨b.toNat % 128+128*n,j+1,?_,?_,by omega,?_⟩
    ·rw[h1];have a1:m+b.toNat % 128*p+n*(p*128)=m+(b.toNat % 128+128*n)*p:=(by omega);have a2:i+1+j=i+(j+1):=(by omega);rw[a1,a2]
    ·rw[List.take_succ_cons,h2,hE]
    ·rw[hE,List.length_cons,h4]
theorem zd5(bs:List UInt8)(h:(rdNum bs).2≠0):bs.take (rdNum bs).2=enc (rdNum bs).1∧(rdNum bs).2=(enc (rdNum bs).1).length:=by
 obtain⟨n,j,h1,h2,_,h4⟩:=rdF_back 6 0 0 1 bs h;have e:rdNum bs=(n,j):=by unfold rdNum;rw[h1];simp
 rw[e];exact⟨h2,h4⟩
theorem zgo(bs:List UInt8)(h:(z6 bs).2≠0):(z6 bs).1.length≤3000∧bs.take (z6 bs).2=enc (z6 bs).1.length++(z6 bs).1∧(z6 bs).2≤bs.length:=by
 have hl:=zhj bs;unfold z6 at h hl ⊢;by_cases hc:(rdNum bs).2=0∨3000<(rdNum bs).1∨bs.length<(rdNum bs).2+(rdNum bs).1
 ·rw[if_pos hc] at h;exact absurd rfl h
 ·rw[if_neg hc] at hl ⊢;simp only at hl ⊢;have hb:=zd5 bs (by omega);have hlen:((bs.drop (rdNum bs).2).take (rdNum bs).1).length=(rdNum bs).1:=by rw[List.length_take,List.length_drop];omega
  rw[hlen];refine⟨by omega,?_,hl⟩;rw[List.take_add,hb.1]
def comB:List UInt8→List UInt8→Nat
 | a::x,b::y=>if a=b then comB x y+1 else 0
 | [],_=>0
 | _::_,[]=>0
theorem znX:∀ x y:List UInt8,comB x y≤x.length∧comB x y≤y.length
 | [],_=>by simp[comB]
 | _::_,[]=>by simp[comB]
 | a::x,b::y=>by
  have:=znX x y;rw[comB];split
  ·simp only[List.length_cons];omega
  ·simp
theorem ziL:∀ x y:List UInt8,x.take (comB x y)=y.take (comB x y)
 | [],_=>by simp[comB]
 | _::_,[]=>by simp[comB]
 | a::x,b::y=>by
  rw[comB];split
  ·rename_i h;subst h;rw[List.take_succ_cons,List.take_succ_cons,ziL x y]
  ·simp
theorem comB_end{x y:List UInt8}{k:Nat}(h:x.length≤k∨y.length≤k):comB (x.drop k) (y.drop k)=0:=by
 rcases h with h | h
 ·rw[List.drop_eq_nil_of_le h];simp[comB]
 ·rw[List.drop_eq_nil_of_le h];cases x.drop k<;>simp[comB]
theorem comB_ne{x y:List UInt8}{k:Nat}(h1:k<x.length)(h2:k<y.length)(h:x[k]≠y[k]):comB (x.drop k) (y.drop k)=0:=by
 rw[List.drop_eq_getElem_cons h1,List.drop_eq_getElem_cons h2,comB,if_neg h]
theorem comB_eq{x y:List UInt8}{k:Nat}(h1:k<x.length)(h2:k<y.length)(h:x[k]=y[k]):comB (x.drop k) (y.drop k)=comB (x.drop (k+1)) (y.drop (k+1))+1:=by
 rw[List.drop_eq_getElem_cons h1,List.drop_eq_getElem_cons h2,comB,if_pos h]
def com(a b:ByteArray):Nat:=comB a.data.toList b.data.toList
theorem zhc(a b:ByteArray):com a b≤a.size∧com a b≤b.size:=by
 have:=znX a.data.toList b.data.toList;rw[zH,zH] at this;exact this
def stp(e:Ent):Nat:=2*e.seq.toNat+(if e.gone=true then 1 else 0)
def packE(last:ByteArray)(e:Ent):List UInt8 :=
 enc (com last e.key)++((enc (e.key.size-com last e.key)++e.key.data.toList.drop (com last e.key))++(enc (stp e)++(enc e.val.size++e.val.data.toList)))
def ahead(i:Nat)(last:ByteArray):ByteArray:=if i % 8=0 then ⟨#[]⟩ else last
def packF:Nat→ByteArray→List Ent→List UInt8
 | _,_,[]=>[]
 | i,last,e::r=>packE (ahead i last) e++packF (i+1) e.key r
def packA(es:List Ent):List UInt8:=enc es.length++packF 0 ⟨#[]⟩ es
def packL(es:List Ent):List UInt8:=if okL es=true then packA es else []
theorem zfZ{es:List Ent}{k:Nat}(h:k<es.length)(last:ByteArray):packF k last (es.drop k)=packE (ahead k last) (nth es k)++packF (k+1) (nth es k).key (es.drop (k+1)):=by
 rw[List.drop_eq_getElem_cons h,packF,zU h]
theorem zj6(es:List Ent)(last:ByteArray):packF es.length last (es.drop es.length)=[]:=by
 rw[List.drop_eq_nil_of_le (nR _),packF]
theorem zaQ{e:Ent}(h:okE e=true):1≤e.key.size∧e.key.size≤40∧e.val.size≤200∧1≤e.seq∧e.seq≤1000000:=by
 simp only[okE,Bool.and_eq_true,decide_eq_true_eq] at h;obtain⟨⟨⟨⟨⟨h1,h2⟩,h3⟩,_⟩,h5⟩,h6⟩:=h;exact⟨h1,h2,h3,h5,h6⟩
theorem zn6{e:Ent}(h:okE e=true):stp e≤2000001:=by
 have:=zaQ h;unfold stp;split<;>omega
theorem zeA{last:ByteArray}{e:Ent}(h:okE e=true):(packE last e).length≤300:=by
 have hp:=zaQ h;have hs:=zn6 h;have hc:=zhc last e.key;have h1:=zak (com last e.key) (by omega);have h2:=zak (e.key.size-com last e.key) (by omega);have h3:=zak (stp e) (by omega);have h4:=zak e.val.size (by omega);unfold packE;simp only[lA,List.length_drop,zH];omega
def PkE(e:Ent):Prop:=e.key.size≤1000∧e.val.size≤1000∧0≤e.seq∧e.seq≤1000000000
theorem zjo{e:Ent}(h:okE e=true):PkE e:=by
 have:=zaQ h;exact⟨by omega,by omega,by omega,by omega⟩
theorem zkr{e:Ent}(h:PkE e):stp e≤2000000001:=by
 obtain⟨_,_,_,_⟩:=h;unfold stp;split<;>omega
theorem zi0:∀ (es:List Ent) (i:Nat) (last:ByteArray),(∀ e∈es,okE e=true)→(packF i last es).length≤300*es.length
 | [],_,_,_=>by simp[packF]
 | e::r,i,last,h=>by
  have h1:=zeA (last:=ahead i last) (h e List.mem_cons_self);have h2:=zi0 r (i+1) e.key (fun x hx=>h x (List.mem_cons_of_mem _ hx));rw[packF,lA,List.length_cons];omega
theorem zdn{es:List Ent}(h:okL es=true):∀ e∈es,okE e=true:=((zaD es).1 h).2.1
theorem zpu{es:List Ent}(h:okL es=true):(packA es).length≤90009:=by
 have h1:=zi0 es 0 ⟨#[]⟩ (zdn h);have h2:=zad h;have h3:=zak es.length (by omega);unfold packA;rw[lA];omega
def rdEnt(chk:Bool)(last:ByteArray)(bs:List UInt8):Option (Ent×Nat) :=
 if (rdNum bs).2=0∨last.size<(rdNum bs).1∨(z6 (bs.drop (rdNum bs).2)).2=0 then none
 else if chk=true∧com last ⟨(last.data.toList.take (rdNum bs).1++(z6 (bs.drop (rdNum bs).2)).1).toArray⟩≠(rdNum bs).1 then none
 else if (rdNum (bs.drop ((rdNum bs).2+(z6 (bs.drop (rdNum bs).2)).2))).2=0∨(z6 (bs.drop ((rdNum bs).2+(z6 (bs.drop (rdNum bs).2)).2+(rdNum (bs.drop ((rdNum bs).2+(z6 (bs.drop (rdNum bs).2)).2))).2))).2=0 then none
 else some (⟨⟨(last.data.toList.take (rdNum bs).1++(z6 (bs.drop (rdNum bs).2)).1).toArray⟩,
  ⟨(z6 (bs.drop ((rdNum bs).2+(z6 (bs.drop (rdNum bs).2)).2+(rdNum (bs.drop ((rdNum bs).2+(z6 (bs.drop (rdNum bs).2)).2))).2))).1.toArray⟩,
  (((rdNum (bs.drop ((rdNum bs).2+(z6 (bs.drop (rdNum bs).2)).2))).1 / 2:Nat):Int),decide ((rdNum (bs.drop ((rdNum bs).2+(z6 (bs.drop (rdNum bs).2)).2))).1 % 2=1)⟩,
  (rdNum bs).2+(z6 (bs.drop (rdNum bs).2)).2+(rdNum (bs.drop ((rdNum bs).2+(z6 (bs.drop (rdNum bs).2)).2))).2+(z6 (bs.drop ((rdNum bs).2+(z6 (bs.drop (rdNum bs).2)).2+(rdNum (bs.drop ((rdNum bs).2+(z6 (bs.drop (rdNum bs).2)).2))).2))).2)
def zal(chk:Bool)(last:ByteArray)(a:Nat×Nat)(t:List UInt8×Nat)(s:Nat×Nat)(v:List UInt8×Nat):Option (Ent×Nat) :=
 if a.2=0∨last.size<a.1∨t.2=0 then none
 else if chk=true∧com last ⟨(last.data.toList.take a.1++t.1).toArray⟩≠a.1 then none
 else if s.2=0∨v.2=0 then none
 else some (⟨⟨(last.data.toList.take a.1++t.1).toArray⟩,⟨v.1.toArray⟩,((s.1 / 2:Nat):Int),decide (s.1 % 2=1)⟩,a.2+t.2+s.2+v.2)
theorem zcr(chk:Bool)(last:ByteArray)(bs:List UInt8)(a:Nat×Nat)(t:List UInt8×Nat)(s:Nat×Nat)(v:List UInt8×Nat)(ha:rdNum bs=a)(ht:z6 (bs.drop a.2)=t)(hs:rdNum (bs.drop (a.2+t.2))=s)(hv:z6 (bs.drop (a.2+t.2+s.2))=v) :
 rdEnt chk last bs=zal chk last a t s v:=by
 subst ha;subst ht;subst hs;subst hv;rfl
theorem zkp(l r:List UInt8)(h:l.length≤3000):z6 ((enc l.length++l)++r)=(l,(enc l.length++l).length):=by
 have:=zg9 ⟨l.toArray⟩ r (by show l.toArray.size≤3000;simpa using h);simpa [ByteArray.size] using this
theorem zcE{a b:List UInt8}:(a++b).drop a.length=b:=List.drop_left
theorem zmr(chk:Bool)(last:ByteArray)(e:Ent)(r:List UInt8)(h:okE e=true):rdEnt chk last (packE last e++r)=some (e,(packE last e).length):=by
 have hp:=zaQ h;have hs:=zn6 h;have hc:=zhc last e.key;have hkl:=zH e.key;have hvl:=zH e.val;obtain⟨c,hcd⟩:∃ c,com last e.key=c:=⟨_,rfl⟩;obtain⟨l,hl⟩:∃ l,e.key.data.toList.drop c=l:=⟨_,rfl⟩;have hll:l.length=e.key.size-c:=by rw[← hl,List.length_drop,hkl]
 have hE:packE last e=enc c++((enc l.length++l)++(enc (stp e)++(enc e.val.size++e.val.data.toList))):=by
  unfold packE;rw[hcd,hl,hll]
 rw[hcd] at hc;have hb0:packE last e++r=enc c++((enc l.length++l)++(enc (stp e)++((enc e.val.size++e.val.data.toList)++r))):=by rw[hE];simp only[List.append_assoc]
 have ha:=zeS c ((enc l.length++l)++(enc (stp e)++((enc e.val.size++e.val.data.toList)++r))) (by omega);have ht:=zkp l (enc (stp e)++((enc e.val.size++e.val.data.toList)++r)) (by omega);have hst:=zeS (stp e) ((enc e.val.size++e.val.data.toList)++r) (by omega);have hv:=zg9 e.val r (by omega);rw[hb0];rw[zcr chk last _ (c,(enc c).length) (l,(enc l.length++l).length) (stp e,(enc (stp e)).length) (e.val.data.toList,(enc e.val.size++e.val.data.toList).length) ha (by rw[zcE];exact ht) (by rw[← List.drop_drop,zcE,zcE];exact hst) (by rw[← List.drop_drop,← List.drop_drop,zcE,zcE,zcE];exact hv)];have hkey:(⟨(last.data.toList.take c++l).toArray⟩:ByteArray)=e.key:=by
  have ht:=ziL last.data.toList e.key.data.toList;have:com last e.key=comB last.data.toList e.key.data.toList:=rfl;rw[← this,hcd] at ht;rw[ht,← hl,List.take_append_drop]
 have p1:=zc7 c;have p2:=zc7 l.length;have p3:=zc7 (stp e);have p4:=zc7 e.val.size;unfold zal;simp only[hkey];rw[if_neg (by simp only[lA];omega),if_neg (by rw[hcd];simp),if_neg (by simp only[lA];omega),back,hE];have h2:(((stp e / 2:Nat):Int))=e.seq:=by unfold stp;split<;>omega
 have h3:decide (stp e % 2=1)=e.gone:=by
  unfold stp;cases hg:e.gone with
  | true=>rw[if_pos rfl];exact decide_eq_true (by omega)
  | false=>rw[if_neg (by simp)];exact decide_eq_false (by omega)
 rw[h2,h3];simp only[lA,Nat.add_assoc]
theorem zm3(last:ByteArray)(bs:List UInt8)(e:Ent)(k:Nat)(h:rdEnt true last bs=some (e,k)):bs.take k=packE last e∧k=(packE last e).length∧k≤bs.length:=by
 obtain⟨a,ha⟩:∃ a,rdNum bs=a:=⟨_,rfl⟩;obtain⟨t,ht⟩:∃ t,z6 (bs.drop a.2)=t:=⟨_,rfl⟩;obtain⟨s,hs⟩:∃ s,rdNum (bs.drop (a.2+t.2))=s:=⟨_,rfl⟩;obtain⟨v,hv⟩:∃ v,z6 (bs.drop (a.2+t.2+s.2))=v:=⟨_,rfl⟩;rw[zcr true last bs a t s v ha ht hs hv] at h;unfold zal at h;by_cases h1:a.2=0∨last.size<a.1∨t.2=0
 ·rw[if_pos h1] at h;cases h
 rw[if_neg h1] at h;by_cases h2:true=true∧com last ⟨(last.data.toList.take a.1++t.1).toArray⟩≠a.1
 ·rw[if_pos h2] at h;cases h
 rw[if_neg h2] at h;by_cases h3:s.2=0∨v.2=0
 ·rw[if_pos h3] at h;cases h
 rw[if_neg h3] at h;obtain⟨he,hk⟩:=Prod.mk.inj (Option.some.inj h);have hcom:com last ⟨(last.data.toList.take a.1++t.1).toArray⟩=a.1:=by
  refine Decidable.byContradiction fun hn=>h2 ⟨rfl,hn⟩
 have A:=zd5 bs (by rw[ha];omega);rw[ha] at A;have T:=zgo (bs.drop a.2) (by rw[ht];omega);rw[ht] at T;have S:=zd5 (bs.drop (a.2+t.2)) (by rw[hs];omega);rw[hs] at S;have V:=zgo (bs.drop (a.2+t.2+s.2)) (by rw[hv];omega);rw[hv] at V;have la:=(zaP bs).1;rw[ha] at la;have ls:=(zaP (bs.drop (a.2+t.2))).1;rw[hs] at ls;have lt:=T.2.2;have lv:=V.2.2;simp only[List.length_drop] at ls lt lv;have ltk:(last.data.toList.take a.1).length=a.1:=by rw[List.length_take,zH];omega
 have e1:e.key.data.toList=last.data.toList.take a.1++t.1:=by rw[← he]
 have e2:e.key.size=a.1+t.1.length:=by rw[← zH,e1,lA,ltk]
 have e3:com last e.key=a.1:=by rw[← he];exact hcom
 have e4:e.val.data.toList=v.1:=by rw[← he]
 have e5:e.val.size=v.1.length:=by rw[← zH,e4]
 have e6:stp e=s.1:=by
  have q1:e.seq=((s.1 / 2:Nat):Int):=by rw[← he]
  have q2:e.gone=decide (s.1 % 2=1):=by rw[← he]
  unfold stp;rw[q1,q2];simp only[decide_eq_true_eq];split<;>omega
 have hP:packE last e=enc a.1++((enc t.1.length++t.1)++(enc s.1++(enc v.1.length++v.1))):=by
  unfold packE;rw[e3,e6,e5,e4,e2,e1,show a.1+t.1.length-a.1=t.1.length by omega];rw[List.drop_append_of_le_length (by omega),List.drop_eq_nil_of_le (by omega),List.nil_append]
 have hB:bs.take k=packE last e:=by
  rw[hP,← A.1,← T.2.1,← S.1,← V.2.1,← hk];rw[List.take_add,List.take_add,List.take_add];simp only[List.append_assoc]
 refine⟨hB,?_,by omega⟩;rw[← hB,List.length_take];omega
def rdEs(chk:Bool)(bs:List UInt8):Nat→Nat→List Ent→ByteArray→Option (List Ent×Nat)
 | 0,p,acc,_=>some (acc,p)
 | n+1,p,acc,last=>match rdEnt chk (ahead acc.length last) (bs.drop p) with
  | none=>none
  | some (e,k)=>rdEs chk bs n (p+k) (acc++[e]) e.key
theorem ziE{chk:Bool}{bs:List UInt8}{n p:Nat}{acc:List Ent}{last:ByteArray}(h:rdEnt chk (ahead acc.length last) (bs.drop p)=none):rdEs chk bs (n+1) p acc last=none:=by
 rw[rdEs,h]
theorem zgS{chk:Bool}{bs:List UInt8}{n p k:Nat}{acc:List Ent}{last:ByteArray}{e:Ent}(h:rdEnt chk (ahead acc.length last) (bs.drop p)=some (e,k)):rdEs chk bs (n+1) p acc last=rdEs chk bs n (p+k) (acc++[e]) e.key:=by
 rw[rdEs,h]
theorem zkf(chk:Bool)(bs r:List UInt8):∀ (es:List Ent) (p:Nat) (acc:List Ent) (last:ByteArray),(∀ e∈es,okE e=true)→bs.drop p=packF acc.length last es++r→rdEs chk bs es.length p acc last=some (acc++es,p+(packF acc.length last es).length)
 | [],p,acc,last,_,_=>by simp[rdEs,packF]
 | e::es,p,acc,last,h,hd=>by
  have hE:=zmr chk (ahead acc.length last) e (packF (acc.length+1) e.key es++r) (h e List.mem_cons_self);rw[packF,List.append_assoc] at hd;rw[List.length_cons,zgS (by rw[hd];exact hE)];have hlen:(acc++[e]).length=acc.length+1:=by simp
  have:=zkf chk bs r es (p+(packE (ahead acc.length last) e).length) (acc++[e]) e.key (fun x hx=>h x (List.mem_cons_of_mem _ hx)) (by rw[← List.drop_drop,hd,zcE,hlen]);rw[this,hlen,packF];simp only[List.append_assoc,List.singleton_append,lA,Nat.add_assoc]
theorem zj8(bs:List UInt8):∀ (n p:Nat) (acc:List Ent) (last:ByteArray) (x:List Ent×Nat),p≤bs.length→rdEs true bs n p acc last=some x→∃ es,x.1=acc++es∧es.length=n∧x.2=p+(packF acc.length last es).length∧(bs.drop p).take (packF acc.length last es).length=packF acc.length last es∧x.2≤bs.length
 | 0,p,acc,last,x,hp,h=>by
  rw[rdEs] at h;cases h
  exact⟨[],by simp,rfl,by simp[packF],by simp[packF],hp⟩
 | n+1,p,acc,last,x,hp,h=>by
  cases hE:rdEnt true (ahead acc.length last) (bs.drop p) with
  | none=>rw[ziE hE] at h;cases h
  | some y =>
   obtain⟨e,k⟩:=y;rw[zgS hE] at h;obtain⟨b1,b2,b3⟩:=zm3 _ _ _ _ hE;rw[List.length_drop] at b3;obtain⟨es,h1,h2,h3,h4,h5⟩:=zj8 bs n (p+k) (acc++[e]) e.key x (by omega) h;have hlen:(acc++[e]).length=acc.length+1:=(by simp);rw[hlen] at h3 h4;refine⟨e::es,by rw[h1];simp,by rw[List.length_cons,h2],?_,?_,h5⟩
   ·rw[packF,lA,← b2,h3];omega
   ·rw[packF,lA,← b2,List.take_add,b1,List.drop_drop,h4]
def unpC(chk:Bool)(bs:List UInt8):Option (List Ent×Nat):=if (rdNum bs).2=0∨300<(rdNum bs).1 then none else rdEs chk bs (rdNum bs).1 (rdNum bs).2 [] ⟨#[]⟩
def finI(bs:List UInt8):Option (List Ent×Nat)→List Ent×Bool
 | none=>([],false)
 | some (es,p)=>if p=bs.length∧okL es=true then (es,true) else ([],false)
def finS(bs:List UInt8):Option (List Ent×Nat)→List Ent×Bool
 | none=>([],false)
 | some (es,_)=>if packL es=bs then (es,true) else ([],false)
def unpI(bs:List UInt8):List Ent×Bool:=finI bs (unpC true bs)
def unpS(bs:List UInt8):List Ent×Bool:=finS bs (unpC false bs)
theorem zjk(chk:Bool)(es:List Ent)(r:List UInt8)(h:okL es=true):unpC chk (packA es++r)=some (es,(packA es).length):=by
 have hl:=zad h;have hp:=zc7 es.length;unfold unpC packA;rw[List.append_assoc,zeS es.length _ (by omega)];simp only;rw[if_neg (by omega),zkf chk _ r es _ [] ⟨#[]⟩ (zdn h) (by rw[zcE];rfl),List.nil_append,lA];rfl
theorem zkg{es:List Ent}(h:okL es=true):unpI (packA es)=(es,true):=by
 have:=zjk true es [] h;rw[List.append_nil] at this;unfold unpI finI;rw[this];simp[h]
theorem zge{bs:List UInt8}{es:List Ent}(h:unpI bs=(es,true)):okL es=true∧packA es=bs:=by
 unfold unpI at h;cases hc:unpC true bs with
 | none=>rw[hc] at h;cases h
 | some x =>
  obtain⟨ys,p⟩:=x;rw[hc] at h;unfold finI at h;simp only at h;by_cases hh:p=bs.length∧okL ys=true
  ·rw[if_pos hh] at h;obtain⟨he,_⟩:=Prod.mk.inj h;subst he;refine⟨hh.2,?_⟩;unfold unpC at hc;by_cases hn:(rdNum bs).2=0∨300<(rdNum bs).1
   ·rw[if_pos hn] at hc;cases hc
   ·rw[if_neg hn] at hc;have hb:=zd5 bs (by omega);have hl:=(zaP bs).1;obtain⟨es,h1,h2,h3,h4,h5⟩:=zj8 bs _ _ _ _ _ hl hc;simp only[List.nil_append,List.length_nil] at h1 h2 h3 h4 h5;subst h1;unfold packA;have h6:bs.drop (rdNum bs).2=packF 0 ⟨#[]⟩ ys:=(by rw[← h4];exact(List.take_of_length_le (by rw[List.length_drop];omega)).symm);rw[h2,← hb.1,← h6,List.take_append_drop]
  ·rw[if_neg hh] at h;cases h
theorem zon{bs:List UInt8}{es:List Ent}(h:unpI bs=(es,false)):es=[]:=by
 unfold unpI at h;cases hc:unpC true bs with
 | none=>rw[hc] at h;cases h;rfl
 | some x =>
  obtain⟨ys,p⟩:=x;rw[hc] at h;unfold finI at h;simp only at h;split at h
  ·cases h
  ·cases h;rfl
theorem zeW{es:List Ent}(h:okL es=true):packL es=packA es:=by unfold packL;rw[if_pos h]
theorem unp_same(bs:List UInt8):unpS bs=unpI bs:=by
 cases hI:unpI bs with
 | mk es ok =>
  cases ok with
  | true =>
   obtain⟨h1,h2⟩:=zge hI;have:=zjk false es [] h1;rw[List.append_nil,h2] at this;unfold unpS finS;rw[this];simp only;rw[if_pos (by rw[zeW h1];exact h2)]
  | false =>
   have he:=zon hI;subst he;unfold unpS;cases hc:unpC false bs with
   | none=>rfl
   | some x =>
    obtain⟨ys,p⟩:=x;unfold finS;simp only;by_cases hp:packL ys=bs
    ·exfalso;cases hk:okL ys with
     | true =>
      rw[zeW hk] at hp;have:=zkg hk;rw[hp,hI] at this;cases this
     | false =>
      unfold packL at hp;rw[if_neg (by simp[hk])] at hp;subst hp;simp[unpC,rdNum,rdF] at hc
    ·rw[if_neg hp]
open Go.RowKit
def stepD(h:Nat)(b:UInt8):Nat:=(h*1000003+b.toNat+1) % 2147483647
def dig(h:Nat)(bs:List UInt8):Nat:=bs.foldl stepD h
theorem zhT(h:Nat)(b:UInt8):stepD h b<2147483647:=Nat.mod_lt _ (by omega)
theorem zjm(bs:List UInt8):∀ h,h<2147483647→dig h bs<2147483647:=by
 induction bs with
 | nil=>intro h hh;exact hh
 | cons b bs ih=>intro h _;exact ih _ (zhT h b)
theorem zmh(h:Nat)(a b:List UInt8):dig h (a++b)=dig (dig h a) b:=List.foldl_append
theorem dig_at(h k:Nat)(bs:List UInt8)(hk:k<bs.length):dig h (bs.drop k)=dig (stepD h bs[k]) (bs.drop (k+1)):=by
 rw[List.drop_eq_getElem_cons hk];rfl
theorem zo9(h k:Nat)(bs:List UInt8)(hk:bs.length≤k):dig h (bs.drop k)=h:=by
 rw[List.drop_eq_nil_of_le hk];rfl
theorem zpe{k:IntKind}{a b:Int}(h:a=b):Ending.returned (.int k a)=.returned (.int k b):=by rw[h]
theorem zk8(n:Int)(h : -9223372036854775808≤n∧n≤9223372036854775807):wrap64 n=n:=by unfold wrap64;omega
theorem ziM(m:Nat)(b:UInt8)(hm:m<2147483647):(wrap64 (wrap64 ((m:Int)*1000003+wrap64 (b.toNat:Int))+1)).tmod 2147483647=(stepD m b:Int):=by
 have hb:=UInt8.toNat_lt b;rw[zk8 (b.toNat:Int) (by omega),zk8 ((m:Int)*1000003+(b.toNat:Int)) (by omega),zk8 _ (by omega),Int.tmod_eq_emod_of_nonneg (by omega)];unfold stepD;omega
theorem zee(s:ByteArray)(w:World)(hs:s.size≤1099511627776) :
 Calls Tryz.prog 158 #[.string s] w fun e w'=>e=.returned (.int .i64 (dig 1 s.data.toList:Int))∧w'=w:=by
 have hsz:=zH s;obtain⟨R,hR⟩:∃ R,R=dig 1 s.data.toList:=⟨_,rfl⟩;rw[← hR];go_enter Tryz.func158,Tryz.ntmps158
 go_wp2;go_loop [3,4] (fun h i=>∃ k m:Nat,k≤s.size∧i=.int .i64 k∧h=.int .i64 m∧m<2147483647∧Hid (R=dig m (s.data.toList.drop k))) (fun _ i=>s.size-(intOf i).toNat)
 case atStart=>exact⟨0,1,by omega,rfl,rfl,by omega,hR⟩
 case round =>
  obtain⟨k,m,hk,rfl,rfl,hm,HR⟩:=hrel;clear hR;by_cases hlt:k<s.size
  ·go_wp2;go_round
   case rel =>
    have hb:s[k]=s.data.toList[k]'(by omega):=rfl;refine⟨k+1,stepD m s[k],by omega,by go_num,by rw[ziM _ _ hm],zhT _ _,?_⟩;show R=_;rw[HR.out,dig_at _ _ _ (by omega),hb]
   case measure=>simp[intOf];omega
  ·go_wp2;go_ret;exact⟨zpe (by rw[HR.out,zo9 _ _ _ (by omega)]),rfl⟩
theorem zi6(m:Nat)(b:UInt8)(w:World)(hm:m<2147483647) :
 Calls Tryz.prog 148 #[.int .i64 m,.int .u8 (b.toNat:Int)] w fun e w'=>e=.returned (.int .i64 (stepD m b:Int))∧w'=w:=by
 have hr:=ziM m b hm;go_enter Tryz.func148,Tryz.ntmps148
 go_wp2;go_ret;exact⟨rfl,rfl⟩
theorem zfL(m:Nat)(v:Value)(bs:List UInt8)(w:World)(hm:m<2147483647)(hr:Rd w v bs) :
 Calls Tryz.prog 147 #[.int .i64 m,.func (.func 148) #[] #[],v] w fun e w'=>e=.returned (.int .i64 (dig m bs:Int))∧w'=w:=by
 obtain⟨a,cap,rfl,hl,hc,hA⟩:=hr;unfold maxLen at hc;obtain⟨R,hR⟩:∃ R,R=dig m bs:=⟨_,rfl⟩;rw[← hR];go_enter Tryz.func147,Tryz.ntmps147
 go_wp2;go_loop [0,8,11] (fun h _ i=>∃ k m':Nat,k≤bs.length∧i=.int .i64 k∧h=.int .i64 m'∧m'<2147483647∧Hid (R=dig m' (bs.drop k))) (fun _ _ i=>bs.length-(intOf i).toNat)
 case atStart=>exact⟨0,m,by omega,rfl,rfl,hm,hR⟩
 case round =>
  obtain⟨k,m',hk,rfl,rfl,hm',HR⟩:=hrel;clear hR;by_cases hlt:k<bs.length
  ·obtain⟨b0,off,ha,hcell⟩:∃ b0 off,a=some ⟨b0,off,none⟩∧w.cell? ⟨b0,off+k,none⟩=some (.int .u8 (bs[k].toNat:Int)):=by
    rcases hA with h | ⟨b,off,ha,hc⟩
    ·subst h;simp at hlt
    ·exact⟨b,off,ha,hc k hlt⟩
   rw[ha];clear hA ha;go_wp2_with fail
   refine(zi6 m' bs[k] _ hm').mono ?_;rintro e w1 ⟨rfl,rfl⟩;have hlt2:=zhT m' bs[k];have HN:Hid (R=dig (stepD m' bs[k]) (bs.drop (k+1))):=by
    show R=_;rw[HR.out,dig_at _ _ _ hlt]
   go_wp2;go_round
   case rel=>exact⟨k+1,stepD m' bs[k],by omega,by go_num,rfl,hlt2,HN⟩
   case measure=>simp[intOf];omega
  ·go_wp2;go_ret;exact⟨zpe (by rw[HR.out,zo9 _ _ _ (by omega)]),rfl⟩
theorem zfC(m:Nat)(s:ByteArray)(w:World)(hm:m<2147483647)(hs:s.size≤1099511627776) :
 Calls Tryz.prog 128 #[.int .i64 m,.string s] w fun e w'=>e=.returned (.int .i64 (dig m s.data.toList:Int))∧Below w.heap.size w w':=by
 have hcv:=zdW w s;have hrd:=zhZ w s (by unfold maxLen;omega);have hbl:=zeu w s;generalize Lib.bytesWorld w 5 s=W at hcv hrd hbl;generalize grownCap w s.size 0 5=c0 at hcv hrd;go_enter Tryz.func128,Tryz.ntmps128
 go_wp2_with fail
 refine(zfL m _ _ _ hm hrd).mono ?_;rintro e w1 ⟨rfl,rfl⟩;go_wp2;go_ret;exact⟨rfl,hbl⟩
end Go.Proofs.YtjlnchhgkfnldaaGreat
