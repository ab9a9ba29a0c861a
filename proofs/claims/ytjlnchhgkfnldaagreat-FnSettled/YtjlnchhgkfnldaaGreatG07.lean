import Derived.Test.YtjlnchhgkfnldaaGreatG06
import Derived.BigQuiet
import Derived.Deep.RegionHeld3
namespace Go.Proofs.YtjlnchhgkfnldaaGreat
set_option maxHeartbeats 16000000
set_option maxRecDepth 100000
open Go.RowKit
def zeT(w0 w:World)(g:Nat)(v:Value)(bs:List UInt8)(p:Nat)(T:List UInt8×Nat)(e:Ending)(w':World):Prop :=
 ∃ p',e=.returned (.tuple #[.string ⟨T.1.toArray⟩,.bool (decide (T.2≠0))])∧Cur w0 w' g v bs p'∧(T.2≠0→p'=p+T.2)∧w.grownBy w' (some g)
theorem zku{a b c:World}{row:Option Nat}(h:a.grownBy b row)(k:b.grownBy c row):a.grownBy c row :=
 ⟨k.os.trans h.os,k.tape.trans h.tape,k.output.trans h.output,nT h.size k.size,fun i hi hr=>(k.block i (Nat.lt_of_lt_of_le hi h.size) hr).trans (h.block i hi hr)⟩
theorem zeo{w0 w w1:World}{g:Nat}{v:Value}{bs:List UInt8}{p p1:Nat}{T:List UInt8×Nat}(h:Cur w0 w1 g v bs p1)(hg:w.grownBy w1 (some g))(hT:T=([],0))(q:Nat):zeT w0 w g v bs p T (.returned (.tuple #[.string ⟨#[]⟩,.bool false])) (w1.drewN q) :=
 ⟨p1,by rw[hT];rfl,h.drewN q,fun h=>by rw[hT] at h;exact absurd rfl h,zbw hg _⟩
theorem zfu{w0 w w1:World}{g:Nat}{v:Value}{bs l:List UInt8}{p k n:Nat}{T:List UInt8×Nat}(h:Cur w0 w1 g v bs (p+k))(hg:w.grownBy w1 (some g))(hk:k≠0)(hT:T=(l,k+n))(hn:p+k+n≤bs.length)(q r:Nat) :
 zeT w0 w g v bs p T (.returned (.tuple #[.string ⟨l.toArray⟩,.bool true])) ((((w1.drewN q).setCell ⟨g,1,none⟩ (.int .i64 ((p:Int)+(k:Int)+(n:Int))))).drewN r):=by
 have hc:=((h.drewN q).moved (p+k+n) hn).drewN r;rw[show ((p+k+n:Nat):Int)=(p:Int)+(k:Int)+(n:Int) by omega] at hc;refine⟨p+k+n,?_,hc,fun _=>by rw[hT];omega,zbw (zku (zbw hg q) (Cur.grown _)) r⟩;rw[hT];have:decide (k+n≠0)=true:=by simp;omega
 rw[this]
theorem zom(w:World)(b off k n c:Nat)(bs l:List UInt8)(h:k+n≤bs.length)(hl:(bs.drop k).take n=l)(hc:∀ i (h:i<bs.length),w.cell? ⟨b,off+i,none⟩=some (.int .u8 (bs[i].toNat:Int))) :
 ∀ q,(convert 22 9 (.slice (some ⟨b,off+k,none⟩) n c)).run Tryz.prog (w.drewN q)=.ok (.string ⟨l.toArray⟩) (w.drewN q):=fun q=>by rw[← hl];exact zlG (w.drewN q) b off k n c bs h hc
theorem zlR(w0 w:World)(g:Nat)(v:Value)(bs:List UInt8)(p:Nat)(h:Cur w0 w g v bs p) :
 Calls Tryz.prog 164 #[.pointer (some ⟨g,0,none⟩)] w fun e w'=>zeT w0 w g v bs p (z6 (bs.drop p)) e w':=by
 have hlen:=zaP (bs.drop p);obtain⟨a,cap,hv,hl,hm,hA⟩:=h.rd;unfold maxLen at hm;subst hv;have HA:Hid (bs=[]∨∃ b off,a=some ⟨b,off,none⟩∧∀ i (h:i<bs.length),w0.cell? ⟨b,off+i,none⟩=some (.int .u8 (bs[i].toNat:Int))):=hA;clear hA;obtain⟨T,hT⟩:∃ T,T=z6 (bs.drop p):=⟨_,rfl⟩;rw[← hT];have HN:=zdL w0 w g _ bs p h;unfold z6 at hT;obtain⟨R,hR⟩:∃ R,R=rdNum (bs.drop p):=⟨_,rfl⟩;rw[← hR] at hlen HN hT;clear hR;obtain⟨n,k⟩:=R;have HT:Hid (T=if k=0∨3000<n∨(bs.drop p).length<k+n then ([],0) else (((bs.drop p).drop k).take n,k+n)):=hT;have HC:Hid (Calls _ _ _ _ _):=HN;rw[List.length_drop] at hlen HT;have hple:=h.le;clear HN hT;simp only at hlen;by_cases h0:k=0
 ·have HF:Hid (T=([],0)):=by rw[if_pos (.inl h0)] at HT;exact HT
  clear HT;go_enter Tryz.func164,Tryz.ntmps164
  go_wp2_with fail
  refine HC.out.mono ?_;rintro e w1 ⟨p1,rfl,hc,hp,hg⟩;have hb:decide ((n,k).2≠0)=false:=by simp[h0]
  rw[hb];clear hb hp h0;go_wp2;go_ret2
  exact zeo hc hg HF.out 0
 have hb:decide ((n,k).2≠0)=true:=by simp[h0]
 by_cases h1:3000<n
 ·have HF:Hid (T=([],0)):=by rw[if_pos (.inr (.inl h1))] at HT;exact HT
  clear HT;go_enter Tryz.func164,Tryz.ntmps164
  go_wp2_with fail
  refine HC.out.mono ?_;rintro e w1 ⟨p1,rfl,hc,hp,hg⟩;rw[hb];clear hb hp;go_wp2;go_ret2
  exact zeo hc hg HF.out 0
 by_cases h2:bs.length-p<k+n
 ·have HF:Hid (T=([],0)):=by rw[if_pos (.inr (.inr h2))] at HT;exact HT
  clear HT;go_enter Tryz.func164,Tryz.ntmps164
  go_wp2_with fail
  refine HC.out.mono ?_;rintro e w1 ⟨p1,rfl,hc,hp,hg⟩;rw[hb];have hp1:p1=p+k:=hp h0;subst hp1;clear hb hp;go_wp2_with fail
  refine(zfX w0 _ g _ bs _ hc).mono ?_;rintro e w2 ⟨rfl,q2,rfl⟩;go_wp2;go_ret2
  exact zeo hc hg HF.out _
 have HF:Hid (T=(((bs.drop p).drop k).take n,k+n)):=by rw[if_neg (by omega)] at HT;exact HT
 go_enter Tryz.func164,Tryz.ntmps164
 go_wp2_with fail
 refine HC.out.mono ?_;rintro e w1 ⟨p1,rfl,hc,hp,hg⟩;rw[hb];have hp1:p1=p+k:=hp h0;subst hp1;clear hb hp HT;go_wp2_with fail
 refine(zfX w0 _ g _ bs _ hc).mono ?_;rintro e w2 ⟨rfl,q2,rfl⟩;obtain⟨c0,c1,f1⟩:=hc.cells;go_wp2;obtain⟨b,off,ha,hA⟩:∃ b off,a=some ⟨b,off,none⟩∧∀ i (h:i<bs.length),w0.cell? ⟨b,off+i,none⟩=some (.int .u8 (bs[i].toNat:Int)):=by
  rcases HA.out with h | h
  ·subst h;simp at hlen;omega
  ·exact h
 have hcm:=(hc.drewN q2).moved (p+k+n) (by omega);rw[show ((p+k+n:Nat):Int)=(p:Int)+(k:Int)+(n:Int) by omega] at hcm;generalize hW:(w1.drewN q2).setCell ⟨g,1,none⟩ (.int .i64 ((p:Int)+(k:Int)+(n:Int)))=W at hcm ⊢;have HW:Hid ((w1.drewN q2).setCell ⟨g,1,none⟩ (.int .i64 ((p:Int)+(k:Int)+(n:Int)))=W):=hW;have hAW:∀ i (h:i<bs.length),W.cell? ⟨b,off+i,none⟩=some (.int .u8 (bs[i].toNat:Int)):=fun i hi=>by rw[hcm.bel.cell (World.block_lt_of_cell? w0 _ (hA i hi))];exact hA i hi
 obtain⟨d0,d1,e1⟩:=hcm.cells;rw[show ((p+k+n:Nat):Int)=(p:Int)+(k:Int)+(n:Int) by omega] at d1;rw[ha] at d0;generalize hl':((bs.drop p).drop k).take n=l at HF;rw[List.drop_drop] at hl';have hcv:=zom W b off (p+k) n (cap-(p+k)) bs l (by omega) hl' hAW;have hlc:l.length=n:=by rw[← hl'];exact zix bs (p+k) n (by omega)
 clear hW hA hcm hAW c0 c1 f1 hl' ha;by_cases hcap:cap=p+k
 ·subst hcap;have hn0:n=0:=by omega
  have hl0:l=[]:=by have h:=hlc;exact List.length_eq_zero_iff.1 (by omega)
  have hcn:∀ q,(convert 22 9 (.slice (some ⟨b,off,none⟩) n 0)).run Tryz.prog (W.drewN q)=.ok (.string ⟨l.toArray⟩) (W.drewN q):=fun q=>zi9 (W.drewN q) b off n 0 hn0 l hl0
  clear hcv hlc hn0 hl0;go_quiet (fail)
  go_wp2;go_ret2
  rw[← HW.out];exact zfu hc hg h0 HF.out (by omega) q2 _
 ·clear hlc;go_quiet (fail)
  go_wp2;go_ret2
  rw[← HW.out];exact zfu hc hg h0 HF.out (by omega) q2 _
open Go.RowKit
theorem drew2(w:World)(n q:Nat):(w.drewN n).drewN q=w.drewN (n+q):=by simp
theorem zo1{a b:UInt8}(h:a=b):((a.toNat:Int)==(b.toNat:Int))=true:=by subst h;simp
theorem zmx{a b:UInt8}(h:a≠b):((a.toNat:Int)==(b.toNat:Int))=false:=by
 simp only[beq_eq_false_iff_ne,ne_eq];intro e;exact h (UInt8.toNat_inj.1 (by omega))
theorem zne{a b:UInt8}(h:a=b):((a.toNat:Int) != (b.toNat:Int))=false:=by subst h;simp
theorem zlf{a b:UInt8}(h:a≠b):((a.toNat:Int) != (b.toNat:Int))=true:=by
 simp only[bne_iff_ne,ne_eq];intro e;exact h (UInt8.toNat_inj.1 (by omega))
theorem zh6{a b:ByteArray}{c k:Nat}(h:c=k+comB (a.data.toList.drop k) (b.data.toList.drop k))(hk:a.size≤k∨b.size≤k):c=k:=by
 rw[comB_end (by rw[zH,zH];exact hk)] at h;exact h
theorem com_ne{a b:ByteArray}{c k:Nat}(h:c=k+comB (a.data.toList.drop k) (b.data.toList.drop k))(h1:k<a.size)(h2:k<b.size)(hn:a[k]≠b[k]):c=k:=by
 rw[comB_ne (by rw[zH];exact h1) (by rw[zH];exact h2) hn] at h;exact h
theorem com_eq{a b:ByteArray}{c k:Nat}(h:c=k+comB (a.data.toList.drop k) (b.data.toList.drop k))(h1:k<a.size)(h2:k<b.size)(hn:a[k]=b[k]):c=(k+1)+comB (a.data.toList.drop (k+1)) (b.data.toList.drop (k+1)):=by
 rw[comB_eq (by rw[zH];exact h1) (by rw[zH];exact h2) hn] at h;omega
theorem zej(a b:ByteArray)(w:World)(ha:a.size≤4503599627370496)(_:b.size≤4503599627370496) :
 Calls Tryz.prog 138 #[.string a,.string b] w fun e w'=>e=.returned (.int .i64 (com a b:Int))∧∃ n,w'=w.drewN n:=by
 obtain⟨c,hc⟩:∃ c,c=com a b:=⟨_,rfl⟩;rw[← hc];have HC:Hid (c=comB a.data.toList b.data.toList):=hc;clear hc;go_enter Tryz.func138,Tryz.ntmps138
 go_wp2;go_loopw [5] (fun i wr=>∃ k:Nat,k≤a.size∧k≤b.size∧i=.int .i64 k∧Hid (c=k+comB (a.data.toList.drop k) (b.data.toList.drop k))∧∃ n,wr=w.drewN n) (fun i _=>a.size-(intOf i).toNat)
 case atStart=>exact⟨0,Nat.zero_le _,Nat.zero_le _,rfl,by unfold Hid;rw[HC.out];simp,0,rfl⟩
 case round =>
  obtain⟨k,hka,hkb,rfl,HK,n,rfl⟩:=hrel;clear HC;by_cases h1:k<a.size
  ·have d1:decide ((k:Int)<(a.size:Int))=true:=(by simp;omega);by_cases h2:k<b.size
   ·have d2:decide ((k:Int)<(b.size:Int))=true:=(by simp;omega);by_cases h3:a[k]=b[k]
    ·have d3:=zo1 h3;have HN:Hid (c=(k+1)+comB (a.data.toList.drop (k+1)) (b.data.toList.drop (k+1))):=com_eq HK.out h1 h2 h3;clear h3 HK;go_wp2;go_quiet (fail)
     go_wp2;go_roundw
     case rel=>exact⟨k+1,by omega,by omega,by go_num,HN,n+_,rfl⟩
     case measure=>simp[intOf];omega
    ·have d3:=zmx h3;have HN:Hid (c=k):=com_ne HK.out h1 h2 h3;clear h3 HK;go_wp2;go_quiet (fail)
     go_wp2;go_ret;exact⟨by have h:=HN.out;subst h;rfl,n+_,drew2 _ _ _⟩
   ·have d2:decide ((k:Int)<(b.size:Int))=false:=(by simp;omega);have HN:Hid (c=k):=zh6 HK.out (.inr (by omega));clear HK;go_wp2;go_quiet (fail)
    go_wp2;go_ret;exact⟨by have h:=HN.out;subst h;rfl,n+_,drew2 _ _ _⟩
  ·have d1:decide ((k:Int)<(a.size:Int))=false:=(by simp;omega);have HN:Hid (c=k):=zh6 HK.out (.inl (by omega));clear HK;go_wp2;go_quiet (fail)
   go_wp2;go_ret;exact⟨by have h:=HN.out;subst h;rfl,n+_,drew2 _ _ _⟩
theorem zea(a b:ByteArray)(w:World)(ha:a.size≤4503599627370496)(hb:b.size≤4503599627370496) :
 Calls Tryz.prog 149 #[.string a,.string b] w fun e w'=>e=.returned (.int .i64 (com a b:Int))∧∃ n,w'=w.drewN n:=by
 obtain⟨c,hc⟩:∃ c,c=com a b:=⟨_,rfl⟩;rw[← hc];have HC:Hid (c=comB a.data.toList b.data.toList):=hc;clear hc;go_enter Tryz.func149,Tryz.ntmps149
 go_wp2;all_goals
  go_loopw [13] (fun i wr=>∃ k:Nat,k≤a.size∧k≤b.size∧i=.int .i64 k∧Hid (c=k+comB (a.data.toList.drop k) (b.data.toList.drop k))∧∃ n,wr=w.drewN n) (fun i _=>a.size-(intOf i).toNat)
  case atStart=>exact⟨0,Nat.zero_le _,Nat.zero_le _,rfl,by unfold Hid;rw[HC.out];simp,0,rfl⟩
  case round =>
   obtain⟨k,hka,hkb,rfl,HK,n,rfl⟩:=hrel;clear HC;by_cases h1:k<a.size
   ·by_cases h2:k<b.size
    ·by_cases h3:a[k]=b[k]
     ·have d3:=zne h3;have HN:Hid (c=(k+1)+comB (a.data.toList.drop (k+1)) (b.data.toList.drop (k+1))):=com_eq HK.out h1 h2 h3;clear h3 HK;go_wp2;go_quiet (fail)
      go_wp2;go_roundw
      case rel=>exact⟨k+1,by omega,by omega,by go_num,HN,n+_,rfl⟩
      case measure=>simp[intOf];omega
     ·have d3:=zlf h3;have HN:Hid (c=k):=com_ne HK.out h1 h2 h3;clear h3 HK;go_wp2;go_quiet (fail)
      go_wp2;go_ret;exact⟨by have h:=HN.out;subst h;rfl,n+_,drew2 _ _ _⟩
    ·first
      | (exfalso;omega)
      | (have HN:Hid (c=k):=zh6 HK.out (.inr (by omega))
         have hke:k=b.size:=(by omega);subst hke;clear HK;go_wp2;go_ret;exact⟨by have h:=HN.out;subst h;rfl,n,rfl⟩)
   ·first
     | (exfalso;omega)
     | (have HN:Hid (c=k):=zh6 HK.out (.inl (by omega))
        have hke:k=a.size:=(by omega);subst hke;clear HK;go_wp2;go_ret;exact⟨by have h:=HN.out;subst h;rfl,n,rfl⟩)
open Go.RowKit
theorem Cur.ltE{w0 w:World}{g:Nat}{v:Value}{bs:List UInt8}{p:Nat}(h:Cur w0 w g v bs p):g<w.heap.size:=(Array.getElem?_eq_some_iff.1 h.blk).1
theorem Cur.block{w0 w w':World}{g:Nat}{v:Value}{bs:List UInt8}{p:Nat}(h:Cur w0 w g v bs p)(hb:w'.heap[g]? = w.heap[g]?)(hl:Below w0.heap.size w0 w'):Cur w0 w' g v bs p:=⟨h.rd,h.ge,hb.trans h.blk,hl,h.le⟩
theorem Cur.below{w0 w w':World}{g:Nat}{v:Value}{bs:List UInt8}{p:Nat}(h:Cur w0 w g v bs p)(hb:Below w.heap.size w w'):Cur w0 w' g v bs p :=
 h.block (hb.block g h.ltE) (h.bel.trans (hb.mono h.bel.size))
theorem Cur.set4{w0 w:World}{g c:Nat}{v:Value}{bs:List UInt8}{p:Nat}(h:Cur w0 w g v bs p)(hc:g<c)(u0 u1 u2 u3:Value)(i j k l:Nat):Cur w0 ((((w.setCell ⟨c,i,none⟩ u0).setCell ⟨c,j,none⟩ u1).setCell ⟨c,k,none⟩ u2).setCell ⟨c,l,none⟩ u3) g v bs p :=
 h.block ((heap_setCell_other _ ⟨c,l,none⟩ g u3 (Nat.ne_of_lt hc)).trans ((heap_setCell_other _ ⟨c,k,none⟩ g u2 (Nat.ne_of_lt hc)).trans ((heap_setCell_other _ ⟨c,j,none⟩ g u1 (Nat.ne_of_lt hc)).trans (heap_setCell_other w ⟨c,i,none⟩ g u0 (Nat.ne_of_lt hc)))))
  (zbv h.bel (Nat.le_of_lt (Nat.lt_of_le_of_lt h.ge hc)) u0 u1 u2 u3 i j k l)
theorem zh7{a w:World}{row:Option Nat}{b j:Nat}{u:Value}(h:a.grownBy w row)(hb:a.heap.size≤b):a.grownBy (w.setCell ⟨b,j,none⟩ u) row :=
 ⟨h.os,h.tape,h.output,by simpa using h.size,fun k hk hr=>by rw[heap_setCell_other w ⟨b,j,none⟩ k u (by simp;omega)];exact h.block k hk hr⟩
theorem zl4{a w:World}{row:Option Nat}{b:Nat}(h:a.grownBy w row)(hb:a.heap.size≤b)(u0 u1 u2 u3:Value)(i j k l:Nat):a.grownBy ((((w.setCell ⟨b,i,none⟩ u0).setCell ⟨b,j,none⟩ u1).setCell ⟨b,k,none⟩ u2).setCell ⟨b,l,none⟩ u3) row :=
 zh7 (zh7 (zh7 (zh7 h hb) hb) hb) hb
theorem zpx(w:World)(o:Obj)(row:Option Nat):w.grownBy (w.alloc o) row :=
 ⟨rfl,rfl,rfl,by simp,fun k hk _=>(ze w o).block k hk⟩
theorem zeZ{a b c:World}{row:Option Nat}(h:a.grownBy b row)(k:b.grownBy c row):a.grownBy c row :=
 ⟨k.os.trans h.os,k.tape.trans h.tape,k.output.trans h.output,nT h.size k.size,fun i hi hr=>(k.block i (Nat.lt_of_lt_of_le hi h.size) hr).trans (h.block i hi hr)⟩
theorem BoxAt.kept{w w':World}{b g:Nat}{x:Ent}(h:BoxAt w b x)(hg:w.grownBy w' (some g))(hn:g<b):BoxAt w' b x:=by
 have hb:=hg.block b h.1.lt (by simp;omega);refine⟨h.1.of_block hb,fun o=>?_⟩;have:=h.2 o;unfold World.frozen? at this ⊢;rw[hb];exact this
def zhV(w0 w:World)(g:Nat)(v:Value)(bs:List UInt8)(p:Nat)(r:Option (Ent×Nat))(e:Ending)(w':World):Prop :=
 ∃ (p':Nat) (x:Ent),e=.returned (.tuple #[.agg #[.string x.key,.string x.val,.int .i64 x.seq,.bool x.gone],.bool r.isSome])∧Cur w0 w' g v bs p'∧w.grownBy w' (some g)∧∀ y k,r=some (y,k)→x=y∧p'=p+k
theorem zcl{w0 w W:World}{g p p':Nat}{v:Value}{bs:List UInt8}{r:Option (Ent×Nat)}(hr:r=none)(hc:Cur w0 W g v bs p')(hg:w.grownBy W (some g))(hl:g<w.heap.size)(u0 u1 u2 u3:Value)(i j k l:Nat) :
 zhV w0 w g v bs p r (.returned (.tuple #[.agg #[.string ⟨#[]⟩,.string ⟨#[]⟩,.int .i64 0,.bool false],.bool false])) ((((W.setCell ⟨w.heap.size,i,none⟩ u0).setCell ⟨w.heap.size,j,none⟩ u1).setCell ⟨w.heap.size,k,none⟩ u2).setCell ⟨w.heap.size,l,none⟩ u3) :=
 ⟨p',zeroE,by rw[hr];rfl,hc.set4 hl _ _ _ _ _ _ _ _,zl4 hg (nR _) _ _ _ _ _ _ _ _,fun y k h=>by rw[hr] at h;cases h⟩
theorem zla{w0 w W:World}{g p p' n:Nat}{v:Value}{bs:List UInt8}{r:Option (Ent×Nat)}{x:Ent}(hr:r=some (x,n))(hp:p'=p+n)(hc:Cur w0 W g v bs p')(hg:w.grownBy W (some g))(hl:g<w.heap.size)(u0 u1 u2 u3:Value)(i j k l:Nat) :
 zhV w0 w g v bs p r (.returned (.tuple #[.agg #[.string x.key,.string x.val,.int .i64 x.seq,.bool x.gone],.bool true])) ((((W.setCell ⟨w.heap.size,i,none⟩ u0).setCell ⟨w.heap.size,j,none⟩ u1).setCell ⟨w.heap.size,k,none⟩ u2).setCell ⟨w.heap.size,l,none⟩ u3) :=
 ⟨p',x,by rw[hr];rfl,hc.set4 hl _ _ _ _ _ _ _ _,zl4 hg (nR _) _ _ _ _ _ _ _ _,fun y m h=>by rw[hr] at h;obtain⟨rfl,rfl⟩:=Prod.mk.inj (Option.some.inj h);exact⟨rfl,hp⟩⟩
theorem zcu(bs:List UInt8):(z6 bs).1.length≤3000:=by
 unfold z6;split
 ·simp
 ·simp only[List.length_take];omega
theorem zkI(last:ByteArray)(n:Nat)(l:List UInt8):last.extract 0 n++⟨l.toArray⟩=⟨(last.data.toList.take n++l).toArray⟩:=by
 apply ByteArray.ext;rw[ByteArray.data_append,ByteArray.data_extract];apply Array.toList_inj.1;simp[Array.toList_extract,List.extract_eq_take_drop]
theorem zmF{last key:ByteArray}{a1 a2 t2 s1 s2 v2:Nat}{t1 v1:List UInt8}(h1:¬ (a2=0∨last.size<a1∨t2=0))(hk:key=⟨(last.data.toList.take a1++t1).toArray⟩)(h2:com last key=a1) :
 zal true last (a1,a2) (t1,t2) (s1,s2) (v1,v2)=if s2=0∨v2=0 then none else some (⟨key,⟨v1.toArray⟩,((s1 / 2:Nat):Int),decide (s1 % 2=1)⟩,a2+t2+s2+v2):=by
 subst hk;unfold zal;rw[if_neg h1,if_neg (by rintro ⟨_,hx⟩;exact hx h2)]
theorem zoO(s:Nat):((s:Int) % 2==1)=decide (s % 2=1):=by
 by_cases h:s % 2=1
 ·rw[decide_eq_true h];simp;omega
 ·rw[decide_eq_false h];simp;omega
theorem zf1(w0 w:World)(g:Nat)(v:Value)(bs:List UInt8)(p:Nat)(last:ByteArray)(h:Cur w0 w g v bs p)(hls:last.size≤1000000) :
 Calls Tryz.prog 163 #[.pointer (some ⟨g,0,none⟩),.string last] w fun e w'=>zhV w0 w g v bs p (rdEnt true last (bs.drop p)) e w':=by
 obtain⟨A,hA⟩:∃ A,rdNum (bs.drop p)=A:=⟨_,rfl⟩;obtain⟨T,hT⟩:∃ T,z6 (bs.drop (p+A.2))=T:=⟨_,rfl⟩;obtain⟨S,hS⟩:∃ S,rdNum (bs.drop (p+A.2+T.2))=S:=⟨_,rfl⟩;obtain⟨V,hV⟩:∃ V,z6 (bs.drop (p+A.2+T.2+S.2))=V:=⟨_,rfl⟩;have RES:rdEnt true last (bs.drop p)=zal true last A T S V:=zcr true last _ A T S V hA (by rw[List.drop_drop];exact hT) (by rw[List.drop_drop,← Nat.add_assoc];exact hS) (by rw[List.drop_drop,← Nat.add_assoc,← Nat.add_assoc];exact hV);rw[RES];clear RES;obtain⟨r,hr⟩:∃ r,r=zal true last A T S V:=⟨_,rfl⟩;rw[← hr];have HR:Hid (r=zal true last A T S V):=hr;clear hr;have HNA:Hid (∀ W,Cur w0 W g v bs p→Calls Tryz.prog 153 #[.pointer (some ⟨g,0,none⟩)] W fun e w'=>zgh w0 W g v bs p A e w'):=fun W hW=>by rw[← hA];exact zdL w0 W g v bs p hW
 have HTT:Hid (∀ W,Cur w0 W g v bs (p+A.2)→Calls Tryz.prog 164 #[.pointer (some ⟨g,0,none⟩)] W fun e w'=>zeT w0 W g v bs (p+A.2) T e w'):=fun W hW=>by rw[← hT];exact zlR w0 W g v bs _ hW
 have HNS:Hid (∀ W,Cur w0 W g v bs (p+A.2+T.2)→Calls Tryz.prog 153 #[.pointer (some ⟨g,0,none⟩)] W fun e w'=>zgh w0 W g v bs (p+A.2+T.2) S e w'):=fun W hW=>by rw[← hS];exact zdL w0 W g v bs _ hW
 have HTV:Hid (∀ W,Cur w0 W g v bs (p+A.2+T.2+S.2)→Calls Tryz.prog 164 #[.pointer (some ⟨g,0,none⟩)] W fun e w'=>zeT w0 W g v bs (p+A.2+T.2+S.2) V e w'):=fun W hW=>by rw[← hV];exact zlR w0 W g v bs _ hW
 have hA1:=(zaP (bs.drop p)).2.1;rw[hA] at hA1;have hT1:=zcu (bs.drop (p+A.2));rw[hT] at hT1;have hS1:=(zaP (bs.drop (p+A.2+T.2))).2.1;rw[hS] at hS1;clear hA hT hS hV;obtain⟨a1,a2⟩:=A;obtain⟨t1,t2⟩:=T;obtain⟨s1,s2⟩:=S;obtain⟨v1,v2⟩:=V;simp only at hA1 hT1 hS1 HNA HTT HNS HTV;have hgl:=h.ltE;have hz:=zd4 w 40;have hc0:=h.below (ze w (.cells #[.string ⟨#[]⟩,.string ⟨#[]⟩,.int .i64 0,.bool false] 40));have hg0:=zpx w (.cells #[.string ⟨#[]⟩,.string ⟨#[]⟩,.int .i64 0,.bool false] 40) (some g);clear h;go_enter Tryz.func163,Tryz.ntmps163
 go_wp2_with fail
 refine(HNA.out _ hc0).mono ?_;rintro e w1 ⟨p1,rfl,hc1,hp1,hg1⟩;have hz1:=hz.kept hg1 hgl;have hgg1:=zeZ hg0 hg1;clear hz hc0 hg0 hg1;by_cases q0:a2=0
 ·skip
  have RES:Hid (r=none):=by unfold Hid;rw[HR.out];unfold zal;rw[if_pos (.inl q0)]
  have hd:decide ((a1,a2).2≠0)=false:=by simp[q0]
  rw[hd];obtain⟨z0,z1,z2,z3,f0,f1,f2,f3⟩:=hz1.facts;clear hp1 q0 hd;go_wp2;exact bodyPost_ret (v:=.tuple #[.agg #[.string ⟨#[]⟩,.string ⟨#[]⟩,.int .i64 0,.bool false],.bool false]) (by simp[results,Tryz.results163,go_sem,z0,z1,z2,z3]) rfl (zcl RES.out hc1 hgg1 hgl _ _ _ _ _ _ _ _)
 have hd:decide ((a1,a2).2≠0)=true:=by simp[q0]
 rw[hd];obtain rfl:p1=p+a2:=hp1 q0;clear hp1 hd;by_cases q1:last.size<a1
 ·skip
  have RES:Hid (r=none):=by unfold Hid;rw[HR.out];unfold zal;rw[if_pos (.inr (.inl q1))]
  obtain⟨z0,z1,z2,z3,f0,f1,f2,f3⟩:=hz1.facts;have q1i:(last.size:Int)<(a1:Int):=by omega
  clear q0;go_wp2;exact bodyPost_ret (v:=.tuple #[.agg #[.string ⟨#[]⟩,.string ⟨#[]⟩,.int .i64 0,.bool false],.bool false]) (by simp[results,Tryz.results163,go_sem,z0,z1,z2,z3]) rfl (zcl RES.out hc1 hgg1 hgl _ _ _ _ _ _ _ _)
 go_wp2_with fail
 refine(HTT.out _ hc1).mono ?_;rintro e w2 ⟨p2,rfl,hc2,hp2,hg2⟩;have hz2:=hz1.kept hg2 hgl;have hgg2:=zeZ hgg1 hg2;clear hz1 hc1 hgg1 hg2;by_cases q2:t2=0
 ·skip
  have RES:Hid (r=none):=by unfold Hid;rw[HR.out];unfold zal;rw[if_pos (.inr (.inr q2))]
  have hd:decide ((t1,t2).2≠0)=false:=by simp[q2]
  rw[hd];obtain⟨z0,z1,z2,z3,f0,f1,f2,f3⟩:=hz2.facts;clear hp2 q2 hd q0;go_wp2;exact bodyPost_ret (v:=.tuple #[.agg #[.string ⟨#[]⟩,.string ⟨#[]⟩,.int .i64 0,.bool false],.bool false]) (by simp[results,Tryz.results163,go_sem,z0,z1,z2,z3]) rfl (zcl RES.out hc2 hgg2 hgl _ _ _ _ _ _ _ _)
 have hd:decide ((t1,t2).2≠0)=true:=by simp[q2]
 rw[hd];obtain rfl:p2=p+a2+t2:=hp2 q2;clear hp2 hd;have hkc:=zkI last a1 t1;obtain⟨key,hk⟩:∃ key:ByteArray,key=⟨(last.data.toList.take a1++t1).toArray⟩:=⟨_,rfl⟩;have hks:key.size≤1003000:=by
  rw[hk];show (last.data.toList.take a1++t1).toArray.size≤1003000;have:=zH last;simp only[List.size_toArray,lA,List.length_take];omega
 rw[← hk] at hkc;have HK:Hid (key=⟨(last.data.toList.take a1++t1).toArray⟩):=hk;have HKC:Hid (last.extract 0 a1++⟨t1.toArray⟩=key):=hkc;clear hk hkc;go_wp2_with fail
 rw[HKC.out];refine(zea last key _ (by omega) (by omega)).mono ?_;rintro e w3 ⟨rfl,n3,rfl⟩;have hz3:BoxAt (w2.drewN n3) w.heap.size zeroE:=hz2;have hc3:=hc2.drewN n3;have hgg3:=zbw hgg2 n3;clear hz2 hc2 hgg2;generalize w2.drewN n3=W3 at hz3 hc3 hgg3 ⊢;have HQ:Hid (¬ (a2=0∨last.size<a1∨t2=0)):=by unfold Hid;omega
 clear q0 q2;by_cases q3:com last key=a1
 ·have hne:((com last key:Int) != (a1:Int))=false:=by rw[q3];simp
  have HQ2:Hid (r=if s2=0∨v2=0 then none else some (⟨key,⟨v1.toArray⟩,((s1 / 2:Nat):Int),decide (s1 % 2=1)⟩,a2+t2+s2+v2)):=by unfold Hid;rw[HR.out];exact zmF HQ.out HK.out q3
  clear q3;generalize com last key=cc at hne ⊢;go_wp2_with fail
  refine(HNS.out _ hc3).mono ?_;rintro e w4 ⟨p4,rfl,hc4,hp4,hg4⟩;have hz4:=hz3.kept hg4 hgl;have hgg4:=zeZ hgg3 hg4;clear hz3 hc3 hgg3 hg4;by_cases q4:s2=0
  ·skip
   have RES:Hid (r=none):=(by unfold Hid;rw[HQ2.out,if_pos (.inl q4)]);have hd:decide ((s1,s2).2≠0)=false:=(by simp[q4]);rw[hd];obtain⟨z0,z1,z2,z3,f0,f1,f2,f3⟩:=hz4.facts;clear hp4 q4 hd;go_wp2;exact bodyPost_ret (v:=.tuple #[.agg #[.string ⟨#[]⟩,.string ⟨#[]⟩,.int .i64 0,.bool false],.bool false]) (by simp[results,Tryz.results163,go_sem,z0,z1,z2,z3]) rfl (zcl RES.out hc4 hgg4 hgl _ _ _ _ _ _ _ _)
  have hd:decide ((s1,s2).2≠0)=true:=by simp[q4]
  rw[hd];obtain rfl:p4=p+a2+t2+s2:=hp4 q4;clear hp4 hd;go_wp2_with fail
  refine(HTV.out _ hc4).mono ?_;rintro e w5 ⟨p5,rfl,hc5,hp5,hg5⟩;have hz5:=hz4.kept hg5 hgl;have hgg5:=zeZ hgg4 hg5;clear hz4 hc4 hgg4 hg5;obtain⟨z0,z1,z2,z3,f0,f1,f2,f3⟩:=hz5.facts;by_cases q5:v2=0
  ·skip
   have RES:Hid (r=none):=(by unfold Hid;rw[HQ2.out,if_pos (.inr q5)]);have hd:decide ((v1,v2).2≠0)=false:=(by simp[q5]);rw[hd];clear hp5 q5 hd q4;go_wp2;exact bodyPost_ret (v:=.tuple #[.agg #[.string ⟨#[]⟩,.string ⟨#[]⟩,.int .i64 0,.bool false],.bool false]) (by simp[results,Tryz.results163,go_sem,z0,z1,z2,z3]) rfl (zcl RES.out hc5 hgg5 hgl _ _ _ _ _ _ _ _)
  have hd:decide ((v1,v2).2≠0)=true:=by simp[q5]
  rw[hd];obtain rfl:p5=p+a2+t2+s2+v2:=hp5 q5;have RES:Hid (r=some (⟨key,⟨v1.toArray⟩,((s1 / 2:Nat):Int),decide (s1 % 2=1)⟩,a2+t2+s2+v2)):=by unfold Hid;rw[HQ2.out,if_neg (by omega)]
  clear hp5 q5 hd q4;have e1:(s1:Int) / 2=((s1 / 2:Nat):Int):=by omega
  have e2:=zoO s1;have HE1:Hid ((s1:Int) / 2=((s1 / 2:Nat):Int)):=e1;have HE2:Hid (((s1:Int) % 2==1)=decide (s1 % 2=1)):=e2;clear e1 e2;go_wp2;rw[HE1.out,HE2.out];refine bodyPost_ret (v:=.tuple #[.agg #[.string key,.string ⟨v1.toArray⟩,.int .i64 ((s1 / 2:Nat):Int),.bool (decide (s1 % 2=1))],.bool true]) (by simp[results,Tryz.results163,go_sem,z0,z1,z2,z3]) rfl ?_;exact zla (x:=⟨key,⟨v1.toArray⟩,((s1 / 2:Nat):Int),decide (s1 % 2=1)⟩) RES.out (by omega) hc5 hgg5 hgl _ _ _ _ _ _ _ _
 ·skip
  have hne:((com last key:Int) != (a1:Int))=true:=by simp;omega
  have RES:Hid (r=none):=by unfold Hid;rw[HR.out];unfold zal;rw[if_neg HQ.out,if_pos ⟨rfl,by rw[← HK.out];exact q3⟩]
  clear q3;generalize com last key=cc at hne ⊢;obtain⟨z0,z1,z2,z3,f0,f1,f2,f3⟩:=hz3.facts;go_wp2;exact bodyPost_ret (v:=.tuple #[.agg #[.string ⟨#[]⟩,.string ⟨#[]⟩,.int .i64 0,.bool false],.bool false]) (by simp[results,Tryz.results163,go_sem,z0,z1,z2,z3]) rfl (zcl RES.out hc3 hgg3 hgl _ _ _ _ _ _ _ _)
open Go.RowKit
theorem or_at(x y z:Int)(b:Nat)(w:World)(hz:z=if x≠0 then x else y)(h0:w.cell? ⟨b,0,none⟩=some (.int .i64 x))(h1:w.cell? ⟨b,1,none⟩=some (.int .i64 y))(bx : -1≤x∧x≤1)(hy1 : -1≤y∧y≤1) :
 Calls Tryz.prog 125 #[.slice (some ⟨b,0,none⟩) 2 2] w fun e w'=>e=.returned (.int .i64 z)∧w'=w:=by
 subst hz;exact or_any x y b w h0 h1 bx hy1
theorem zaG(a b:Ent)(w:World) :
 Calls Tryz.prog 100 #[.agg #[.string a.key,.string a.val,.int .i64 a.seq,.bool a.gone],.agg #[.string b.key,.string b.val,.int .i64 b.seq,.bool b.gone]] w fun e w'=>e=.returned (.int .i64 (ordE a b))∧Below w.heap.size w w':=by
 have bx:=zpt a.key b.key;have hy1:=zkm b.seq a.seq;have hz:Hid (ordE a b=if cmpK a.key b.key≠0 then cmpK a.key b.key else cmpI b.seq a.seq):=rfl;go_enter Tryz.func100,Tryz.ntmps100
 go_wp2;go_region_held3 (fun w'=>w'.cell? ⟨w.heap.size,0,none⟩=some (.string a.key)∧w'.cell? ⟨w.heap.size+1,0,none⟩=some (.string b.key)∧w'.cell? ⟨w.heap.size,2,none⟩=some (.int .i64 a.seq)∧w'.cell? ⟨w.heap.size+1,2,none⟩=some (.int .i64 b.seq)) (go_keep)
  (first
   | (go_at_call 126;refine(zmR _ _ _).mono ?_;rintro e w' ⟨rfl,rfl⟩)
   | (go_at_call 127;refine(znq _ _ _).mono ?_;rintro e w' ⟨rfl,rfl⟩)
   | (go_at_call 125;refine(or_at (cmpK a.key b.key) (cmpI b.seq a.seq) (ordE a b) _ _ hz.out (by simp[World.cell?_alloc_at]) (by simp[World.cell?_alloc_at]) bx hy1).mono ?_;rintro e w' ⟨rfl,rfl⟩))
 all_goals go_wp2
 all_goals go_ret
 all_goals exact⟨rfl,((zdl _ _ _).alloc (by simp;omega) _).drew⟩
open Go.RowKit
theorem zem(a:Ent)(w:World)(hf:Fits a)(h:okE a=true) :
 Calls Tryz.prog 99 #[.agg #[.string a.key,.string a.val,.int .i64 a.seq,.bool a.gone]] w fun e w'=>e=.returned (.bool true)∧Below w.heap.size w w':=by
 have:=zgT a w hf;rwa [h] at this
theorem zmX(a:Ent)(w:World)(hf:Fits a)(h:okE a=false) :
 Calls Tryz.prog 99 #[.agg #[.string a.key,.string a.val,.int .i64 a.seq,.bool a.gone]] w fun e w'=>e=.returned (.bool false)∧Below w.heap.size w w':=by
 have:=zgT a w hf;rwa [h] at this
theorem zau(W:World)(x:Ent)(t:TypeId):EntAt (W.alloc (.cells #[.string x.key,.string x.val,.int .i64 x.seq,.bool x.gone] t)) W.heap.size 0 x :=
 ⟨by simp[World.cell?_alloc_at],by simp[World.cell?_alloc_at],by simp[World.cell?_alloc_at],by simp[World.cell?_alloc_at]⟩
theorem EntAt.alloc{w:World}{b o:Nat}{e:Ent}(h:EntAt w b o e)(x:Obj):EntAt (w.alloc x) b o e:=h.below (ze _ _)
theorem zpj{a b:Ent}(h:ahd a b=true):ordE a b<0:=(zfT a b).2 h
theorem znN{a b:Ent}(h:ahd a b=false):0≤ordE a b:=by
 rcases Int.lt_or_le (ordE a b) 0 with h1 | h1
 ·rw[(zfT a b).1 h1] at h;cases h
 ·exact h1
theorem zaz(v:Value)(es:List Ent)(w:World)(hr:RdE w v es)(hf:∀ e∈es,Fits e) :
 Calls Tryz.prog 61 #[v] w fun e w'=>e=.returned (.bool (okL es))∧Below w.heap.size w w':=by
 obtain⟨a,cap,hv,hl,hm,_⟩:=id hr;unfold maxLen at hm;subst hv;have HF:Hid (∀ e∈es,Fits e):=hf;clear hf;by_cases hbig:300<es.length
 ·go_enter Tryz.func61,Tryz.ntmps61
  go_wp2;go_ret;exact⟨zN (by simp[okL];omega),Below.refl _ _⟩
 ·go_enter Tryz.func61,Tryz.ntmps61
  go_wp2;go_loopw [10] (fun i wr=>∃ k:Nat,k≤es.length∧i=.int .i64 k∧Hid (okTo es k=true)∧Below w.heap.size w wr) (fun i _=>es.length-(intOf i).toNat)
  case atStart=>exact⟨0,Nat.zero_le _,rfl,rfl,Below.refl _ _⟩
  case round =>
   obtain⟨k,hk,rfl,HO,hb⟩:=hrel;by_cases hlt:k<es.length
   ·obtain⟨b,off,rfl,hc⟩:=hr.at rfl k hlt;have hc2:=hc.below hb;have hlt2:=hc2.lt;obtain⟨c0,c1,c2,c3⟩:=hc2;have hfk:=HF.out _ (List.getElem_mem hlt);rw[← zU hlt] at hfk;obtain⟨x,hx⟩:∃ x,x=nth es k:=⟨_,rfl⟩;rw[← hx] at c0 c1 c2 c3 hfk;have HX:Hid (x=nth es k):=hx;clear hx hc;cases hok:okE x with
    | false =>
     have RES:Hid (okL es=false):=zeC hlt (by unfold okAt;rw[← HX.out,hok];rfl);go_wp2_with fail
     refine brg (S:=fun w'=>EntAt w' wr.heap.size 0 x) (zau _ _ _) (fun hH=>?_);refine kA 0 15 hH ?_;refine rdy 1 (fun K hK=>?_);go_simp;refine(zmX x _ hfk hok).mono ?_;rintro e w' ⟨rfl,hb'⟩;refine hK.out _ _ (hH.below hb') (fun hA=>?_);clear hK K;try simp only[Act.put,sA,sZ,sS]
     refine kA 2 17 hA ?_;refine kA 3 18 hA ?_;refine kS 4 19 hA ?_;refine kS 5 20 hA ?_;refine kS 6 21 hA ?_;refine kS 7 22 hA ?_;refine kS 8 23 hA ?_;refine kS 9 24 hA ?_;refine kS 10 25 hA ?_;refine kS 11 26 hA ?_;refine kS 12 27 hA ?_;refine kS 13 28 hA ?_;refine kS 14 29 hA ?_;refine kS 15 30 hA ?_;refine kA 16 31 hA ?_;refine dne ?_;go_wp2;go_ret;exact⟨zN RES.out.symm,(hb.alloc hb.size _).drew.trans (hb'.mono (by have:=hb.size;simp;omega))⟩
    | true =>
     by_cases hk0:k=0
     ·skip
      have HO2:Hid (okTo es (k+1)=true):=by
       show _=_;rw[zeQ,HO.out];unfold okAt;rw[← HX.out,hok];simp[hk0]
      have hkn:decide (0<k)=false:=(by simpa using hk0);clear hk0;go_wp2_with fail
      refine brg (S:=fun w'=>EntAt w' wr.heap.size 0 x) (zau _ _ _) (fun hH=>?_);refine kA 0 15 hH ?_;refine rdy 1 (fun K hK=>?_);go_simp;refine(zem x _ hfk hok).mono ?_;rintro e w' ⟨rfl,hb'⟩;refine hK.out _ _ (hH.below hb') (fun hA=>?_);clear hK K;try simp only[Act.put,sA,sZ,sS]
      refine kA 2 17 hA ?_;refine kA 3 18 hA ?_;refine kA 4 19 hA ?_;refine kA 5 20 hA ?_;refine kA 6 21 hA ?_;refine kS 7 22 hA ?_;refine kS 8 23 hA ?_;refine kS 9 24 hA ?_;refine kS 10 25 hA ?_;refine kS 11 26 hA ?_;refine kS 12 27 hA ?_;refine kS 13 28 hA ?_;refine kS 14 29 hA ?_;refine kA 15 30 hA ?_;refine kA 16 31 hA ?_;refine dne ?_;go_wp2;go_roundw
      case rel=>exact⟨k+1,by omega,by go_num,HO2,(hb.alloc hb.size _).drew.trans (hb'.mono (by have:=hb.size;simp;omega))⟩
      case measure=>simp[intOf];omega
     ·skip
      obtain⟨b2,off2,ha2,hd⟩:=hr.at rfl (k-1) (by omega);simp only[Option.some.injEq,Addr.mk.injEq] at ha2;obtain⟨rfl,rfl,_⟩:=ha2;have hd2:=hd.below hb;obtain⟨y,hy⟩:∃ y,y=nth es (k-1):=⟨_,rfl⟩;rw[← hy] at hd2;have HY:Hid (y=nth es (k-1)):=hy;clear hy hd;obtain⟨j,hj⟩:∃ j,j=k-1:=⟨k-1,rfl⟩;rw[← hj] at hd2;have hkj:(k:Int)-1=(j:Int):=(by omega);have hkp:decide (0<k)=true:=(by simp;omega);have hj0:(0:Int)≤(j:Int):=(by omega);have hjn:j<es.length:=(by omega);have hwr:IntKind.i64.wrap (j:Int)=(j:Int):=(by rw[IntKind.wrap_i64];omega);have HK0:Hid (k≠0):=hk0;clear hj hk0;cases hah:ahd y x with
      | false =>
       have hor:=znN hah;have RES:Hid (okL es=false):=zeC hlt (by unfold okAt;rw[← HX.out,← HY.out,hok,hah];simpa using HK0.out);go_wp2_with fail
       refine brg (S:=fun w'=>EntAt w' wr.heap.size 0 x∧EntAt w' b (off+j*4) y) ⟨zau _ _ _,hd2.alloc _⟩ (fun hH=>?_);refine kA 0 15 hH ?_;refine rdy 1 (fun K hK=>?_);go_simp;refine(zem x _ hfk hok).mono ?_;rintro e w' ⟨rfl,hb'⟩;refine hK.out _ _ ⟨hH.1.below hb',hH.2.below hb'⟩ (fun hA=>?_);clear hK K;try simp only[Act.put,sA,sZ,sS]
       refine kA 2 17 hA ?_;refine kA 3 18 hA ?_;refine kA 4 19 hA ?_;refine kA 5 20 hA ?_;refine kA 6 21 hA ?_;refine kA 7 22 hA ?_;refine kA 8 23 hA ?_;refine kA 9 24 hA ?_;refine kA 10 25 hA ?_;refine kA 11 26 hA ?_;refine kA 12 27 hA ?_;refine rdy 13 (fun K hK=>?_);go_simp;refine(zaG y x _).mono ?_;rintro e w2 ⟨rfl,hb2⟩;refine hK.out _ _ ⟨hA.1.below hb2,hA.2.below hb2⟩ (fun hB=>?_);clear hK K;try simp only[Act.put,sA,sZ,sS]
       refine kA 14 29 hB ?_;refine kA 15 30 hB ?_;refine kA 16 31 hB ?_;refine dne ?_;have bz:=((hb.alloc hb.size _).drew.trans (hb'.mono (by have:=hb.size;simp;omega))).trans (hb2.mono (by have:=hb.size;have:=hb'.size;simp at this;omega));go_wp2;go_ret;exact⟨zN RES.out.symm,bz⟩
      | true =>
       have hor:=zpj hah;have HO2:Hid (okTo es (k+1)=true):=by
        show _=_;rw[zeQ,HO.out];unfold okAt;rw[← HX.out,← HY.out,hok,hah];simp
       go_wp2_with fail
       refine brg (S:=fun w'=>EntAt w' wr.heap.size 0 x∧EntAt w' b (off+j*4) y) ⟨zau _ _ _,hd2.alloc _⟩ (fun hH=>?_);refine kA 0 15 hH ?_;refine rdy 1 (fun K hK=>?_);go_simp;refine(zem x _ hfk hok).mono ?_;rintro e w' ⟨rfl,hb'⟩;refine hK.out _ _ ⟨hH.1.below hb',hH.2.below hb'⟩ (fun hA=>?_);clear hK K;try simp only[Act.put,sA,sZ,sS]
       refine kA 2 17 hA ?_;refine kA 3 18 hA ?_;refine kA 4 19 hA ?_;refine kA 5 20 hA ?_;refine kA 6 21 hA ?_;refine kA 7 22 hA ?_;refine kA 8 23 hA ?_;refine kA 9 24 hA ?_;refine kA 10 25 hA ?_;refine kA 11 26 hA ?_;refine kA 12 27 hA ?_;refine rdy 13 (fun K hK=>?_);go_simp;refine(zaG y x _).mono ?_;rintro e w2 ⟨rfl,hb2⟩;refine hK.out _ _ ⟨hA.1.below hb2,hA.2.below hb2⟩ (fun hB=>?_);clear hK K;try simp only[Act.put,sA,sZ,sS]
       refine kA 14 29 hB ?_;refine kA 15 30 hB ?_;refine kA 16 31 hB ?_;refine dne ?_;have bz:=((hb.alloc hb.size _).drew.trans (hb'.mono (by have:=hb.size;simp;omega))).trans (hb2.mono (by have:=hb.size;have:=hb'.size;simp at this;omega));go_wp2;go_roundw
       case rel=>exact⟨k+1,by omega,by go_num,HO2,bz⟩
       case measure=>simp[intOf];omega
   ·have hke:k=es.length:=(by omega);subst hke;go_wp2;go_ret;exact⟨zN (by simp[okL,HO.out];omega),hb⟩
end Go.Proofs.YtjlnchhgkfnldaaGreat
