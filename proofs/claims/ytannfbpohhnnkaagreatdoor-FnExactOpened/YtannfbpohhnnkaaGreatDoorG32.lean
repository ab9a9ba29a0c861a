import Derived.Test.YtannfbpohhnnkaaGreatDoorG31
import Derived.Lib.SliceRun
import Derived.ChangeKeysEq
import Derived.Deep.RegionHeld3
namespace Go.Proofs.YtannfbpohhnnkaaGreatDoor
set_option maxHeartbeats 16000000
set_option maxRecDepth 100000
open Go.RowKit
def allI(T:Tbl):List Ent×Bool:=if (allL T).2=true then allL T else ([],false)
theorem zpF{T:Tbl}(h:allL T=([],false)):allI T=([],false):=by unfold allI;rw[h];rfl
theorem allI_is{T:Tbl}{es:List Ent}(h:allL T=(es,okL es)):allI T=if okL es=true then (es,true) else ([],false):=by
 unfold allI;rw[h];simp only;split
 ·rename_i h2;rw[h2]
 ·rfl
theorem zez(T:Tbl)(vk:Value)(w:World)(hr:RdS w vk T.blocks)(hz:∀ s∈T.blocks,s.size≤1000000000) :
 Calls Tryz.prog 202 #[vk] w fun e w'=>zbn w (allI T) e w':=by
 obtain⟨ak,ck,hvk,hl,hm,_⟩:=id hr;obtain⟨kn,hkn⟩:∃ kn,kn=T.blocks.length:=⟨_,rfl⟩;have HKN:Hid (kn=T.blocks.length):=hkn;rw[← hkn] at hl hvk;subst hvk;clear hkn;unfold maxLen at hm;have HZ:Hid (∀ s∈T.blocks,s.size≤1000000000):=hz;clear hz;obtain⟨F,hF⟩:∃ F,F=allI T:=⟨_,rfl⟩;rw[← hF];have HF:Hid (F=allI T):=hF;clear hF;by_cases hbad:kn<1∨40<kn
 ·have RES:Hid (F=([],false)):=by unfold Hid;rw[HF.out];exact zpF (by unfold allL;rw[← HKN.out,if_pos hbad])
  have hoE:=zS w;rcases hbad with hb1 | hb1
  ·have hd1:decide ((kn:Int)<1)=true:=by simp;omega
   go_enter Tryz.func202,Tryz.ntmps202
   go_wp2;go_ret2
   exact zl RES.out hoE (Nat.le_refl _) (za _ _)
  ·have hd1:decide ((kn:Int)<1)=false:=by simp;omega
   have hd2:decide (40<(kn:Int))=true:=by simp;omega
   go_enter Tryz.func202,Tryz.ntmps202
   go_wp2;go_ret2
   exact zl RES.out hoE (Nat.le_refl _) (za _ _)
 obtain⟨res,hres⟩:∃ res,res=allF T.blocks []:=⟨_,rfl⟩;have HR0:Hid (allF (T.blocks.drop 0) []=res):=by rw[List.drop_zero];exact hres.symm
 have R0:Hid (res=none→F=([],false)):=fun h=>by rw[HF.out];exact zpF (by unfold allL;rw[← HKN.out,if_neg hbad,← hres,h])
 have R1:Hid (∀ es,res=some es→F=if okL es=true then (es,true) else ([],false)):=fun es h=>by rw[HF.out];exact allI_is (by unfold allL;rw[← HKN.out,if_neg hbad,← hres,h])
 clear hres HF;have hk1:1≤kn:=by omega
 have hk2:kn≤40:=by omega
 have hd1:decide ((kn:Int)<1)=false:=by simp;omega
 have hd2:decide (40<(kn:Int))=false:=by simp;omega
 have hoE:=zS w;have b1:=za w (.cells #[] 94);clear hbad;go_enter Tryz.func202,Tryz.ntmps202
 go_wp2;go_loopw [4,21] (fun u i wr=>∃ (k:Nat) (es:List Ent),k≤kn∧i=.int .i64 k∧Hid (allF (T.blocks.drop k) es=res)∧es.length≤8*k∧Hid (∀ x∈es,Fits x)∧OwnE wr w.heap.size u es∧Below w.heap.size w wr) (fun _ i _=>kn-(intOf i).toNat)
 case atStart=>exact⟨0,[],Nat.zero_le _,rfl,HR0,Nat.zero_le _,(fun x hx=>by cases hx),hoE,b1⟩
 case round =>
  obtain⟨k,es,hk,rfl,HA,hel,HFT,ho,hb⟩:=hrel;clear hoE b1 HR0;by_cases hlt:k<kn
  ·have hltb:k<T.blocks.length:=by rw[← HKN.out];exact hlt
   obtain⟨b,off,rfl,hcs⟩:=(hr.below hb).at k hltb;obtain⟨s,hs⟩:∃ s,s=T.blocks[k]:=⟨_,rfl⟩;rw[← hs] at hcs;have hsz:s.size≤1000000000:=by rw[hs];exact HZ.out _ (List.getElem_mem hltb)
   have HA2:Hid (allF (s::T.blocks.drop (k+1)) es=res):=by rw[hs,← List.drop_eq_getElem_cons hltb];exact HA
   clear hs HA;have hcb:=zcB wr s;have hrd:=ze6 wr s (by unfold maxLen;omega);have hbb:=zbH wr s;generalize Lib.bytesWorld wr 5 s=W at hcb hrd hbb;generalize grownCap wr s.size 0 5=c0 at hcb hrd;obtain⟨F2,hF2⟩:∃ F2,F2=unpI s.data.toList:=⟨_,rfl⟩;have HCU:Hid (Calls Tryz.prog 227 #[.slice (some ⟨wr.heap.size,0,none⟩) s.size c0] W fun e w'=>zbn W F2 e w'):=by rw[hF2];exact zgc _ _ _ hrd
   have HFF:Hid (∀ x∈F2.1,Fits x):=by rw[hF2];exact zjz _
   have HNO:Hid (¬ (F2.2=true∧1≤F2.1.length∧F2.1.length≤8)→F=([],false)):=fun h=>R0.out (by rw[← HA2.out];exact zoS (by rw[← hF2];exact h))
   have HGO:Hid (F2.2=true∧1≤F2.1.length∧F2.1.length≤8→allF (T.blocks.drop (k+1)) (es++F2.1)=res):=fun h=>by rw[← HA2.out,zqD (by rw[← hF2];exact h),← hF2]
   clear hF2 hrd HA2;obtain⟨l,is⟩:=F2;have ho2:=ho.below hbb;have b2:=hb.trans (hbb.mono hb.size);clear ho hb hbb;go_wp2_with fail
   refine HCU.out.mono ?_;rintro e w3 ⟨ul,rfl,hl3,hb3⟩;simp only at hl3 HNO HGO HFF ⊢;have ho3:=ho2.below hb3;have b3:=b2.trans (hb3.mono b2.size);clear ho2 b2 hb3 HCU hcb hcs;obtain⟨al,cl,hvl,hl1,hl2,_⟩:=id hl3.rd;obtain⟨ln,hln⟩:∃ ln,ln=l.length:=⟨_,rfl⟩;rw[← hln] at hvl hl1 HNO HGO;have HLN:Hid (ln=l.length):=hln;subst hvl;unfold maxLen at hl2;clear hln;cases is with
   | false =>
    have RES:Hid (F=([],false)):=HNO.out (by simp);go_wp2;go_ret2
    exact zl RES.out (zt w3) b3.size (b3.alloc b3.size _)
   | true =>
    by_cases q1:ln<1
    ·skip
     have RES:Hid (F=([],false)):=HNO.out (by omega);have q1d:decide ((ln:Int)<1)=true:=by simp;omega
     go_wp2;go_ret2
     exact zl RES.out (zt w3) b3.size (b3.alloc b3.size _)
    ·have q1d:decide ((ln:Int)<1)=false:=by simp;omega
     by_cases q2:8<ln
     ·skip
      have RES:Hid (F=([],false)):=HNO.out (by omega);have q2d:decide (8<(ln:Int))=true:=by simp;omega
      go_wp2;go_ret2
      exact zl RES.out (zt w3) b3.size (b3.alloc b3.size _)
     ·skip
      have q2d:decide (8<(ln:Int))=false:=by simp;omega
      have HA4:Hid (allF (T.blocks.drop (k+1)) (es++l)=res):=HGO.out ⟨rfl,by omega,by omega⟩;have HFT4:Hid (∀ x∈es++l,Fits x):=fun x hx=>by
       rcases List.mem_append.1 hx with h | h
       ·exact HFT.out x h
       ·exact HFF.out x h
      have hel4:(es++l).length≤8*(k+1):=by rw[List.length_append,← HLN.out];omega
      go_wp2_with (at_builtin;(refine zi rfl _ _ rfl w.heap.size _ _ es l rfl rfl ho3 hl3.rd (by rw[← HLN.out];omega) b3.size ?_))
      intro v5 w5 ho5 hg5;have b5:=b3.grown hg5 b3.size (fun j hj=>(World.ownsRow.lt ho3 j hj).1);clear ho3 b3 hl3 hg5;go_wp2;go_roundw
      case rel=>exact⟨k+1,es++l,by omega,by go_num,HA4,hel4,HFT4,ho5,b5⟩
      case measure=>simp[intOf];omega
  ·skip
   have hke:k=kn:=by omega
   have RES:Hid (F=if okL es=true then (es,true) else ([],false)):=R1.out es (by have:=HA.out;rw[hke,HKN.out,List.drop_eq_nil_of_le (Nat.le_refl _),allF] at this;exact this.symm);have hlt2:¬ (k:Int)<(kn:Int):=by omega
   clear hke HA;have HCE:=zaj u4 es wr ho.rd HFT.out;cases hok:okL es with
   | false =>
    rw[hok] at HCE;have RES2:Hid (F=([],false)):=by have:=RES.out;rw[hok] at this;exact this
    have HC2:Hid (Calls Tryz.prog 151 #[u4] wr fun e w'=>e=.returned (.bool false)∧Below wr.heap.size wr w'):=HCE;clear hok HCE RES;go_wp2_with fail
    refine HC2.out.mono ?_;rintro e w3 ⟨rfl,hb3⟩;have b3:=hb.trans (hb3.mono hb.size);clear HC2;go_wp2;go_ret2
    exact zl RES2.out (zt w3) b3.size (b3.alloc b3.size _)
   | true =>
    rw[hok] at HCE;have RES2:Hid (F=(es,true)):=by have:=RES.out;rw[hok] at this;exact this
    have HC2:Hid (Calls Tryz.prog 151 #[u4] wr fun e w'=>e=.returned (.bool true)∧Below wr.heap.size wr w'):=HCE;clear hok HCE RES;go_wp2_with fail
    refine HC2.out.mono ?_;rintro e w3 ⟨rfl,hb3⟩;have ho3:=ho.below hb3;have b3:=hb.trans (hb3.mono hb.size);clear HC2;go_wp2;go_ret2
    exact zcR RES2.out ho3 (Nat.le_refl _) b3
theorem zbZ{w:World}{ops:Array Oper}{rest:List Oper}{o:Oper}{a:Act}{Q:Exit→Act→World→Prop}(hgd:o.guard=none)(s x:Operand)
 (ho:o.op=.call { callee:=.builtin .append,args:=#[s,x],argTypes:=#[96,96] }) (base bP:Nat) (v:Value) (ys:List ByteArray) (y:ByteArray) (hs:a.eval s=v) (hx:a.eval x=.slice (some ⟨bP,0,none⟩) 1 1) (hown:OwnS w base v ys) (hc:w.cell? ⟨bP,0,none⟩=some (.string y)) (hl:ys.length≤1000000) (hbase:base≤w.heap.size)
 (h:∀ v' w',OwnS w' base v' (ys++[y])→w.grownBy w' v.ownBlock→wpList Tryz.prog ops Q rest (a.put o.dst v') w'):wpList Tryz.prog ops Q (o::rest) a w:=by
 refine wpList_plain hgd fun K hK=>?_
 obtain⟨v',w',hrun,r1,r2⟩:=zdf o.type hown hc hl hbase;unfold Oper.wp;simp[execOp,ho,resolve,invoke,builtin,hs,hx,hrun,Result.andThen];exact hK _ _ (h v' w' r1 r2)
theorem zqI(es:List Ent)(i j:Nat)(hj:j=min (i+8) es.length):(es.take j).drop i=chunk es i:=by
 unfold chunk;have:es.take j=es.take (i+8):=by
  rw[hj];by_cases h:i+8≤es.length
  ·rw[Nat.min_eq_left h]
  ·rw[Nat.min_eq_right (by omega),List.take_of_length_le (Nat.le_refl _),List.take_of_length_le (by omega)]
 rw[this,List.drop_take];congr 1
 omega
theorem zgg(v:Value)(es:List Ent)(w:World)(hr:RdE w v es)(hok:okL es=true) :
 Calls Tryz.prog 189 #[v] w fun e w'=>∃ u,e=.returned u∧OwnS w' w.heap.size u (blksL es)∧Below w.heap.size w w':=by
 have hlen:=zZ hok;have HF:Hid (∀ e∈es,Fits e):=zgG hok;have HOK:Hid (okL es=true):=hok;clear hok;obtain⟨a,cap,hv,hl,hm,_⟩:=id hr;obtain⟨nn,hnn⟩:∃ nn,nn=es.length:=⟨_,rfl⟩;have HNN:Hid (nn=es.length):=hnn;rw[← hnn] at hv hl hlen;subst hv;unfold maxLen at hm;obtain⟨R,hR⟩:∃ R,R=blksL es:=⟨_,rfl⟩;rw[← hR];have HR:Hid ([]++blkF es ((nn+7) / 8) (8*0)=R):=by rw[hR,hnn];rfl
 clear hR hnn;have ho0:=zR w;have hb0:=za w (.cells #[] 9);go_enter Tryz.func189,Tryz.ntmps189
 go_wp2;go_loopg [3,4] ((nn+7) / 8) (fun gg u i wr=>∃ (k:Nat) (ss:List ByteArray),k+gg=(nn+7) / 8∧i=.int .i64 ((8*k:Nat):Int)∧Hid (ss++blkF es gg (8*k)=R)∧ss.length=k∧OwnS wr w.heap.size u ss∧Below w.heap.size w wr)
 case atStart=>exact⟨0,[],by omega,rfl,HR,rfl,ho0,hb0⟩
 case round =>
  obtain⟨k,ss,hkg,rfl,HB,hsl,ho,hb⟩:=hrel;clear ho0 hb0 HR;obtain⟨q,hq⟩:∃ q,q=8*k:=⟨_,rfl⟩;rw[← hq] at HB ⊢;have HQ:Hid (q=8*k):=hq;have HSL:Hid (ss.length=k):=hsl;have HKG:Hid (k+gk=(nn+7) / 8):=hkg;clear hq hsl hkg;by_cases hlt:q<nn
  ·cases gk with
   | zero=>exfalso;have:=HQ.out;have:=HKG.out;omega
   | succ gg =>
    obtain⟨j,hj⟩:∃ j,j=min (q+8) nn:=⟨_,rfl⟩;have hj1:q≤j:=by omega
    have hj2:j≤nn:=by omega
    have HCC:Hid ((es.take j).drop q=chunk es q):=zqI es q j (by rw[← HNN.out];exact hj);have HCO:Hid (okL (chunk es q)=true):=zmo HOK.out q;have HCF:Hid (∀ e∈chunk es q,Fits e):=zgG HCO.out;have HC0:Hid (∀ W,RdE W (.slice a nn cap) es→Calls Tryz.prog 197 #[.slice a nn cap,.int .i64 q,.int .i64 (j:Int)] W fun e w'=>∃ u,e=.returned u∧(∀ W',RdE W' (.slice a nn cap) es→RdE W' u (chunk es q))∧w'=W):=fun W h=>by
     have:=zpD _ es q j W h hj1 (by rw[← HNN.out];exact hj2);rwa [HCC.out] at this
    have HP:Hid (∀ W u,RdE W u (chunk es q)→Calls Tryz.prog 219 #[u] W fun e w'=>∃ u',e=.returned u'∧Own w' W.heap.size u' (packA (chunk es q))∧Below W.heap.size W w'):=fun W u h=>by
     have:=zhZ u _ W h HCF.out;rwa [ze4 HCO.out] at this
    have HB2:Hid (ss++[⟨(packA (chunk es q)).toArray⟩]++blkF es gg (8*(k+1))=R):=by
     have:=HB.out;rw[zpU] at this;rw[List.append_assoc,show 8*(k+1)=q+8 by have:=HQ.out;omega];exact this
    have hjc:(q+8≤nn∧(j:Int)=(q:Int)+8)∨(nn<q+8∧(j:Int)=(nn:Int)):=by omega
    clear HB HCC hj hj1 hj2;generalize packA (chunk es q)=bs at HP HB2;have hrr:=hr.below hb;rcases hjc with ⟨hjc,hje⟩ | ⟨hjc,hje⟩
    ·have HC:Hid (∀ W,RdE W (.slice a nn cap) es→Calls Tryz.prog 197 #[.slice a nn cap,.int .i64 q,.int .i64 ((q:Int)+8)] W fun e w'=>∃ u,e=.returned u∧(∀ W',RdE W' (.slice a nn cap) es→RdE W' u (chunk es q))∧w'=W):=by rw[← hje];exact HC0
     clear HC0 hje;go_wp2_with fail
     refine(HC.out _ hrr).mono ?_;rintro e w2 ⟨u2,rfl,hru,rfl⟩;have hru2:=hru _ hrr;go_wp2_with fail
     refine(HP.out _ _ hru2).mono ?_;rintro e w4 ⟨u4,rfl,ho4,hb4⟩;have hcv:=zdN ho4;have hs4:=ho.below hb4;have b4:=hb.trans (hb4.mono hb.size);clear hrr hru hru2 ho hb hb4 HC HP;go_wp2_with (at_builtin;(refine zbZ rfl _ _ rfl w.heap.size w4.heap.size _ ss ⟨bs.toArray⟩ rfl rfl (hs4.below (za _ _)) (by simp) (by have:=HSL.out;have:=HKG.out;omega) (by have:=b4.size;simp;omega) ?_))
     intro v5 w5 ho5 hg5;have b5:=zaV hs4 (Nat.le_refl _) b4 b4.size hg5;clear hg5 hs4 b4 ho4 hcv;have HQ2:Hid ((q:Int)+8=((8*(k+1):Nat):Int)):=by have:=HQ.out;unfold Hid;omega
     go_wp2;go_roundg gg
     case rel=>exact⟨k+1,ss++[⟨bs.toArray⟩],by have:=HKG.out;omega,by rw[← HQ2.out],HB2,by rw[List.length_append,HSL.out];rfl,ho5,b5⟩
     case measure=>omega
    ·have HC:Hid (∀ W,RdE W (.slice a nn cap) es→Calls Tryz.prog 197 #[.slice a nn cap,.int .i64 q,.int .i64 (nn:Int)] W fun e w'=>∃ u,e=.returned u∧(∀ W',RdE W' (.slice a nn cap) es→RdE W' u (chunk es q))∧w'=W):=by rw[← hje];exact HC0
     clear HC0 hje;go_wp2_with fail
     refine(HC.out _ hrr).mono ?_;rintro e w2 ⟨u2,rfl,hru,rfl⟩;have hru2:=hru _ hrr;go_wp2_with fail
     refine(HP.out _ _ hru2).mono ?_;rintro e w4 ⟨u4,rfl,ho4,hb4⟩;have hcv:=zdN ho4;have hs4:=ho.below hb4;have b4:=hb.trans (hb4.mono hb.size);clear hrr hru hru2 ho hb hb4 HC HP;go_wp2_with (at_builtin;(refine zbZ rfl _ _ rfl w.heap.size w4.heap.size _ ss ⟨bs.toArray⟩ rfl rfl (hs4.below (za _ _)) (by simp) (by have:=HSL.out;have:=HKG.out;omega) (by have:=b4.size;simp;omega) ?_))
     intro v5 w5 ho5 hg5;have b5:=zaV hs4 (Nat.le_refl _) b4 b4.size hg5;clear hg5 hs4 b4 ho4 hcv;have HQ2:Hid ((q:Int)+8=((8*(k+1):Nat):Int)):=by have:=HQ.out;unfold Hid;omega
     go_wp2;go_roundg gg
     case rel=>exact⟨k+1,ss++[⟨bs.toArray⟩],by have:=HKG.out;omega,by rw[← HQ2.out],HB2,by rw[List.length_append,HSL.out];rfl,ho5,b5⟩
     case measure=>omega
  ·have HE:Hid (ss=R):=by
    have h0:gk=0:=by have:=HKG.out;have:=HQ.out;omega
    have:=HB.out;rw[h0,blkF,List.append_nil] at this;exact this
   have hke:¬ (q:Int)<(nn:Int):=by omega
   clear HB;go_wp2;go_ret;exact⟨_,rfl,by rw[← HE.out];exact ho,hb⟩
def mw(M j:Nat):Nat:=M / 2 ^ (64*j) % 2 ^ 64
def mset(M n:Nat):Nat:=M ||| 2 ^ n
theorem mw_lt(M j:Nat):mw M j<18446744073709551616:=Nat.mod_lt _ (by decide)
theorem zkJ(M j i:Nat):(mw M j).testBit i=(decide (i<64)&&M.testBit (64*j+i)):=by
 unfold mw;rw[Nat.testBit_mod_two_pow,Nat.testBit_div_two_pow,Nat.add_comm]
theorem zcM(M n i:Nat):(mset M n).testBit i=(M.testBit i||decide (n=i)):=by
 unfold mset;rw[Nat.testBit_or,Nat.testBit_two_pow]
theorem zo3{M n:Nat}(h:M<2 ^ 256)(hn:n<256):mset M n<2 ^ 256:=Nat.or_lt_two_pow h (Nat.pow_lt_pow_right (by omega) hn)
theorem zq1{M n:Nat}:mw (mset M n) (n / 64)=mw M (n / 64) ||| 2 ^ (n % 64):=by
 apply Nat.eq_of_testBit_eq;intro i;rw[zkJ,zcM,Nat.testBit_or,zkJ,Nat.testBit_two_pow];by_cases hi:i<64
 ·simp only[hi,decide_true,Bool.true_and];congr 1
  apply decide_eq_decide.2;omega
 ·have:¬ n % 64=i:=by omega
  simp[hi,this]
theorem zpw{M n j:Nat}(h:n / 64≠j):mw (mset M n) j=mw M j:=by
 apply Nat.eq_of_testBit_eq;intro i;rw[zkJ,zcM,zkJ];by_cases hi:i<64
 ·have:¬ n=64*j+i:=by omega
  simp[this]
 ·simp[hi]
theorem mw_ext{M N:Nat}(hM:M<2 ^ 256)(hN:N<2 ^ 256)(h0:mw M 0=mw N 0)(h1:mw M 1=mw N 1)(h2:mw M 2=mw N 2)(h3:mw M 3=mw N 3):M=N:=by
 apply Nat.eq_of_testBit_eq;intro i;by_cases hi:i<256
 ·have hj:∀ j,mw M j=mw N j→i / 64=j→M.testBit i=N.testBit i:=by
   intro j hj e;have:=congrArg (fun x=>x.testBit (i % 64)) hj;simp only[zkJ] at this;have h64:i % 64<64:=Nat.mod_lt _ (by omega);have e2:64*j+i % 64=i:=by omega
   rw[e2] at this;simpa [h64] using this
  have:i / 64=0∨i / 64=1∨i / 64=2∨i / 64=3:=by omega
  rcases this with e | e | e | e
  ·exact hj 0 h0 e
  ·exact hj 1 h1 e
  ·exact hj 2 h2 e
  ·exact hj 3 h3 e
 ·rw[Nat.testBit_lt_two_pow (Nat.lt_of_lt_of_le hM (Nat.pow_le_pow_right (by omega) (by omega))),Nat.testBit_lt_two_pow (Nat.lt_of_lt_of_le hN (Nat.pow_le_pow_right (by omega) (by omega)))]
theorem zpI{M n:Nat}:M=mset M n↔M.testBit n=true:=by
 constructor
 ·intro h;rw[h,zcM];simp
 ·intro h;apply Nat.eq_of_testBit_eq;intro i;rw[zcM];by_cases e:n=i
  ·subst e;simp[h]
  ·simp[e]
def mOf(ns:List Int):Nat:=ns.foldl (fun M n=>mset M n.toNat) 0
def okM(ns:List Int):Prop:=∀ n∈ns,0≤n∧n<256
theorem mF_bit(ns:List Int)(h:okM ns):∀ (M i:Nat),(ns.foldl (fun M n=>mset M n.toNat) M).testBit i=true↔M.testBit i=true∨(i:Int)∈ns:=by
 induction ns with
 | nil=>intro M i;simp
 | cons n r ih =>
  intro M i;have hn:=h n List.mem_cons_self;rw[List.foldl_cons,ih (fun x hx=>h x (List.mem_cons_of_mem _ hx)),zcM,List.mem_cons,Bool.or_eq_true,decide_eq_true_eq];constructor
  ·rintro ((h | h) | h)
   ·exact .inl h
   ·exact .inr (.inl (by omega))
   ·exact .inr (.inr h)
  ·rintro (h | h | h)
   ·exact .inl (.inl h)
   ·exact .inl (.inr (by omega))
   ·exact .inr h
theorem zi6{ns:List Int}(h:okM ns)(i:Nat):(mOf ns).testBit i=true↔(i:Int)∈ns:=by
 unfold mOf;rw[mF_bit ns h];simp
theorem mF_lt(ns:List Int)(h:okM ns):∀ M,M<2 ^ 256→ns.foldl (fun M n=>mset M n.toNat) M<2 ^ 256:=by
 induction ns with
 | nil=>intro M hM;exact hM
 | cons n r ih =>
  intro M hM;have hn:=h n List.mem_cons_self;rw[List.foldl_cons];exact ih (fun x hx=>h x (List.mem_cons_of_mem _ hx)) _ (zo3 hM (by omega))
theorem mOf_lt{ns:List Int}(h:okM ns):mOf ns<2 ^ 256:=mF_lt ns h 0 (by decide)
theorem zm0:∀ (a b:List Int),a.Pairwise (· < ·)→b.Pairwise (· < ·)→(∀ x,x∈a↔x∈b)→a=b
 | [],b,_,_,h=>by
  cases b with
  | nil=>rfl
  | cons y s=>have:=(h y).2 List.mem_cons_self;cases this
 | x::r,[],_,_,h=>by have:=(h x).1 List.mem_cons_self;cases this
 | x::r,y::s,ha,hb,h=>by
  rw[List.pairwise_cons] at ha hb;have hxy:x=y:=by
   have h1:=(h x).1 List.mem_cons_self;have h2:=(h y).2 List.mem_cons_self;rcases List.mem_cons.1 h1 with e | h1
   ·exact e
   ·rcases List.mem_cons.1 h2 with e | h2
    ·exact e.symm
    ·have:=hb.1 x h1;have:=ha.1 y h2;omega
  subst hxy;rw[zm0 r s ha.2 hb.2];intro z;have:=h z;rw[List.mem_cons,List.mem_cons] at this;constructor
  ·intro hz;rcases this.1 (.inr hz) with e | e
   ·have:=ha.1 z hz;omega
   ·exact e
  ·intro hz;rcases this.2 (.inr hz) with e | e
   ·have:=hb.1 z hz;omega
   ·exact e
def zaQ(M:Nat):Nat→Nat→List Int
 | 0,_=>[]
 | g+1,k=>if M.testBit k=true then (k:Int)::zaQ M g (k+1) else zaQ M g (k+1)
theorem zfs(M:Nat):∀ (g k:Nat) (x:Int),x∈zaQ M g k↔∃ i:Nat,k≤i∧i<k+g∧x=(i:Int)∧M.testBit i=true
 | 0,k,x=>by rw[zaQ];constructor;(intro h;cases h);(rintro ⟨i,h1,h2,_⟩;omega)
 | g+1,k,x=>by
  rw[zaQ];have ih:=zfs M g (k+1) x;have key:(∃ i:Nat,k≤i∧i<k+(g+1)∧x=(i:Int)∧M.testBit i=true)↔(x=(k:Int)∧M.testBit k=true)∨x∈zaQ M g (k+1):=by
   rw[ih];constructor
   ·rintro ⟨i,h1,h2,h3,h4⟩;by_cases e:i=k
    ·subst e;exact .inl ⟨h3,h4⟩
    ·exact .inr ⟨i,by omega,by omega,h3,h4⟩
   ·rintro (⟨h1,h2⟩ | ⟨i,h1,h2,h3,h4⟩)
    ·exact⟨k,by omega,by omega,h1,h2⟩
    ·exact⟨i,by omega,by omega,h3,h4⟩
  rw[key];by_cases hb:M.testBit k=true
  ·rw[if_pos hb,List.mem_cons];simp[hb]
  ·rw[if_neg hb];simp[hb]
theorem zem(M:Nat):∀ (g k:Nat),(zaQ M g k).Pairwise (· < ·)
 | 0,k=>by rw[zaQ];exact List.Pairwise.nil
 | g+1,k=>by
  rw[zaQ];split
  ·refine List.pairwise_cons.2 ⟨fun x hx=>?_,zem M g (k+1)⟩;obtain⟨i,h1,h2,rfl,_⟩:=(zfs M g (k+1) x).1 hx;omega
  ·exact zem M g (k+1)
theorem zfq{ns:List Int}(h:okM ns)(hr:ns.Pairwise (· < ·)):zaQ (mOf ns) 256 0=ns:=by
 refine zm0 _ _ (zem _ _ _) hr fun x=>?_
 rw[zfs];constructor
 ·rintro ⟨i,_,_,rfl,hb⟩;exact(zi6 h i).1 hb
 ·intro hx;have:=h x hx;refine⟨x.toNat,by omega,by omega,by omega,(zi6 h _).2 ?_⟩;rw[Int.toNat_of_nonneg this.1];exact hx
def zaO:Int→List Int→Bool
 | _,[]=>true
 | a,n::r=>!(decide (n≤a)||decide (256≤n))&&zaO n r
theorem zbS:∀ (ns:List Int) (a:Int),zaO a ns=true↔(∀ n∈ns,a<n∧n<256)∧ns.Pairwise (· < ·)
 | [],a=>by simp[zaO]
 | n::r,a=>by
  rw[zaO,Bool.and_eq_true,zbS r n,List.pairwise_cons];simp only[Bool.not_eq_true',Bool.or_eq_false_iff,decide_eq_false_iff_not,List.mem_cons];constructor
  ·rintro ⟨⟨h1,h2⟩,h3,h4⟩;refine⟨?_,fun x hx=>(h3 x hx).1,h4⟩;rintro x (rfl | hx)
   ·omega
   ·have:=h3 x hx;omega
  ·rintro ⟨h1,h2,h3⟩;have:=h1 n (.inl rfl);refine⟨⟨by omega,by omega⟩,fun x hx=>⟨h2 x hx,(h1 x (.inr hx)).2⟩,h3⟩
def mBits(ns:List Int):Nat:=if zaO (-1) ns=true then mOf ns else 0
theorem mBits_eq{ns bs:List Int}(h:okM bs)(hr:bs.Pairwise (· < ·))(h0:bs≠[]):mBits ns=mOf bs↔ns=bs:=by
 constructor
 ·intro e;unfold mBits at e;split at e
  ·rename_i hn;rw[zbS] at hn;have hn1:okM ns:=fun n hm=>⟨by have:=(hn.1 n hm).1;omega,(hn.1 n hm).2⟩
   rw[← zfq hn1 hn.2,e,zfq h hr]
  ·exfalso;cases bs with
   | nil=>exact h0 rfl
   | cons b r =>
    have hb:=h b List.mem_cons_self;have:=(zi6 h b.toNat).2 (by rw[Int.toNat_of_nonneg hb.1];exact List.mem_cons_self);rw[← e] at this;simp at this
 ·rintro rfl;unfold mBits;rw[if_pos];rw[zbS];exact⟨fun n hm=>⟨by have:=(h n hm).1;omega,(h n hm).2⟩,hr⟩
theorem zoO{ns:List Int}(h:ns.Pairwise (· < ·))(n:Int):(putI ns n).Pairwise (· < ·):=by
 unfold putI;split
 ·exact h
 ·rename_i hne;rw[List.pairwise_append,List.pairwise_cons];have hlt:∀ x∈ns.take (atI ns n),x<n:=by
   intro x hx;obtain⟨i,hi,rfl⟩:=List.getElem_of_mem hx;rw[List.length_take] at hi;rw[List.getElem_take];exact zqB ns n i (by omega) (by omega)
  have hgt:∀ x∈ns.drop (atI ns n),n<x:=by
   intro x hx;obtain⟨i,hi,rfl⟩:=List.getElem_of_mem hx;rw[List.length_drop] at hi;rw[List.getElem_drop];have h0:atI ns n<ns.length:=by omega
   have h1:=zji ns n h0;have h2:ns[atI ns n]≠n:=by
    intro e;exact hne (by rw[List.getElem?_eq_getElem h0,e])
   by_cases hz:i=0
   ·subst hz;simp only[Nat.add_zero];omega
   ·have:=List.pairwise_iff_getElem.1 h (atI ns n) (atI ns n+i) h0 (by omega) (by omega);omega
  refine⟨h.sublist (List.take_sublist _ _),⟨hgt,h.sublist (List.drop_sublist _ _)⟩,?_⟩;intro a ha b hb;rcases List.mem_cons.1 hb with rfl | hb
  ·exact hlt a ha
  ·have:=hlt a ha;have:=hgt b hb;omega
theorem zlO(ms:List Int):∀ {ns:List Int},ns.Pairwise (· < ·)→(zav ns ms).Pairwise (· < ·):=by
 unfold zav;induction ms with
 | nil=>intro ns h;exact h
 | cons m r ih=>intro ns h;rw[List.foldl_cons];exact ih (zoO h m)
theorem znl(es:List Ent):∀ {ns:List Int},ns.Pairwise (· < ·)→(es.foldl (fun b e=>zav b (zaC e.key)) ns).Pairwise (· < ·):=by
 induction es with
 | nil=>intro ns h;exact h
 | cons e r ih=>intro ns h;rw[List.foldl_cons];exact ih (zlO _ h)
theorem zie(es:List Ent):(bitsL es).Pairwise (· < ·):=znl es List.Pairwise.nil
theorem zeJ(es:List Ent):okM (bitsL es):=by
 intro n hn;obtain⟨e,_,h⟩:=(zhD es n).1 hn;rcases (zfr e.key n).1 h with rfl | rfl
 ·exact mk2_in e.key
 ·exact mk1_in e.key
theorem bitsL_ne{es:List Ent}(h:es≠[]):bitsL es≠[]:=by
 cases es with
 | nil=>exact absurd rfl h
 | cons e r =>
  intro hn;have:=(zhD (e::r) (mk1 e.key)).2 ⟨e,List.mem_cons_self,(zfr _ _).2 (.inr rfl)⟩;rw[hn] at this;cases this
def mkey(M:Nat)(key:ByteArray):Nat:=mset (mset M (dig 1 key.data.toList % 256)) (dig 1 (key.data.toList++[42]) % 256)
theorem mkey_bit(M:Nat)(key:ByteArray)(i:Nat):(mkey M key).testBit i=true↔M.testBit i=true∨(i:Int)∈zaC key:=by
 unfold mkey;rw[zcM,zcM,zfr];unfold mk1 mk2;simp only[Bool.or_eq_true,decide_eq_true_eq];constructor
 ·rintro ((h | h) | h)
  ·exact .inl h
  ·exact .inr (.inr (by omega))
  ·exact .inr (.inl (by omega))
 ·rintro (h | h | h)
  ·exact .inl (.inl h)
  ·exact .inr (by omega)
  ·exact .inl (.inr (by omega))
def mKeys(es:List Ent):Nat:=es.foldl (fun M e=>mkey M e.key) 0
theorem mKF_bit(es:List Ent):∀ (M i:Nat),(es.foldl (fun M e=>mkey M e.key) M).testBit i=true↔M.testBit i=true∨∃ e∈es,(i:Int)∈zaC e.key:=by
 induction es with
 | nil=>intro M i;simp
 | cons e r ih =>
  intro M i;rw[List.foldl_cons,ih,mkey_bit];constructor
  ·rintro ((h | h) | ⟨y,hy,h⟩)
   ·exact .inl h
   ·exact .inr ⟨e,List.mem_cons_self,h⟩
   ·exact .inr ⟨y,List.mem_cons_of_mem _ hy,h⟩
  ·rintro (h | ⟨y,hy,h⟩)
   ·exact .inl (.inl h)
   ·rcases List.mem_cons.1 hy with rfl | hy
    ·exact .inl (.inr h)
    ·exact .inr ⟨y,hy,h⟩
theorem ziS(es:List Ent):mKeys es=mOf (bitsL es):=by
 apply Nat.eq_of_testBit_eq;intro i;rw[Bool.eq_iff_iff,zi6 (zeJ es),zhD];unfold mKeys;rw[mKF_bit];simp
theorem zna(es:List Ent):mKeys es<2 ^ 256:=by rw[ziS];exact mOf_lt (zeJ es)
theorem zkv(es:List Ent):zaQ (mKeys es) 256 0=bitsL es:=by rw[ziS,zfq (zeJ es) (zie es)]
theorem zoi{ns:List Int}{es:List Ent}(h:es≠[]):mBits ns=mKeys es↔ns=bitsL es:=by rw[ziS];exact mBits_eq (zeJ es) (zie es) (bitsL_ne h)
theorem mBits_lt(ns:List Int):mBits ns<2 ^ 256:=by
 unfold mBits;split
 ·rename_i h;rw[zbS] at h;exact mOf_lt fun n hm=>⟨by have:=(h.1 n hm).1;omega,(h.1 n hm).2⟩
 ·decide
open Go.RowKit
def MV(M:Nat):Value:=.agg #[.int .u64 (mw M 0:Int),.int .u64 (mw M 1:Int),.int .u64 (mw M 2:Int),.int .u64 (mw M 3:Int)]
def MAt(w:World)(b:Nat)(M:Nat):Prop :=
 w.cell? ⟨b,0,none⟩=some (.int .u64 (mw M 0:Int))∧w.cell? ⟨b,1,none⟩=some (.int .u64 (mw M 1:Int))∧w.cell? ⟨b,2,none⟩=some (.int .u64 (mw M 2:Int))∧w.cell? ⟨b,3,none⟩=some (.int .u64 (mw M 3:Int))
theorem zmb(n:Nat)(h:n<18446744073709551616):IntKind.u64.wrap (n:Int)=(n:Int):=by
 show ((n:Int) % 18446744073709551616)=n;omega
theorem ziX(a r:Nat)(ha:a<18446744073709551616)(hr:r<64):bits .or .u64 (a:Int) (IntKind.u64.wrap (2 ^ r))=((a ||| 2 ^ r:Nat):Int):=by
 have h1:(2:Nat) ^ r<2 ^ 64:=Nat.pow_lt_pow_right (by omega) hr;have h2:a ||| 2 ^ r<2 ^ 64:=Nat.or_lt_two_pow ha h1
 have e1:IntKind.u64.wrap (2 ^ r)=((2 ^ r:Nat):Int):=by
  have:((2:Int) ^ r)=((2 ^ r:Nat):Int):=by simp
  rw[this];exact zmb _ h1
 rw[e1];show IntKind.u64.wrap (((BitVec.ofInt 64 (a:Int) ||| BitVec.ofInt 64 ((2 ^ r:Nat):Int)).toNat:Nat):Int)=_;rw[BitVec.ofInt_natCast,BitVec.ofInt_natCast,BitVec.toNat_or,BitVec.toNat_ofNat,BitVec.toNat_ofNat,Nat.mod_eq_of_lt ha,Nat.mod_eq_of_lt h1];exact zmb _ h2
theorem zgp(M n:Nat)(w:World)(hn:n<256) :
 Calls Tryz.prog 228 #[MV M,.int .i64 n] w fun e w'=>e=.returned (MV (mset M n))∧Below w.heap.size w w':=by
 have hq:((n:Int)).tdiv 64=((n / 64:Nat):Int):=by rw[Int.tdiv_eq_ediv_of_nonneg (by omega)];omega
 have hr:((n:Int)).tmod 64=((n % 64:Nat):Int):=by rw[Int.tmod_eq_emod_of_nonneg (by omega)];omega
 have h64:n % 64<64:=by omega
 obtain⟨j,hj⟩:∃ j,j=n / 64:=⟨_,rfl⟩;have hat:mw (mset M n) j=mw M j ||| 2 ^ (n % 64):=by rw[hj];exact zq1
 have hne:∀ i,i≠j→mw (mset M n) i=mw M i:=fun i hi=>zpw (by omega)
 have hj4:j<4:=by omega
 rw[← hj] at hq;unfold MV;have l0:=mw_lt M 0;have l1:=mw_lt M 1;have l2:=mw_lt M 2;have l3:=mw_lt M 3;obtain⟨r,hrr⟩:∃ r,r=n % 64:=⟨_,rfl⟩;rw[← hrr] at hr h64 hat;clear hrr hj;generalize (n:Int)=N at hq hr ⊢;have hjc:j=0∨j=1∨j=2∨j=3:=by omega
 rcases hjc with rfl | rfl | rfl | rfl
 ·rw[hat,hne 1 (by omega),hne 2 (by omega),hne 3 (by omega)];clear hat hne;generalize mw M 0=a at *;generalize mw M 1=b at *;generalize mw M 2=c at *;generalize mw M 3=d at *;have hB:=ziX a r l0 h64;generalize a ||| 2 ^ r=x at hB ⊢
  go_enter Tryz.func228,Tryz.ntmps228
  go_wp2;go_region
  go_wp2;exact bodyPost_ret (v:=.agg #[.int .u64 (x:Int),.int .u64 (b:Int),.int .u64 (c:Int),.int .u64 (d:Int)]) (by simp[results,Tryz.results228,go_sem]) rfl ⟨rfl,(zbp _ _ _).drew⟩
 ·rw[hat,hne 0 (by omega),hne 2 (by omega),hne 3 (by omega)];clear hat hne;generalize mw M 0=a at *;generalize mw M 1=b at *;generalize mw M 2=c at *;generalize mw M 3=d at *;have hB:=ziX b r l1 h64;generalize b ||| 2 ^ r=x at hB ⊢
  go_enter Tryz.func228,Tryz.ntmps228
  go_wp2;go_region
  go_wp2;exact bodyPost_ret (v:=.agg #[.int .u64 (a:Int),.int .u64 (x:Int),.int .u64 (c:Int),.int .u64 (d:Int)]) (by simp[results,Tryz.results228,go_sem]) rfl ⟨rfl,(zbp _ _ _).drew⟩
 ·rw[hat,hne 0 (by omega),hne 1 (by omega),hne 3 (by omega)];clear hat hne;generalize mw M 0=a at *;generalize mw M 1=b at *;generalize mw M 2=c at *;generalize mw M 3=d at *;have hB:=ziX c r l2 h64;generalize c ||| 2 ^ r=x at hB ⊢
  go_enter Tryz.func228,Tryz.ntmps228
  go_wp2;go_region
  go_wp2;exact bodyPost_ret (v:=.agg #[.int .u64 (a:Int),.int .u64 (b:Int),.int .u64 (x:Int),.int .u64 (d:Int)]) (by simp[results,Tryz.results228,go_sem]) rfl ⟨rfl,(zbp _ _ _).drew⟩
 ·rw[hat,hne 0 (by omega),hne 1 (by omega),hne 2 (by omega)];clear hat hne;generalize mw M 0=a at *;generalize mw M 1=b at *;generalize mw M 2=c at *;generalize mw M 3=d at *;have hB:=ziX d r l3 h64;generalize d ||| 2 ^ r=x at hB ⊢
  go_enter Tryz.func228,Tryz.ntmps228
  go_wp2;go_region
  go_wp2;exact bodyPost_ret (v:=.agg #[.int .u64 (a:Int),.int .u64 (b:Int),.int .u64 (c:Int),.int .u64 (x:Int)]) (by simp[results,Tryz.results228,go_sem]) rfl ⟨rfl,(zbp _ _ _).drew⟩
theorem Tryz.info207:(Tryz.prog.info? 207).map (fun i=>(i.zero,i.size,i.bytes))=some (some (.int .u64 0),1,8):=by kernel_rfl
theorem zhp(d:Nat)(a b:Int)(w:World):(Op.equalIn (d+1) 207 (.int .u64 a) (.int .u64 b)).run Tryz.prog w=.ok (a==b) w:=by
 simp[Op.equalIn,run_underlying Tryz.underlying207]
theorem zjB(a0 a1 a2 a3 b0 b1 b2 b3:Int)(w:World) :
 (Op.equalIn 10000 209 (.agg #[.int .u64 a0,.int .u64 a1,.int .u64 a2,.int .u64 a3]) (.agg #[.int .u64 b0,.int .u64 b1,.int .u64 b2,.int .u64 b3])).run Tryz.prog w=.ok (decide (a0=b0∧a1=b1∧a2=b2∧a3=b3)) w:=by
 obtain⟨i0,hi,hz0,hz1,hz2⟩:=info_parts Tryz.info207;rw[run_equalIn_array w 9999 _ _ Tryz.underlying209 hi];have hc:Tryz.prog.cellsOf 207=1:=by kernel_rfl
 rw[hc];have hp:∀ (cs:Array Value) (k:Nat) (v:Value) (W:World),cs[k]? = some v→(part 207 cs k).run Tryz.prog W=.ok v W:=by
  intro cs k v W h;simp[part,go_sem,h,isAgg,run_underlying Tryz.underlying207]
 have hstep:∀ (xs ys:Array Value) (k:Nat) (a b:Int) (is:List Nat),xs[k*1]? = some (.int .u64 a)→ys[k*1]? = some (.int .u64 b)→(Op.eqItems 9999 207 1 xs ys (k::is)).run Tryz.prog w=if a=b then (Op.eqItems 9999 207 1 xs ys is).run Tryz.prog w else .ok false w:=by
  intro xs ys k a b is hx hy;simp only[Op.eqItems,Sem.run_bind,hp _ _ _ _ hx,hp _ _ _ _ hy,Result.andThen_ok,zhp 9998];by_cases h:a=b<;>simp[h]
 show (Op.eqItems 9999 207 1 _ _ [0,1,2,3]).run Tryz.prog w=_;rw[hstep _ _ 0 a0 b0 _ rfl rfl,hstep _ _ 1 a1 b1 _ rfl rfl,hstep _ _ 2 a2 b2 _ rfl rfl,hstep _ _ 3 a3 b3 _ rfl rfl];by_cases h0:a0=b0
 ·by_cases h1:a1=b1
  ·by_cases h2:a2=b2
   ·by_cases h3:a3=b3
    ·simp[h0,h1,h2,h3,Op.eqItems]
    ·simp[h0,h1,h2,h3]
   ·simp[h0,h1,h2]
  ·simp[h0,h1]
 ·simp[h0]
theorem zfX(M N:Nat)(hM:M<2 ^ 256)(hN:N<2 ^ 256)(w:World) :
 (Op.equalIn 10000 209 (.agg #[.int .u64 (mw M 0:Int),.int .u64 (mw M 1:Int),.int .u64 (mw M 2:Int),.int .u64 (mw M 3:Int)]) (.agg #[.int .u64 (mw N 0:Int),.int .u64 (mw N 1:Int),.int .u64 (mw N 2:Int),.int .u64 (mw N 3:Int)])).run Tryz.prog w=.ok (decide (M=N)) w:=by
 rw[zjB];congr 1
 apply decide_eq_decide.2;constructor
 ·rintro ⟨h0,h1,h2,h3⟩;exact mw_ext hM hN (by omega) (by omega) (by omega) (by omega)
 ·rintro rfl;exact⟨rfl,rfl,rfl,rfl⟩
theorem zrd(w:World)(M:Nat)(t:TypeId):MAt (w.alloc (.cells #[.int .u64 (mw M 0:Int),.int .u64 (mw M 1:Int),.int .u64 (mw M 2:Int),.int .u64 (mw M 3:Int)] t)) w.heap.size M :=
 ⟨by simp,by simp,by simp,by simp⟩
theorem MAt.lt{w:World}{b M:Nat}(h:MAt w b M):b<w.heap.size:=World.block_lt_of_cell? w _ h.1
theorem MAt.below{w w':World}{b M:Nat}(h:MAt w b M)(hb:Below w.heap.size w w'):MAt w' b M:=by
 have hl:=h.lt;obtain⟨h0,h1,h2,h3⟩:=h;exact⟨by rw[hb.cell hl];exact h0,by rw[hb.cell hl];exact h1,by rw[hb.cell hl];exact h2,by rw[hb.cell hl];exact h3⟩
theorem zkm(i d:Nat){P:Program}{ops:Array Oper}{Q:Exit→Act→World→Prop}{md:Region.Mode}{S:World→Prop}{oi:Oper}{v:Value}{fuel:Nat}{listed:Array Bool}{a a':Act}{w:World}(hS:S w)(h:wpAnyH P md ops (NoPanic Q) S fuel (listed.setIfInBounds i true) a' w)(hi:ops[i]? = some oi:=by rfl)(hd:oi.dst=some d:=by rfl)(hs:Region.noSelect ops=true:=by kernel_rfl)(hf:Region.free md ops listed i=true:=by kernel_rfl)(hr:(Region.ready md ops listed).contains i=true:=by kernel_rfl)(hw:Region.wanted oi (yielded ops a.tmps)=true:=by kernel_rfl)(hy:∀ w,S w→(execOp a.eval oi).run P w=.ok (.value v) w:=by intro w hS;(try dsimp only[EntAt,MAt,Nat.zero_add] at hS);go_simp;(try with_reducible rfl))(ha:a.put (some d) v=a':=by (try simp only[Act.put,sA,sZ,sS]);(try rfl)):wpAnyH P md ops (NoPanic Q) S (fuel+1) listed a w:=takeH hi hd hs hf hr (fun _ _ _ h=>h) (Or.inl ⟨hw,hy⟩) hS (ha ▸ h)
theorem has_any(M n:Nat)(w:World)(hM:M<2 ^ 256)(hn:n<256) :
 Calls Tryz.prog 218 #[MV M,.int .i64 n] w fun e w'=>e=.returned (.bool (M.testBit n))∧Below w.heap.size w w':=by
 have HW:Hid (∀ W,Calls Tryz.prog 228 #[.agg #[.int .u64 (mw M 0:Int),.int .u64 (mw M 1:Int),.int .u64 (mw M 2:Int),.int .u64 (mw M 3:Int)],.int .i64 n] W fun e w'=>e=.returned (MV (mset M n))∧Below W.heap.size W w'):=fun W=>zgp M n W hn
 have hE:=zfX M (mset M n) hM (zo3 hM hn);have HR:Hid (M.testBit n=decide (M=mset M n)):=by unfold Hid;rw[Bool.eq_iff_iff,decide_eq_true_eq,zpI]
 generalize decide (M=mset M n)=r at hE HR;unfold MV;go_enter Tryz.func218,Tryz.ntmps218
 go_wp2;refine wp_region_noPanic ?_;refine wp_region_held_drew (S:=fun W=>MAt W w.heap.size M) (by kernel_rfl) (zrd _ _ _) (fun hH=>?_);refine zkm 0 5 hH ?_;refine zkm 1 6 hH ?_;refine zkm 2 7 hH ?_;refine rdy 3 (fun K hK=>?_);go_simp;refine(HW.out _).mono ?_;rintro e w' ⟨rfl,hb'⟩;unfold MV;refine hK.out _ _ (hH.below hb') (fun hA=>?_);clear hK K;try simp only[Act.put,sA,sZ,sS]
 refine zkm 4 9 hA ?_;refine zkm 5 4 hA ?_;refine dne ?_;have bb:=(za w (.cells #[.int .u64 (mw M 0:Int),.int .u64 (mw M 1:Int),.int .u64 (mw M 2:Int),.int .u64 (mw M 3:Int)] 209)).drew.trans (hb'.mono (by simp));go_wp2;go_ret;exact⟨zF HR.out.symm,bb⟩
def MBox(w:World)(b:Nat)(M:Nat):Prop:=MAt w b M∧∀ o,w.frozen? ⟨b,o,none⟩=false
theorem MBox.below{w w':World}{b M:Nat}(h:MBox w b M)(hb:Below w.heap.size w w'):MBox w' b M :=
 ⟨h.1.below hb,fun o=>((bcell hb).2 b o h.1.lt).trans (h.2 o)⟩
theorem znd(w:World)(M:Nat)(t:TypeId):MBox (w.alloc (.cells #[.int .u64 (mw M 0:Int),.int .u64 (mw M 1:Int),.int .u64 (mw M 2:Int),.int .u64 (mw M 3:Int)] t)) w.heap.size M :=
 ⟨zrd w M t,fun o=>by simp⟩
theorem zdh(w:World)(t:TypeId):MBox (w.alloc (.cells #[.int .u64 0,.int .u64 0,.int .u64 0,.int .u64 0] t)) w.heap.size 0 :=
 ⟨⟨by simp[mw],by simp[mw],by simp[mw],by simp[mw]⟩,fun o=>by simp⟩
theorem MBox.facts{w:World}{b M:Nat}(h:MBox w b M):w.cell? ⟨b,0,none⟩=some (.int .u64 (mw M 0:Int))∧w.cell? ⟨b,1,none⟩=some (.int .u64 (mw M 1:Int))∧w.cell? ⟨b,2,none⟩=some (.int .u64 (mw M 2:Int))∧w.cell? ⟨b,3,none⟩=some (.int .u64 (mw M 3:Int)) ∧
 w.frozen? ⟨b,0,none⟩=false∧w.frozen? ⟨b,1,none⟩=false∧w.frozen? ⟨b,2,none⟩=false∧w.frozen? ⟨b,3,none⟩=false:=by
 obtain⟨⟨h0,h1,h2,h3⟩,hf⟩:=h;exact⟨h0,h1,h2,h3,hf 0,hf 1,hf 2,hf 3⟩
theorem mrem(d:Nat)(h:d<2147483647):((d:Int)).tmod 256=((d % 256:Nat):Int):=by rw[Int.tmod_eq_emod_of_nonneg (by omega)];omega
theorem zl3(M:Nat)(key:ByteArray)(w:World)(hk:key.size≤1099511627776) :
 Calls Tryz.prog 217 #[MV M,.string key] w fun e w'=>e=.returned (MV (mkey M key))∧Below w.heap.size w w':=by
 have HD1:Hid (∀ W,Calls Tryz.prog 208 #[.int .i64 1,.string key] W fun e w'=>e=.returned (.int .i64 (dig 1 key.data.toList:Int))∧Below W.heap.size W w'):=fun W=>zdi 1 key W (by omega) hk
 have HD2:Hid (∀ W,Calls Tryz.prog 208 #[.int .i64 (dig 1 key.data.toList:Int),.string ⟨#[42]⟩] W fun e w'=>e=.returned (.int .i64 (dig 1 (key.data.toList++[42]):Int))∧Below W.heap.size W w'):=fun W=>by
  have:=zdi (dig 1 key.data.toList) ⟨#[42]⟩ W (zir _ _ (by omega)) (by decide);rw[znj];exact this
 have l1:=mrem _ (zir key.data.toList 1 (by omega));have l2:=mrem _ (zir (key.data.toList++[42]) 1 (by omega));have HK:Hid (mkey M key=mset (mset M (dig 1 key.data.toList % 256)) (dig 1 (key.data.toList++[42]) % 256)):=rfl;have m1:dig 1 key.data.toList % 256<256:=Nat.mod_lt _ (by omega);have m2:dig 1 (key.data.toList++[42]) % 256<256:=Nat.mod_lt _ (by omega);generalize dig 1 key.data.toList=d1 at *;generalize dig 1 (key.data.toList++[42])=d2 at *;obtain⟨n1,hn1⟩:∃ n,n=d1 % 256:=⟨_,rfl⟩;obtain⟨n2,hn2⟩:∃ n,n=d2 % 256:=⟨_,rfl⟩;rw[← hn1] at l1 m1 HK;rw[← hn2] at l2 m2 HK;clear hn1 hn2;rw[HK.out];clear HK;have HW1:Hid (∀ W,Calls Tryz.prog 228 #[.agg #[.int .u64 (mw M 0:Int),.int .u64 (mw M 1:Int),.int .u64 (mw M 2:Int),.int .u64 (mw M 3:Int)],.int .i64 n1] W fun e w'=>e=.returned (MV (mset M n1))∧Below W.heap.size W w'):=fun W=>zgp M n1 W m1
 have HW2:Hid (∀ W,Calls Tryz.prog 228 #[.agg #[.int .u64 (mw (mset M n1) 0:Int),.int .u64 (mw (mset M n1) 1:Int),.int .u64 (mw (mset M n1) 2:Int),.int .u64 (mw (mset M n1) 3:Int)],.int .i64 n2] W fun e w'=>e=.returned (MV (mset (mset M n1) n2))∧Below W.heap.size W w'):=fun W=>zgp (mset M n1) n2 W m2
 generalize mset M n1=M1 at *;generalize mset M1 n2=M2 at *;have hz0:=znd w M 209;obtain⟨W0,hW0⟩:∃ W,W=w.alloc (.cells #[.int .u64 (mw M 0:Int),.int .u64 (mw M 1:Int),.int .u64 (mw M 2:Int),.int .u64 (mw M 3:Int)] 209):=⟨_,rfl⟩;have hs0:W0.heap.size=w.heap.size+1:=by rw[hW0];simp
 have hz:=hz0.below (za _ (.cells #[.int .u64 0,.int .u64 0,.int .u64 0,.int .u64 0] 209));have hy:=zdh W0 209;have hbb:=zbp w (.cells #[.int .u64 (mw M 0:Int),.int .u64 (mw M 1:Int),.int .u64 (mw M 2:Int),.int .u64 (mw M 3:Int)] 209) (.cells #[.int .u64 0,.int .u64 0,.int .u64 0,.int .u64 0] 209);rw[hs0,hW0] at hy;clear hz0 hs0 hW0 W0;unfold MV at *;go_enter Tryz.func217,Tryz.ntmps217
 go_wp2_with fail
 refine(HD1.out _).mono ?_;rintro e w1 ⟨rfl,hb1⟩;have b1:=hbb.trans (hb1.mono (by simp;omega));replace hz:=hz.below hb1;replace hy:=hy.below hb1;clear hb1 hbb;obtain⟨c0,c1,c2,c3,_,_,_,_⟩:=hz.facts;clear hz;go_wp2_with fail
 refine(HW1.out _).mono ?_;rintro e w2 ⟨rfl,hb2⟩;have b2:=b1.trans (hb2.mono b1.size);replace hy:=hy.below hb2;clear hb2 b1 c0 c1 c2 c3;go_wp2_with fail
 refine(HD2.out _).mono ?_;rintro e w3 ⟨rfl,hb3⟩;have b3:=b2.trans (hb3.mono b2.size);replace hy:=hy.below hb3;clear hb3 b2;go_wp2_with fail
 refine(HW2.out _).mono ?_;rintro e w4 ⟨rfl,hb4⟩;have b4:=b3.trans (hb4.mono b3.size);replace hy:=hy.below hb4;clear hb4 b3;obtain⟨z0,z1,z2,z3,f0,f1,f2,f3⟩:=hy.facts;clear hy;go_wp2;exact bodyPost_ret (v:=.agg #[.int .u64 (mw M2 0:Int),.int .u64 (mw M2 1:Int),.int .u64 (mw M2 2:Int),.int .u64 (mw M2 3:Int)]) (by simp[results,Tryz.results217,go_sem,z0,z1,z2,z3]) rfl ⟨rfl,zba b4 (Nat.le_succ _) _ _ _ _ _ _ _ _⟩
end Go.Proofs.YtannfbpohhnnkaaGreatDoor
