import Derived.Test.YtjlnchhgkfnldaaGreatG08
import Derived.Test.YtjlnchhgkfnldaaGreatG10
namespace Go.Proofs.YtjlnchhgkfnldaaGreat
set_option maxHeartbeats 16000000
set_option maxRecDepth 100000
open Go.RowKit
theorem rd_at{w:World}{b off cap:Nat}{bs:List UInt8}(hl:bs.length≤cap)(hm:cap≤maxLen)(hc:∀ i (h:i<bs.length),w.cell? ⟨b,off+i,none⟩=some (.int .u8 (bs[i].toNat:Int)))(p:Nat):Rd w (.slice (some ⟨b,off+p,none⟩) (bs.length-p) (cap-p)) (bs.drop p):=by
 refine⟨some ⟨b,off+p,none⟩,cap-p,by rw[List.length_drop],by rw[List.length_drop];omega,by omega,.inr ⟨b,off+p,rfl,fun i hi=>?_⟩⟩;rw[List.length_drop] at hi;have:=hc (p+i) (by omega);rw[← Nat.add_assoc] at this;rw[this];simp
theorem zfF{w:World}{a:Option Addr}{bs:List UInt8}{p:Nat}(h:bs.length≤p):Rd w (.slice a 0 0) (bs.drop p):=by
 rw[List.drop_eq_nil_of_le h];exact⟨a,0,rfl,Nat.zero_le _,Nat.zero_le _,.inl rfl⟩
theorem zez{bs:List UInt8}{p:Nat}(h:bs.length≤p):rdNum (bs.drop p)=(0,0):=by rw[List.drop_eq_nil_of_le h];rfl
theorem zdO{bs:List UInt8}{p:Nat}(h:bs.length≤p):z6 (bs.drop p)=([],0):=by rw[List.drop_eq_nil_of_le h];rfl
theorem zbn{last:ByteArray}{a1 a2 t2 s1 s2 v2:Nat}{t1 v1:List UInt8}(h1:¬ (a2=0∨last.size<a1∨t2=0))(h:s2=0∨v2=0):zal false last (a1,a2) (t1,t2) (s1,s2) (v1,v2)=none:=by
 unfold zal;rw[if_neg h1,if_neg (by simp),if_pos h]
theorem zfE{last:ByteArray}{a1 a2 t2 s1 s2 v2:Nat}{t1 v1:List UInt8}(h1:¬ (a2=0∨last.size<a1∨t2=0))(h:¬ (s2=0∨v2=0)) :
 zal false last (a1,a2) (t1,t2) (s1,s2) (v1,v2)=some (⟨⟨(last.data.toList.take a1++t1).toArray⟩,⟨v1.toArray⟩,((s1 / 2:Nat):Int),decide (s1 % 2=1)⟩,a2+t2+s2+v2):=by
 unfold zal;rw[if_neg h1,if_neg (by simp),if_neg h]
theorem conv_rd{w:World}{v:Value}{bs:List UInt8}(h:Rd w v bs):(convert 22 9 v).run Tryz.prog w=.ok (.string ⟨bs.toArray⟩) w:=by
 obtain⟨a,cap,rfl,hl,hm,hA⟩:=h;rcases hA with rfl | ⟨b,off,rfl,hc⟩
 ·cases a with
  | none=>exact run_convert_bytes_nil w 22 5 Tryz.underlying22 Tryz.underlying5 0 cap 9 Tryz.underlying9
  | some x=>exact run_convert_bytes_back w 22 9 5 x cap [] Tryz.underlying22 Tryz.underlying5 Tryz.underlying9 (fun j hj=>by simp at hj)
 ·exact zgU w b off bs.length cap bs rfl hc
theorem zbT{P:Program}{md:Region.Mode}{ops:Array Oper}{Q:Exit→Act→World→Prop}{S S':World→Prop}(hSS:∀ w,S' w→S w) :
 ∀ (fuel:Nat) (listed:Array Bool) (a:Act) (w:World),wpAnyH P md ops Q S' fuel listed a w→wpAnyH P md ops Q S fuel listed a w
 | 0,_,_,_,h=>h
 | fuel+1,_,_,_,h=>⟨h.1,fun i hi=>wpOp_mono (fun a' w' h'=>⟨hSS _ h'.1,zbT hSS fuel _ a' w' h'.2⟩) (h.2 i hi)⟩
theorem zlP(bs:List UInt8)(p:Nat):(rdNum (bs.drop p)).2≤bs.length-p∧(rdNum (bs.drop p)).1≤1099511627776:=by have:=zaP (bs.drop p);rw[List.length_drop] at this;exact⟨this.1,this.2.1⟩
theorem zjK(bs:List UInt8)(p:Nat):(z6 (bs.drop p)).2≤bs.length-p∧(z6 (bs.drop p)).1.length≤3000:=by
 have h1:=zhj (bs.drop p);rw[List.length_drop] at h1;exact⟨h1,zcu _⟩
theorem zfK(v:Value)(bs:List UInt8)(w:World)(hr:Rd w v bs) :
 Calls Tryz.prog 141 #[v] w fun e w'=>zbW w (unpS bs) e w':=by
 obtain⟨F,hF⟩:∃ F,F=unpS bs:=⟨_,rfl⟩;rw[← hF];have HF0:Hid (F=unpS bs):=hF;clear hF;have HN:=zZ v bs w hr;obtain⟨R,hR⟩:∃ R,rdNum bs=R:=⟨_,rfl⟩;have hRl:=zaP bs;rw[hR] at hRl HN;obtain⟨n,k⟩:=R;have HU:Hid (unpC false bs=if k=0∨300<n then none else rdEs false bs n k [] ⟨#[]⟩):=by unfold Hid unpC;rw[hR]
 have HNN:Hid (Calls _ _ _ _ _):=HN;have HRD0:Hid (Rd w v bs):=hr;clear HN hR;simp only at hRl;obtain⟨a,cap,hv,hl,hm,hA⟩:=hr;subst hv;have Hm:Hid (cap≤maxLen):=hm;unfold maxLen at hm;by_cases q0:k=0
 ·have RES:Hid (F=([],false)):=by unfold Hid;rw[HF0.out];unfold unpS;rw[HU.out,if_pos (.inl q0)];rfl
  have hk0:((k:Int)==0)=true:=by simp;omega
  clear hA q0;go_enter Tryz.func141,Tryz.ntmps141
  go_wp2_with fail
  refine HNN.out.mono ?_;rintro e w1 ⟨rfl,hw1⟩;obtain rfl:=hw1.symm;go_wp2;go_ret2
  exact zE RES.out (zL _) (nR _) ((Below.refl _ _).alloc (nR _) _)
 have hk0:((k:Int)==0)=false:=by simp;omega
 by_cases q1:300<n
 ·have RES:Hid (F=([],false)):=by unfold Hid;rw[HF0.out];unfold unpS;rw[HU.out,if_pos (.inr q1)];rfl
  clear hA q0;go_enter Tryz.func141,Tryz.ntmps141
  go_wp2_with fail
  refine HNN.out.mono ?_;rintro e w1 ⟨rfl,hw1⟩;obtain rfl:=hw1.symm;go_wp2;go_ret2
  exact zE RES.out (zL _) (nR _) ((Below.refl _ _).alloc (nR _) _)
 rcases hA with h | ⟨b,off,rfl,hc⟩
 ·subst h;simp at hRl;omega
 obtain⟨res,hres⟩:∃ res,res=unpC false bs:=⟨_,rfl⟩;have HR0:Hid (res=rdEs false bs n k [] ⟨#[]⟩):=by unfold Hid;rw[hres,HU.out,if_neg (by omega)]
 have RES0:Hid (res=none→F=([],false)):=fun h=>by rw[HF0.out];unfold unpS;rw[← hres,h];rfl
 have RES1:Hid (∀ es p,res=some (es,p)→F=if packL es=bs then (es,true) else ([],false)):=fun es p h=>by rw[HF0.out];unfold unpS;rw[← hres,h];rfl
 have HA0:Hid (∀ i (h:i<bs.length),w.cell? ⟨b,off+i,none⟩=some (.int .u8 (bs[i].toNat:Int))):=hc;clear hc hres HU HF0 q0;go_enter Tryz.func141,Tryz.ntmps141
 go_wp2_with fail
 refine HNN.out.mono ?_;rintro e w1 ⟨rfl,hw1⟩;obtain rfl:=hw1.symm;clear HNN;go_wp2;go_loopw [4,5,6,7] (fun nn aa oo ll wr=>∃ (m p:Nat) (es:List Ent) (last:ByteArray),nn=.int .i64 m∧aa=.int .i64 p∧ll=.string last∧m+es.length≤300∧p≤bs.length∧last.size≤3000*es.length∧OwnE wr w.heap.size oo es∧Below w.heap.size w wr∧Hid (∀ x∈es,Fits x)∧Hid (res=rdEs false bs m p es last)) (fun nn _ _ _ _=>(intOf nn).toNat)
 case atStart=>exact⟨n,k,[],⟨#[]⟩,rfl,rfl,rfl,by simp;omega,by omega,Nat.zero_le _,zL _,(Below.refl _ _).alloc (nR _) _,(fun x hx=>by cases hx),HR0⟩
 case round =>
  obtain⟨m,p,es,last,rfl,rfl,rfl,hms,hp,hls,ho,hb,HFIT,HR⟩:=hrel;have hs:=hb.size;clear HR0;by_cases hlt:0<m
  ·obtain⟨m',rfl⟩:∃ m',m=m'+1:=⟨m-1,by omega⟩;obtain⟨aV,cV,hvO,hO1,hO2,_⟩:=id ho.rd;subst hvO;unfold maxLen at hO2;have hcr:∀ i (h:i<bs.length),wr.cell? ⟨b,off+i,none⟩=some (.int .u8 (bs[i].toNat:Int)):=fun i hi=>by rw[hb.cell (World.block_lt_of_cell? w _ (HA0.out i hi))];exact HA0.out i hi
   have HRD:Hid (∀ p,Rd wr (.slice (some ⟨b,off+p,none⟩) (bs.length-p) (cap-p)) (bs.drop p)):=rd_at hl Hm.out hcr;clear hcr;obtain⟨A,hA⟩:∃ A,rdNum (bs.drop p)=A:=⟨_,rfl⟩;have lA:=zlP bs p;rw[hA] at lA;obtain⟨p1,hp1⟩:∃ p1,p+A.2=p1:=⟨_,rfl⟩;obtain⟨T,hT⟩:∃ T,z6 (bs.drop p1)=T:=⟨_,rfl⟩;have lT:=zjK bs p1;rw[hT] at lT;obtain⟨p2,hp2⟩:∃ p2,p1+T.2=p2:=⟨_,rfl⟩;obtain⟨S,hS⟩:∃ S,rdNum (bs.drop p2)=S:=⟨_,rfl⟩;have lS:=zlP bs p2;rw[hS] at lS;obtain⟨p3,hp3⟩:∃ p3,p2+S.2=p3:=⟨_,rfl⟩;obtain⟨V,hV⟩:∃ V,z6 (bs.drop p3)=V:=⟨_,rfl⟩;have lV:=zjK bs p3;rw[hV] at lV;obtain⟨p4,hp4⟩:∃ p4,p3+V.2=p4:=⟨_,rfl⟩;have HPARTS:Hid (∀ L,rdEnt false L (bs.drop p)=zal false L A T S V):=fun L=>zcr false L _ A T S V hA (by rw[List.drop_drop,hp1];exact hT) (by rw[List.drop_drop,← Nat.add_assoc,hp1,hp2];exact hS) (by rw[List.drop_drop,← Nat.add_assoc,← Nat.add_assoc,hp1,hp2,hp3];exact hV)
   have HA:Hid (rdNum (bs.drop p)=A):=hA;have HT:Hid (z6 (bs.drop p1)=T):=hT;have HS:Hid (rdNum (bs.drop p2)=S):=hS;have HV:Hid (z6 (bs.drop p3)=V):=hV;clear hA hT hS hV;obtain⟨a1,a2⟩:=A;obtain⟨t1,t2⟩:=T;obtain⟨s1,s2⟩:=S;obtain⟨v1,v2⟩:=V;simp only at lA lT lS lV hp1 hp2 hp3 hp4;obtain⟨lA1,lA2⟩:=lA;obtain⟨lT1,lT2⟩:=lT;obtain⟨lS1,lS2⟩:=lS;obtain⟨lV1,lV2⟩:=lV;have i1:(p:Int)+(a2:Int)=(p1:Int):=(by omega);have i2:(p1:Int)+(t2:Int)=(p2:Int):=(by omega);have i3:(p2:Int)+(s2:Int)=(p3:Int):=(by omega);have i4:(p3:Int)+(v2:Int)=(p4:Int):=(by omega);have u1:p1≤bs.length:=(by omega);have u2:p2≤bs.length:=(by omega);have u3:p3≤bs.length:=(by omega);have u4:p4≤bs.length:=(by omega);by_cases h8:es.length % 8=0
   ·have h8d:((es.length:Int) % 8==0)=true:=(by simp;omega);have HL:Hid (ahead es.length last=⟨#[]⟩):=(by unfold Hid ahead;rw[if_pos h8]);have hLs:(⟨#[]⟩:ByteArray).size≤3000*es.length:=Nat.zero_le _;have HPART:Hid (rdEnt false (⟨#[]⟩:ByteArray) (bs.drop p)=zal false (⟨#[]⟩:ByteArray) (a1,a2) (t1,t2) (s1,s2) (v1,v2)):=HPARTS.out (⟨#[]⟩:ByteArray);have HNO:Hid (rdEnt false (⟨#[]⟩:ByteArray) (bs.drop p)=none→res=none):=fun h=>by rw[HR.out];exact ziE (by rw[HL.out];exact h)
    have HGO:Hid (∀ y k,rdEnt false (⟨#[]⟩:ByteArray) (bs.drop p)=some (y,k)→res=rdEs false bs m' (p+k) (es++[y]) y.key∧Fits y∧y.key.size≤3000*(es.length+1)):=fun y k h=>by
     refine⟨by rw[HR.out];exact zgS (by rw[HL.out];exact h),zfm h (by omega),?_⟩;have:=zdM h;omega
    clear HPARTS HR HL;by_cases k0:cap=p
    ·skip
     have z1:(a1,a2)=(0,0):=(by rw[← HA.out,← k0];exact zez hl);obtain⟨rfl,rfl⟩:=Prod.mk.inj z1;have RES:Hid (res=none):=HNO.out (by rw[HPART.out];unfold zal;rw[if_pos (.inl rfl)]);obtain rfl:p1=p:=(by omega);have HRE:Hid (∀ a,Rd wr (.slice a 0 0) (bs.drop p1)):=fun a=>zfF (by omega)
     subst k0;clear z1 HNO HGO HPART;go_wp2_with fail
     refine(zZ _ (bs.drop cap) _ (HRE.out _)).mono ?_;rw[HA.out];rintro e wz ⟨rfl,hwz⟩;obtain rfl:=hwz.symm;go_wp2_with fail
     refine(zY _ (bs.drop cap) _ (HRE.out _)).mono ?_;rw[HT.out];rintro e wz ⟨rfl,hwz⟩;obtain rfl:=hwz.symm;go_wp2;go_ret2
     exact zE (RES0.out RES.out) (zL _) hs (hb.alloc hs _)
    go_wp2_with fail
    refine(zZ _ (bs.drop p) _ (HRD.out p)).mono ?_;rw[HA.out];rintro e wz ⟨rfl,hwz⟩;obtain rfl:=hwz.symm;by_cases k1:cap=p1
    ·skip
     have q0:a2≠0:=(by omega);have z1:(t1,t2)=([],0):=(by rw[← HT.out,← k1];exact zdO hl);obtain⟨rfl,rfl⟩:=Prod.mk.inj z1;have RES:Hid (res=none):=HNO.out (by rw[HPART.out];unfold zal;rw[if_pos (.inr (.inr rfl))]);have HRE:Hid (∀ a,Rd wr (.slice a 0 0) (bs.drop p1)):=fun a=>zfF (by omega)
     have hz:((a2:Int)==0)=false:=(by simp;omega);subst k1;clear z1 HNO HGO HPART q0;go_wp2_with fail
     refine(zY _ (bs.drop cap) _ (HRE.out _)).mono ?_;rw[HT.out];rintro e wz ⟨rfl,hwz⟩;obtain rfl:=hwz.symm;go_wp2;go_ret2
     exact zE (RES0.out RES.out) (zL _) hs (hb.alloc hs _)
    go_wp2_with fail
    refine(zY _ (bs.drop p1) _ (HRD.out p1)).mono ?_;rw[HT.out];rintro e wz ⟨rfl,hwz⟩;obtain rfl:=hwz.symm;by_cases q0:a2=0
    ·skip
     have RES:Hid (res=none):=HNO.out (by rw[HPART.out];unfold zal;rw[if_pos (.inl q0)]);have hz:((a2:Int)==0)=true:=(by simp;omega);clear q0 HNO HGO HPART;go_wp2;go_ret2
     exact zE (RES0.out RES.out) (zL _) hs (hb.alloc hs _)
    have hz:((a2:Int)==0)=false:=(by simp;omega);by_cases q1:t2=0
    ·skip
     have RES:Hid (res=none):=HNO.out (by rw[HPART.out];unfold zal;rw[if_pos (.inr (.inr q1))]);have hz2:((t2:Int)==0)=true:=(by simp;omega);clear q0 q1 HNO HGO HPART;go_wp2;go_ret2
     exact zE (RES0.out RES.out) (zL _) hs (hb.alloc hs _)
    have hz2:((t2:Int)==0)=false:=(by simp;omega);by_cases q2:(⟨#[]⟩:ByteArray).size<a1
    ·skip
     have RES:Hid (res=none):=HNO.out (by rw[HPART.out];unfold zal;rw[if_pos (.inr (.inl q2))]);have q2i:((⟨#[]⟩:ByteArray).size:Int)<(a1:Int):=(by omega);clear q0 q1 HNO HGO HPART;go_wp2;go_ret2
     exact zE (RES0.out RES.out) (zL _) hs (hb.alloc hs _)
    have HN1:Hid (¬ (a2=0∨(⟨#[]⟩:ByteArray).size<a1∨t2=0)):=(by unfold Hid;omega);clear q0 q1;by_cases k2:cap=p2
    ·skip
     have z1:(s1,s2)=(0,0):=(by rw[← HS.out,← k2];exact zez hl);obtain⟨rfl,rfl⟩:=Prod.mk.inj z1;have RES:Hid (res=none):=HNO.out (by rw[HPART.out];exact zbn HN1.out (.inl rfl));obtain rfl:p3=p2:=(by omega);have HRE:Hid (∀ a,Rd wr (.slice a 0 0) (bs.drop p3)):=fun a=>zfF (by omega)
     subst k2;clear z1 HNO HGO HPART HN1;go_wp2_with fail
     refine(zZ _ (bs.drop cap) _ (HRE.out _)).mono ?_;rw[HS.out];rintro e wz ⟨rfl,hwz⟩;obtain rfl:=hwz.symm;go_wp2_with fail
     refine(zY _ (bs.drop cap) _ (HRE.out _)).mono ?_;rw[HV.out];rintro e wz ⟨rfl,hwz⟩;obtain rfl:=hwz.symm;go_wp2;go_ret2
     exact zE (RES0.out RES.out) (zL _) hs (hb.alloc hs _)
    go_wp2_with fail
    refine(zZ _ (bs.drop p2) _ (HRD.out p2)).mono ?_;rw[HS.out];rintro e wz ⟨rfl,hwz⟩;obtain rfl:=hwz.symm;by_cases k3:cap=p3
    ·skip
     have q3:s2≠0:=(by omega);have z1:(v1,v2)=([],0):=(by rw[← HV.out,← k3];exact zdO hl);obtain⟨rfl,rfl⟩:=Prod.mk.inj z1;have RES:Hid (res=none):=HNO.out (by rw[HPART.out];exact zbn HN1.out (.inr rfl));have HRE:Hid (∀ a,Rd wr (.slice a 0 0) (bs.drop p3)):=fun a=>zfF (by omega)
     have hz3:((s2:Int)==0)=false:=(by simp;omega);subst k3;clear z1 HNO HGO HPART q3 HN1;go_wp2_with fail
     refine(zY _ (bs.drop cap) _ (HRE.out _)).mono ?_;rw[HV.out];rintro e wz ⟨rfl,hwz⟩;obtain rfl:=hwz.symm;go_wp2;go_ret2
     exact zE (RES0.out RES.out) (zL _) hs (hb.alloc hs _)
    go_wp2_with fail
    refine(zY _ (bs.drop p3) _ (HRD.out p3)).mono ?_;rw[HV.out];rintro e wz ⟨rfl,hwz⟩;obtain rfl:=hwz.symm;by_cases q3:s2=0
    ·skip
     have RES:Hid (res=none):=HNO.out (by rw[HPART.out];exact zbn HN1.out (.inl q3));have hz3:((s2:Int)==0)=true:=(by simp;omega);clear q3 HNO HGO HPART HN1;go_wp2;go_ret2
     exact zE (RES0.out RES.out) (zL _) hs (hb.alloc hs _)
    have hz3:((s2:Int)==0)=false:=(by simp;omega);by_cases q4:v2=0
    ·skip
     have RES:Hid (res=none):=HNO.out (by rw[HPART.out];exact zbn HN1.out (.inr q4));have hz4:((v2:Int)==0)=true:=(by simp;omega);clear q3 q4 HNO HGO HPART HN1;go_wp2;go_ret2
     exact zE (RES0.out RES.out) (zL _) hs (hb.alloc hs _)
    have hz4:((v2:Int)==0)=false:=(by simp;omega);obtain⟨key,hk⟩:∃ key:ByteArray,key=⟨((⟨#[]⟩:ByteArray).data.toList.take a1++t1).toArray⟩:=⟨_,rfl⟩;have hkc:=zkI (⟨#[]⟩:ByteArray) a1 t1;rw[← hk] at hkc;have HKC:Hid ((⟨#[]⟩:ByteArray).extract 0 a1++⟨t1.toArray⟩=key):=hkc;have HP:Hid (rdEnt false (⟨#[]⟩:ByteArray) (bs.drop p)=some (⟨key,⟨v1.toArray⟩,((s1 / 2:Nat):Int),decide (s1 % 2=1)⟩,a2+t2+s2+v2)):=by
     unfold Hid;rw[HPART.out,hk];exact zfE HN1.out (by omega)
    obtain⟨hg1,hg2,hg3⟩:=HGO.out _ _ HP.out;obtain⟨x,hx⟩:∃ x:Ent,x=⟨key,⟨v1.toArray⟩,((s1 / 2:Nat):Int),decide (s1 % 2=1)⟩:=⟨_,rfl⟩;have hxk:x.key=key:=(by rw[hx]);rw[← hx] at hg1 hg2 hg3;have HX:Hid (x=⟨key,⟨v1.toArray⟩,((s1 / 2:Nat):Int),decide (s1 % 2=1)⟩):=hx;have HG1:Hid (res=rdEs false bs m' p4 (es++[x]) x.key):=(by unfold Hid;rw[hg1];congr 1;omega);have HF4:Hid (∀ z∈es++[x],Fits z):=zin HFIT.out hg2;have HE1:Hid ((s1:Int) / 2=((s1 / 2:Nat):Int)):=(by unfold Hid;omega);have HE2:Hid (((s1:Int) % 2==1)=decide (s1 % 2=1)):=zoO s1;have hx5:=zau wr x 40;have ho5:=ho.below (ze _ (.cells #[.string x.key,.string x.val,.int .i64 x.seq,.bool x.gone] 40));have hb5:=hb.alloc hs (.cells #[.string x.key,.string x.val,.int .i64 x.seq,.bool x.gone] 40);have hs5:w.heap.size≤(wr.alloc (.cells #[.string x.key,.string x.val,.int .i64 x.seq,.bool x.gone] 40)).heap.size:=hb5.size;have HXB:Hid (wr.alloc (.cells #[.string x.key,.string x.val,.int .i64 x.seq,.bool x.gone] 40)=wr.alloc (.cells #[.string ((⟨#[]⟩:ByteArray).extract 0 a1++⟨t1.toArray⟩),.string ⟨v1.toArray⟩,.int .i64 ((s1:Int) / 2),.bool ((s1:Int) % 2==1)] 40)):=(by unfold Hid;rw[hx,HKC.out,HE1.out,HE2.out]);rw[HXB.out] at hx5 ho5 hb5 hs5;have HKX:Hid ((⟨#[]⟩:ByteArray).extract 0 a1++⟨t1.toArray⟩=x.key):=(by unfold Hid;rw[HKC.out,hxk]);clear hk hkc hx q3 q4 HNO HGO HPART HN1 HP hg1 hg2 HRD ho hxk;go_wp2_with (at_builtin;(refine zp rfl _ _ rfl w.heap.size _ _ es [x] rfl rfl ho5 (zh3 hx5) (by simp;omega) hs5 ?_))
    intro v6 w6 ho6 hg6;have hb6:=hb5.grown hg6 hs5 (fun j hj=>(oL ho5 j hj).1);clear ho5 hx5 hb5 hg6;go_wp2;go_roundw
    case rel=>exact⟨m',p4,es++[x],x.key,by go_num,by go_num,by rw[HKX.out],by simp;omega,u4,by simp;omega,ho6,hb6,HF4,HG1⟩
    case measure=>simp[intOf]
   ·have h8d:((es.length:Int) % 8==0)=false:=(by simp;omega);have HL:Hid (ahead es.length last=last):=(by unfold Hid ahead;rw[if_neg h8]);have hLs:last.size≤3000*es.length:=hls;have HPART:Hid (rdEnt false last (bs.drop p)=zal false last (a1,a2) (t1,t2) (s1,s2) (v1,v2)):=HPARTS.out last;have HNO:Hid (rdEnt false last (bs.drop p)=none→res=none):=fun h=>by rw[HR.out];exact ziE (by rw[HL.out];exact h)
    have HGO:Hid (∀ y k,rdEnt false last (bs.drop p)=some (y,k)→res=rdEs false bs m' (p+k) (es++[y]) y.key∧Fits y∧y.key.size≤3000*(es.length+1)):=fun y k h=>by
     refine⟨by rw[HR.out];exact zgS (by rw[HL.out];exact h),zfm h (by omega),?_⟩;have:=zdM h;omega
    clear HPARTS HR HL;by_cases k0:cap=p
    ·skip
     have z1:(a1,a2)=(0,0):=(by rw[← HA.out,← k0];exact zez hl);obtain⟨rfl,rfl⟩:=Prod.mk.inj z1;have RES:Hid (res=none):=HNO.out (by rw[HPART.out];unfold zal;rw[if_pos (.inl rfl)]);obtain rfl:p1=p:=(by omega);have HRE:Hid (∀ a,Rd wr (.slice a 0 0) (bs.drop p1)):=fun a=>zfF (by omega)
     subst k0;clear z1 HNO HGO HPART;go_wp2_with fail
     refine(zZ _ (bs.drop cap) _ (HRE.out _)).mono ?_;rw[HA.out];rintro e wz ⟨rfl,hwz⟩;obtain rfl:=hwz.symm;go_wp2_with fail
     refine(zY _ (bs.drop cap) _ (HRE.out _)).mono ?_;rw[HT.out];rintro e wz ⟨rfl,hwz⟩;obtain rfl:=hwz.symm;go_wp2;go_ret2
     exact zE (RES0.out RES.out) (zL _) hs (hb.alloc hs _)
    go_wp2_with fail
    refine(zZ _ (bs.drop p) _ (HRD.out p)).mono ?_;rw[HA.out];rintro e wz ⟨rfl,hwz⟩;obtain rfl:=hwz.symm;by_cases k1:cap=p1
    ·skip
     have q0:a2≠0:=(by omega);have z1:(t1,t2)=([],0):=(by rw[← HT.out,← k1];exact zdO hl);obtain⟨rfl,rfl⟩:=Prod.mk.inj z1;have RES:Hid (res=none):=HNO.out (by rw[HPART.out];unfold zal;rw[if_pos (.inr (.inr rfl))]);have HRE:Hid (∀ a,Rd wr (.slice a 0 0) (bs.drop p1)):=fun a=>zfF (by omega)
     have hz:((a2:Int)==0)=false:=(by simp;omega);subst k1;clear z1 HNO HGO HPART q0;go_wp2_with fail
     refine(zY _ (bs.drop cap) _ (HRE.out _)).mono ?_;rw[HT.out];rintro e wz ⟨rfl,hwz⟩;obtain rfl:=hwz.symm;go_wp2;go_ret2
     exact zE (RES0.out RES.out) (zL _) hs (hb.alloc hs _)
    go_wp2_with fail
    refine(zY _ (bs.drop p1) _ (HRD.out p1)).mono ?_;rw[HT.out];rintro e wz ⟨rfl,hwz⟩;obtain rfl:=hwz.symm;by_cases q0:a2=0
    ·skip
     have RES:Hid (res=none):=HNO.out (by rw[HPART.out];unfold zal;rw[if_pos (.inl q0)]);have hz:((a2:Int)==0)=true:=(by simp;omega);clear q0 HNO HGO HPART;go_wp2;go_ret2
     exact zE (RES0.out RES.out) (zL _) hs (hb.alloc hs _)
    have hz:((a2:Int)==0)=false:=(by simp;omega);by_cases q1:t2=0
    ·skip
     have RES:Hid (res=none):=HNO.out (by rw[HPART.out];unfold zal;rw[if_pos (.inr (.inr q1))]);have hz2:((t2:Int)==0)=true:=(by simp;omega);clear q0 q1 HNO HGO HPART;go_wp2;go_ret2
     exact zE (RES0.out RES.out) (zL _) hs (hb.alloc hs _)
    have hz2:((t2:Int)==0)=false:=(by simp;omega);by_cases q2:last.size<a1
    ·skip
     have RES:Hid (res=none):=HNO.out (by rw[HPART.out];unfold zal;rw[if_pos (.inr (.inl q2))]);have q2i:(last.size:Int)<(a1:Int):=(by omega);clear q0 q1 HNO HGO HPART;go_wp2;go_ret2
     exact zE (RES0.out RES.out) (zL _) hs (hb.alloc hs _)
    have HN1:Hid (¬ (a2=0∨last.size<a1∨t2=0)):=(by unfold Hid;omega);clear q0 q1;by_cases k2:cap=p2
    ·skip
     have z1:(s1,s2)=(0,0):=(by rw[← HS.out,← k2];exact zez hl);obtain⟨rfl,rfl⟩:=Prod.mk.inj z1;have RES:Hid (res=none):=HNO.out (by rw[HPART.out];exact zbn HN1.out (.inl rfl));obtain rfl:p3=p2:=(by omega);have HRE:Hid (∀ a,Rd wr (.slice a 0 0) (bs.drop p3)):=fun a=>zfF (by omega)
     subst k2;clear z1 HNO HGO HPART HN1;go_wp2_with fail
     refine(zZ _ (bs.drop cap) _ (HRE.out _)).mono ?_;rw[HS.out];rintro e wz ⟨rfl,hwz⟩;obtain rfl:=hwz.symm;go_wp2_with fail
     refine(zY _ (bs.drop cap) _ (HRE.out _)).mono ?_;rw[HV.out];rintro e wz ⟨rfl,hwz⟩;obtain rfl:=hwz.symm;go_wp2;go_ret2
     exact zE (RES0.out RES.out) (zL _) hs (hb.alloc hs _)
    go_wp2_with fail
    refine(zZ _ (bs.drop p2) _ (HRD.out p2)).mono ?_;rw[HS.out];rintro e wz ⟨rfl,hwz⟩;obtain rfl:=hwz.symm;by_cases k3:cap=p3
    ·skip
     have q3:s2≠0:=(by omega);have z1:(v1,v2)=([],0):=(by rw[← HV.out,← k3];exact zdO hl);obtain⟨rfl,rfl⟩:=Prod.mk.inj z1;have RES:Hid (res=none):=HNO.out (by rw[HPART.out];exact zbn HN1.out (.inr rfl));have HRE:Hid (∀ a,Rd wr (.slice a 0 0) (bs.drop p3)):=fun a=>zfF (by omega)
     have hz3:((s2:Int)==0)=false:=(by simp;omega);subst k3;clear z1 HNO HGO HPART q3 HN1;go_wp2_with fail
     refine(zY _ (bs.drop cap) _ (HRE.out _)).mono ?_;rw[HV.out];rintro e wz ⟨rfl,hwz⟩;obtain rfl:=hwz.symm;go_wp2;go_ret2
     exact zE (RES0.out RES.out) (zL _) hs (hb.alloc hs _)
    go_wp2_with fail
    refine(zY _ (bs.drop p3) _ (HRD.out p3)).mono ?_;rw[HV.out];rintro e wz ⟨rfl,hwz⟩;obtain rfl:=hwz.symm;by_cases q3:s2=0
    ·skip
     have RES:Hid (res=none):=HNO.out (by rw[HPART.out];exact zbn HN1.out (.inl q3));have hz3:((s2:Int)==0)=true:=(by simp;omega);clear q3 HNO HGO HPART HN1;go_wp2;go_ret2
     exact zE (RES0.out RES.out) (zL _) hs (hb.alloc hs _)
    have hz3:((s2:Int)==0)=false:=(by simp;omega);by_cases q4:v2=0
    ·skip
     have RES:Hid (res=none):=HNO.out (by rw[HPART.out];exact zbn HN1.out (.inr q4));have hz4:((v2:Int)==0)=true:=(by simp;omega);clear q3 q4 HNO HGO HPART HN1;go_wp2;go_ret2
     exact zE (RES0.out RES.out) (zL _) hs (hb.alloc hs _)
    have hz4:((v2:Int)==0)=false:=(by simp;omega);obtain⟨key,hk⟩:∃ key:ByteArray,key=⟨(last.data.toList.take a1++t1).toArray⟩:=⟨_,rfl⟩;have hkc:=zkI last a1 t1;rw[← hk] at hkc;have HKC:Hid (last.extract 0 a1++⟨t1.toArray⟩=key):=hkc;have HP:Hid (rdEnt false last (bs.drop p)=some (⟨key,⟨v1.toArray⟩,((s1 / 2:Nat):Int),decide (s1 % 2=1)⟩,a2+t2+s2+v2)):=by
     unfold Hid;rw[HPART.out,hk];exact zfE HN1.out (by omega)
    obtain⟨hg1,hg2,hg3⟩:=HGO.out _ _ HP.out;obtain⟨x,hx⟩:∃ x:Ent,x=⟨key,⟨v1.toArray⟩,((s1 / 2:Nat):Int),decide (s1 % 2=1)⟩:=⟨_,rfl⟩;have hxk:x.key=key:=(by rw[hx]);rw[← hx] at hg1 hg2 hg3;have HX:Hid (x=⟨key,⟨v1.toArray⟩,((s1 / 2:Nat):Int),decide (s1 % 2=1)⟩):=hx;have HG1:Hid (res=rdEs false bs m' p4 (es++[x]) x.key):=(by unfold Hid;rw[hg1];congr 1;omega);have HF4:Hid (∀ z∈es++[x],Fits z):=zin HFIT.out hg2;have HE1:Hid ((s1:Int) / 2=((s1 / 2:Nat):Int)):=(by unfold Hid;omega);have HE2:Hid (((s1:Int) % 2==1)=decide (s1 % 2=1)):=zoO s1;have hx5:=zau wr x 40;have ho5:=ho.below (ze _ (.cells #[.string x.key,.string x.val,.int .i64 x.seq,.bool x.gone] 40));have hb5:=hb.alloc hs (.cells #[.string x.key,.string x.val,.int .i64 x.seq,.bool x.gone] 40);have hs5:w.heap.size≤(wr.alloc (.cells #[.string x.key,.string x.val,.int .i64 x.seq,.bool x.gone] 40)).heap.size:=hb5.size;have HXB:Hid (wr.alloc (.cells #[.string x.key,.string x.val,.int .i64 x.seq,.bool x.gone] 40)=wr.alloc (.cells #[.string (last.extract 0 a1++⟨t1.toArray⟩),.string ⟨v1.toArray⟩,.int .i64 ((s1:Int) / 2),.bool ((s1:Int) % 2==1)] 40)):=(by unfold Hid;rw[hx,HKC.out,HE1.out,HE2.out]);rw[HXB.out] at hx5 ho5 hb5 hs5;have HKX:Hid (last.extract 0 a1++⟨t1.toArray⟩=x.key):=(by unfold Hid;rw[HKC.out,hxk]);clear hk hkc hx q3 q4 HNO HGO HPART HN1 HP hg1 hg2 HRD ho hxk;go_wp2_with (at_builtin;(refine zp rfl _ _ rfl w.heap.size _ _ es [x] rfl rfl ho5 (zh3 hx5) (by simp;omega) hs5 ?_))
    intro v6 w6 ho6 hg6;have hb6:=hb5.grown hg6 hs5 (fun j hj=>(oL ho5 j hj).1);clear ho5 hx5 hb5 hg6;go_wp2;go_roundw
    case rel=>exact⟨m',p4,es++[x],x.key,by go_num,by go_num,by rw[HKX.out],by simp;omega,u4,by simp;omega,ho6,hb6,HF4,HG1⟩
    case measure=>simp[intOf]
  ·have hm0:m=0:=(by omega);subst hm0;have FIN:Hid (F=if packL es=bs then (es,true) else ([],false)):=RES1.out es p HR.out;have hrd:=HRD0.out.below hb;obtain⟨sd,hsd⟩:∃ sd:ByteArray,sd=⟨bs.toArray⟩:=⟨_,rfl⟩;obtain⟨sp,hsp⟩:∃ sp:ByteArray,sp=⟨(packL es).toArray⟩:=⟨_,rfl⟩;have HCD:Hid (∀ W,Rd W (.slice (some ⟨b,off,none⟩) bs.length cap) bs→(convert 22 9 (.slice (some ⟨b,off,none⟩) bs.length cap)).run Tryz.prog W=.ok (.string sd) W):=fun W h=>by rw[hsd];exact conv_rd h
   have HCP:Hid (∀ W B u,Own W B u (packL es)→(convert 22 9 u).run Tryz.prog W=.ok (.string sp) W):=fun W B u h=>by rw[hsp];exact zcv h
   have HEQ:sp.toList=sd.toList↔packL es=bs:=by
    rw[hsd,hsp,ByteArray.toList_eq,ByteArray.toList_eq]
   clear hsd hsp;have hcd:=HCD.out wr.drew (show Rd wr.drew _ bs from hrd.drewN 1);go_wp2_with fail
   refine brg (S:=fun w'=>(convert 22 9 (.slice (some ⟨b,off,none⟩) bs.length cap)).run Tryz.prog w'=.ok (.string sd) w') hcd (fun hH=>?_);have qo:OwnE wr.drew _ _ es:=ho.drewN 1;have qb:=hb.drew;have qr:Rd wr.drew _ bs:=hrd.drewN 1;clear ho hb hrd hcd hs;revert hH qo qb qr;generalize wr.drew=W0;intro hH qo qb qr;refine kA 0 115 hH ?_;refine kA 3 118 hH ?_;refine kA 4 119 hH ?_;refine rdy 1 (fun K hK=>?_);go_simp;refine(zg6 _ es _ qo.rd HFIT.out).mono ?_;rintro e w3 ⟨u3,rfl,ho3,hb3⟩;replace qb:=qb.trans (hb3.mono qb.size);replace qo:=qo.below hb3;replace qr:=qr.below hb3;refine hK.out _ _ (HCD.out _ qr) (fun hI=>?_);clear hK K;try simp only[Act.put,sA,sZ,sS]
   have hJ:(fun w'=>(convert 22 9 u3).run Tryz.prog w'=.ok (.string sp) w'∧(convert 22 9 (.slice (some ⟨b,off,none⟩) bs.length cap)).run Tryz.prog w'=.ok (.string sd) w') w3:=⟨HCP.out _ _ _ ho3,hI⟩;refine zbT (S':=fun w'=>(convert 22 9 u3).run Tryz.prog w'=.ok (.string sp) w'∧(convert 22 9 (.slice (some ⟨b,off,none⟩) bs.length cap)).run Tryz.prog w'=.ok (.string sd) w') (fun _ h=>h.2) _ _ _ _ ?_;refine kA 2 117 hJ ?_;by_cases hq:packL es=bs
   ·skip
    have hq2:sp.toList=sd.toList:=HEQ.2 hq;have RES:Hid (F=(es,true)):=(by unfold Hid;rw[FIN.out,if_pos hq]);clear HEQ hq FIN;refine kA 5 120 hJ ?_;refine dne ?_;go_wp2;go_ret2
    exact zdf RES.out qo (nR _) qb
   ·skip
    have hq2:¬ sp.toList=sd.toList:=fun h=>hq (HEQ.1 h)
    have hq3:(!sp.toList==sd.toList)=true:=(by simpa using hq2);clear hq2;have RES:Hid (F=([],false)):=(by unfold Hid;rw[FIN.out,if_neg hq]);clear HEQ hq FIN;refine kA 5 120 hJ ?_;refine dne ?_;go_wp2;go_ret2
    exact zE RES.out (zL _) qb.size (qb.alloc qb.size _)
open Go.RowKit
theorem zm2(va vb:Value)(xs ys:List Int)(w:World)(ha:RdI w va xs)(hb:RdI w vb ys) :
 Calls Tryz.prog 142 #[va,vb] w fun e w'=>e=.returned (.bool (decide (xs=ys)))∧∃ n,w'=w.drewN n:=by
 obtain⟨aa,ca,hva,hla,hma,_⟩:=id ha;obtain⟨ab,cb,hvb,hlb,hmb,_⟩:=id hb;subst hva;subst hvb;unfold maxLen at hma hmb;by_cases hlen:xs.length=ys.length
 ·have hne:((xs.length:Int) != (ys.length:Int))=false:=by simp;omega
  obtain⟨R,hR⟩:∃ R,R=decide (xs=ys):=⟨_,rfl⟩;rw[← hR];have HR:Hid (R=decide (xs=ys)):=hR;have HL:Hid (xs.length=ys.length):=hlen;clear hR hlen;go_enter Tryz.func142,Tryz.ntmps142
  go_wp2;go_loopw [5] (fun i wr=>∃ k:Nat,k≤xs.length∧i=.int .i64 k∧Hid (xs.take k=ys.take k)∧∃ n,wr=w.drewN n) (fun i _=>xs.length-(intOf i).toNat)
  case atStart=>exact⟨0,Nat.zero_le _,rfl,by unfold Hid;simp,0,rfl⟩
  case round =>
   obtain⟨k,hk,rfl,HT,n,rfl⟩:=hrel;by_cases hlt:k<xs.length
   ·have hltb:k<ys.length:=(by have:=HL.out;omega);obtain⟨b1,o1,rfl,c1⟩:=(ha.drewN n).at k hlt;obtain⟨b2,o2,rfl,c2⟩:=(hb.drewN n).at k hltb;obtain⟨x,hx⟩:∃ x,x=xs[k]:=⟨_,rfl⟩;obtain⟨y,hy⟩:∃ y,y=ys[k]:=⟨_,rfl⟩;rw[← hx] at c1;rw[← hy] at c2;by_cases hxy:x=y
    ·have hd:(x != y)=false:=(by simp[hxy]);have HT2:Hid (xs.take (k+1)=ys.take (k+1)):=(by unfold Hid;rw[List.take_succ_eq_append_getElem hlt,List.take_succ_eq_append_getElem hltb,HT.out,← hx,← hy,hxy]);clear hx hy hxy HT;go_wp2_with fail
     refine brg (S:=fun w'=>w'.cell? ⟨b1,o1+k,none⟩=some (.int .i64 x)∧w'.cell? ⟨b2,o2+k,none⟩=some (.int .i64 y)) ⟨c1,c2⟩ (fun hH=>?_);refine kA 0 17 hH ?_;refine kA 1 18 hH ?_;refine kA 2 19 hH ?_;refine kA 3 20 hH ?_;refine kA 4 21 hH ?_;refine kA 5 22 hH ?_;refine kA 6 23 hH ?_;refine kA 7 24 hH ?_;refine kA 8 25 hH ?_;refine dne ?_;go_wp2;go_roundw
     case rel=>exact⟨k+1,by omega,by go_num,HT2,n+1,rfl⟩
     case measure=>simp[intOf];omega
    ·have hd:(x != y)=true:=(by simp[hxy]);have HF:Hid (R=false):=by
      unfold Hid;rw[HR.out];refine decide_eq_false fun e=>hxy ?_
      rw[hx,hy];simp only[e]
     clear hx hy hxy HT;go_wp2_with fail
     refine brg (S:=fun w'=>w'.cell? ⟨b1,o1+k,none⟩=some (.int .i64 x)∧w'.cell? ⟨b2,o2+k,none⟩=some (.int .i64 y)) ⟨c1,c2⟩ (fun hH=>?_);refine kA 0 17 hH ?_;refine kA 1 18 hH ?_;refine kA 2 19 hH ?_;refine kA 3 20 hH ?_;refine kA 4 21 hH ?_;refine kA 5 22 hH ?_;refine kA 6 23 hH ?_;refine kA 7 24 hH ?_;refine kA 8 25 hH ?_;refine dne ?_;go_wp2;go_ret;exact⟨by have h:=HF.out;subst h;rfl,n+1,rfl⟩
   ·have HF:Hid (R=true):=by
     unfold Hid;rw[HR.out];have:=HT.out;rw[List.take_of_length_le (by omega),List.take_of_length_le (by have:=HL.out;omega)] at this;exact decide_eq_true this
    have hlt2:¬ (k:Int)<(xs.length:Int):=(by omega);go_wp2;go_ret;exact⟨by have h:=HF.out;subst h;rfl,n,rfl⟩
 ·have hne:((xs.length:Int) != (ys.length:Int))=true:=by simp;omega
  have HF:Hid (decide (xs=ys)=false):=decide_eq_false fun e=>hlen (by rw[e])
  rw[HF.out];clear hlen;go_enter Tryz.func142,Tryz.ntmps142
  go_wp2;go_ret;exact⟨rfl,0,rfl⟩
def TblAt(w:World)(b:Nat)(T:Tbl)(vb vk:Value):Prop :=
 w.cell? ⟨b,0,none⟩=some (.string T.first)∧w.cell? ⟨b,1,none⟩=some (.string T.last)∧w.cell? ⟨b,2,none⟩=some vb∧w.cell? ⟨b,3,none⟩=some vk
theorem TblAt.lt{w:World}{b:Nat}{T:Tbl}{vb vk:Value}(h:TblAt w b T vb vk):b<w.heap.size:=World.block_lt_of_cell? w _ h.1
theorem TblAt.of_block{w w':World}{b:Nat}{T:Tbl}{vb vk:Value}(h:TblAt w b T vb vk)(hb:w'.heap[b]? = w.heap[b]?):TblAt w' b T vb vk :=
 ⟨(World.cell?_of_block (a:=⟨b,0,none⟩) hb).trans h.1,(World.cell?_of_block (a:=⟨b,1,none⟩) hb).trans h.2.1,(World.cell?_of_block (a:=⟨b,2,none⟩) hb).trans h.2.2.1,(World.cell?_of_block (a:=⟨b,3,none⟩) hb).trans h.2.2.2⟩
theorem TblAt.below{w w':World}{b:Nat}{T:Tbl}{vb vk:Value}(h:TblAt w b T vb vk)(hb:Below w.heap.size w w'):TblAt w' b T vb vk:=h.of_block (hb.block b h.lt)
theorem zeI(W:World)(T:Tbl)(vb vk:Value)(t:TypeId):TblAt (W.alloc (.cells #[.string T.first,.string T.last,vb,vk] t)) W.heap.size T vb vk :=
 ⟨by simp[World.cell?_alloc_at],by simp[World.cell?_alloc_at],by simp[World.cell?_alloc_at],by simp[World.cell?_alloc_at]⟩
theorem zmE{w wr:World}{B:Nat}{F:List Ent×Bool}{u:Value}{es:List Ent}{ok:Bool}(h:F=(es,ok))(ho:OwnE wr B u es)(hB:w.heap.size≤B)(hb:Below w.heap.size w wr):zbW w F (.returned (.tuple #[u,.bool ok])) wr:=by
 subst h;exact⟨u,rfl,ho.mono hB,hb⟩
theorem RdS.at{w:World}{a:Option Addr}{n cap:Nat}{ss:List ByteArray}(h:RdS w (.slice a n cap) ss)(i:Nat)(hi:i<ss.length):∃ b off,a=some ⟨b,off,none⟩∧w.cell? ⟨b,off+i,none⟩=some (.string ss[i]):=by
 obtain⟨a',cap',hv,_,_,h3⟩:=h;simp only[Value.slice.injEq] at hv;obtain⟨rfl,_,_⟩:=hv;rcases h3 with rfl | ⟨b,off,ha,hc⟩
 ·simp at hi
 ·exact⟨b,off,ha,hc i hi⟩
theorem zo7{b:ByteArray}{r:List ByteArray}{acc:List Ent}(h:¬ ((unpI b.data.toList).2=true∧1≤(unpI b.data.toList).1.length∧(unpI b.data.toList).1.length≤8)):allF (b::r) acc=none:=by rw[allF,if_neg h]
theorem zoE{b:ByteArray}{r:List ByteArray}{acc:List Ent}(h:(unpI b.data.toList).2=true∧1≤(unpI b.data.toList).1.length∧(unpI b.data.toList).1.length≤8):allF (b::r) acc=allF r (acc++(unpI b.data.toList).1):=by rw[allF,if_pos h]
theorem zkh(bs:List UInt8):∀ x∈(unpI bs).1,Fits x:=by
 cases h:unpI bs with
 | mk es ok =>
  cases ok with
  | true =>
   intro x hx;have:=zaQ (zdn (zge h).1 x hx);exact⟨by omega,by omega,by omega,by omega⟩
  | false=>rw[zon h];intro x hx;cases hx
theorem zkx(v:Value)(bs:List UInt8)(w:World)(hr:Rd w v bs):Calls Tryz.prog 141 #[v] w fun e w'=>zbW w (unpI bs) e w':=by rw[← unp_same];exact zfK v bs w hr
theorem zjI(T:Tbl)(vb vk:Value)(w:World)(hr:RdS w vk T.blocks)(hz:∀ s∈T.blocks,s.size≤1000000000) :
 Calls Tryz.prog 114 #[.agg #[.string T.first,.string T.last,vb,vk]] w fun e w'=>zbW w (allL T) e w':=by
 obtain⟨ak,ck,hvk,hl,hm,_⟩:=id hr;obtain⟨kn,hkn⟩:∃ kn,kn=T.blocks.length:=⟨_,rfl⟩;have HKN:Hid (kn=T.blocks.length):=hkn;rw[← hkn] at hl hvk;subst hvk;clear hkn;unfold maxLen at hm;have HZ:Hid (∀ s∈T.blocks,s.size≤1000000000):=hz;clear hz;have ht0:=zeI w T vb (.slice ak kn ck) 56;have b0:=ze w (.cells #[.string T.first,.string T.last,vb,.slice ak kn ck] 56);obtain⟨F,hF⟩:∃ F,F=allL T:=⟨_,rfl⟩;rw[← hF];have HF:Hid (F=allL T):=hF;clear hF;obtain⟨d0,d1,d2,d3⟩:=id ht0;by_cases hbad:kn<1∨40<kn
 ·have RES:Hid (F=([],false)):=by unfold Hid;rw[HF.out];unfold allL;rw[← HKN.out,if_pos hbad]
  have hoE:=zX (w.alloc (.cells #[.string T.first,.string T.last,vb,.slice ak kn ck] 56));rw[show (w.alloc (.cells #[.string T.first,.string T.last,vb,.slice ak kn ck] 56)).heap.size=w.heap.size+1 by simp] at hoE;rcases hbad with hb1 | hb1
  ·have hd1:decide ((kn:Int)<1)=true:=(by simp;omega);go_enter Tryz.func114,Tryz.ntmps114
   go_wp2;go_ret2
   exact zE RES.out hoE (Nat.le_succ _) (b0.alloc b0.size _)
  ·have hd1:decide ((kn:Int)<1)=false:=(by simp;omega);have hd2:decide (40<(kn:Int))=true:=(by simp;omega);go_enter Tryz.func114,Tryz.ntmps114
   go_wp2;go_ret2
   exact zE RES.out hoE (Nat.le_succ _) (b0.alloc b0.size _)
 obtain⟨res,hres⟩:∃ res,res=allF T.blocks []:=⟨_,rfl⟩;have HR0:Hid (allF (T.blocks.drop 0) []=res):=by rw[List.drop_zero];exact hres.symm
 have R0:Hid (res=none→F=([],false)):=fun h=>by rw[HF.out];unfold allL;rw[← HKN.out,if_neg hbad,← hres,h]
 have R1:Hid (∀ es,res=some es→F=(es,okL es)):=fun es h=>by rw[HF.out];unfold allL;rw[← HKN.out,if_neg hbad,← hres,h]
 clear hres HF;have hk1:1≤kn:=by omega
 have hk2:kn≤40:=by omega
 have hd1:decide ((kn:Int)<1)=false:=by simp;omega
 have hd2:decide (40<(kn:Int))=false:=by simp;omega
 have hoE:=zX (w.alloc (.cells #[.string T.first,.string T.last,vb,.slice ak kn ck] 56));have b1:=b0.alloc b0.size (.cells #[] 40);have ht1:=ht0.below (ze _ (.cells #[] 40));rw[show (w.alloc (.cells #[.string T.first,.string T.last,vb,.slice ak kn ck] 56)).heap.size=w.heap.size+1 by simp] at hoE;clear hbad;go_enter Tryz.func114,Tryz.ntmps114
 go_wp2;clear d0 d1 d2 d3;go_loopw [4,5] (fun u i wr=>∃ (k:Nat) (es:List Ent),k≤kn∧i=.int .i64 k∧Hid (allF (T.blocks.drop k) es=res)∧es.length≤8*k∧Hid (∀ x∈es,Fits x)∧OwnE wr (w.heap.size+1) u es∧TblAt wr w.heap.size T vb (.slice ak kn ck)∧Below w.heap.size w wr) (fun _ i _=>kn-(intOf i).toNat)
 case atStart=>exact⟨0,[],Nat.zero_le _,rfl,HR0,Nat.zero_le _,(fun x hx=>by cases hx),hoE,ht1,b1⟩
 case round =>
  obtain⟨k,es,hk,rfl,HA,hel,HFT,ho,ht,hb⟩:=hrel;clear hoE b1 ht1 ht0 b0 HR0;obtain⟨d0,d1,d2,d3⟩:=id ht;by_cases hlt:k<kn
  ·have hltb:k<T.blocks.length:=(by rw[← HKN.out];exact hlt);obtain⟨b,off,rfl,hcs⟩:=(hr.below hb).at k hltb;obtain⟨s,hs⟩:∃ s,s=T.blocks[k]:=⟨_,rfl⟩;rw[← hs] at hcs;have hsz:s.size≤1000000000:=(by rw[hs];exact HZ.out _ (List.getElem_mem hltb));have HA2:Hid (allF (s::T.blocks.drop (k+1)) es=res):=(by rw[hs,← List.drop_eq_getElem_cons hltb];exact HA);clear hs HA;have hcb:=zdW wr s;have hrd:=zhZ wr s (by unfold maxLen;omega);have hbb:=zeu wr s;generalize Lib.bytesWorld wr 5 s=W at hcb hrd hbb;generalize grownCap wr s.size 0 5=c0 at hcb hrd;obtain⟨F2,hF2⟩:∃ F2,F2=unpI s.data.toList:=⟨_,rfl⟩;have HCU:Hid (Calls Tryz.prog 141 #[.slice (some ⟨wr.heap.size,0,none⟩) s.size c0] W fun e w'=>zbW W F2 e w'):=(by rw[hF2];exact zkx _ _ _ hrd);have HFF:Hid (∀ x∈F2.1,Fits x):=(by rw[hF2];exact zkh _);have HNO:Hid (¬ (F2.2=true∧1≤F2.1.length∧F2.1.length≤8)→F=([],false)):=fun h=>R0.out (by rw[← HA2.out];exact zo7 (by rw[← hF2];exact h))
   have HGO:Hid (F2.2=true∧1≤F2.1.length∧F2.1.length≤8→allF (T.blocks.drop (k+1)) (es++F2.1)=res):=fun h=>by rw[← HA2.out,zoE (by rw[← hF2];exact h),← hF2]
   clear hF2 hrd HA2;obtain⟨l,is⟩:=F2;have ho2:=ho.below hbb;have ht2:=ht.below hbb;have b2:=hb.trans (hbb.mono hb.size);clear ho ht hb hbb;go_wp2_with fail
   refine HCU.out.mono ?_;rintro e w3 ⟨ul,rfl,hl3,hb3⟩;simp only at hl3 HNO HGO HFF ⊢;have ho3:=ho2.below hb3;have ht3:=ht2.below hb3;have b3:=b2.trans (hb3.mono b2.size);clear ho2 ht2 b2 hb3 HCU hcb d0 d1 d2 d3 hcs;obtain⟨al,cl,hvl,hl1,hl2,_⟩:=id hl3.rd;obtain⟨ln,hln⟩:∃ ln,ln=l.length:=⟨_,rfl⟩;rw[← hln] at hvl hl1 HNO HGO;have HLN:Hid (ln=l.length):=hln;subst hvl;unfold maxLen at hl2;clear hln;cases is with
   | false =>
    have RES:Hid (F=([],false)):=HNO.out (by simp);go_wp2;go_ret2
    exact zE RES.out (zL w3) b3.size (b3.alloc b3.size _)
   | true =>
    by_cases q1:ln<1
    ·skip
     have RES:Hid (F=([],false)):=HNO.out (by omega);have q1d:decide ((ln:Int)<1)=true:=(by simp;omega);go_wp2;go_ret2
     exact zE RES.out (zL w3) b3.size (b3.alloc b3.size _)
    ·have q1d:decide ((ln:Int)<1)=false:=(by simp;omega);by_cases q2:8<ln
     ·skip
      have RES:Hid (F=([],false)):=HNO.out (by omega);have q2d:decide (8<(ln:Int))=true:=(by simp;omega);go_wp2;go_ret2
      exact zE RES.out (zL w3) b3.size (b3.alloc b3.size _)
     ·skip
      have q2d:decide (8<(ln:Int))=false:=(by simp;omega);have HA4:Hid (allF (T.blocks.drop (k+1)) (es++l)=res):=HGO.out ⟨rfl,by omega,by omega⟩;have HFT4:Hid (∀ x∈es++l,Fits x):=fun x hx=>by
       rcases List.mem_append.1 hx with h | h
       ·exact HFT.out x h
       ·exact HFF.out x h
      have hel4:(es++l).length≤8*(k+1):=(by rw[lA,← HLN.out];omega);go_wp2_with (at_builtin;(refine zp rfl _ _ rfl (w.heap.size+1) _ _ es l rfl rfl ho3 hl3.rd (by rw[← HLN.out];omega) ht3.lt ?_))
      intro v5 w5 ho5 hg5;have b5:=b3.grown hg5 b3.size (fun j hj=>Nat.le_of_succ_le (oL ho3 j hj).1);have ht5:TblAt w5 w.heap.size T vb (.slice (some ⟨b,off,none⟩) kn ck):=ht3.of_block (hg5.block _ ht3.lt (fun e=>by have:=(oL ho3 _ e.symm).1;omega));clear ho3 ht3 b3 hl3 hg5;go_wp2;go_roundw
      case rel=>exact⟨k+1,es++l,by omega,by go_num,HA4,hel4,HFT4,ho5,ht5,b5⟩
      case measure=>simp[intOf];omega
  ·skip
   have hke:k=kn:=(by omega);have RES:Hid (F=(es,okL es)):=R1.out es (by have:=HA.out;rw[hke,HKN.out,List.drop_eq_nil_of_le (nR _),allF] at this;exact this.symm);have hlt2:¬ (k:Int)<(kn:Int):=(by omega);clear hke HA;go_wp2_with fail
   refine(za4 _ es _ ho.rd HFT.out).mono ?_;rintro e w3 ⟨rfl,hb3⟩;have ho3:=ho.below hb3;have b3:=hb.trans (hb3.mono hb.size);generalize okL es=ok at RES ⊢;go_wp2;go_ret2
   exact zmE RES.out ho3 (Nat.le_succ _) b3
end Go.Proofs.YtjlnchhgkfnldaaGreat
