import Derived.Test.YtjlnchhgkfnldaaGreatG12
import Derived.Deep.LoopGhost
namespace Go.Proofs.YtjlnchhgkfnldaaGreat
set_option maxHeartbeats 16000000
set_option maxRecDepth 100000
open Go.RowKit
def mgTo(ps:List (Value×List Ent))(k:Nat):List Ent:=((ps.take k).map (·.2)).foldl mrg []
theorem zjl(ps:List (Value×List Ent))(k:Nat)(h:k<ps.length):mgTo ps (k+1)=mrg (mgTo ps k) ps[k].2:=by
 unfold mgTo;rw[List.take_succ_eq_append_getElem h,List.map_append,List.foldl_append];rfl
theorem zly(ps:List (Value×List Ent)):mgTo ps ps.length=zj (ps.map (·.2)):=by unfold mgTo zj;rw[List.take_length]
theorem zis(ps:List (Value×List Ent))(hl:∀ p∈ps,p.2.length≤300):∀ k,k≤ps.length→(mgTo ps k).length≤300*k
 | 0,_=>by simp[mgTo]
 | k+1,h=>by
  have ih:=zis ps hl k (by omega);have h1:=ziD _ (mgTo ps k) (ps[k]'(by omega)).2 (nR _);have h2:=hl (ps[k]'(by omega)) (List.getElem_mem _);rw[zjl ps k (by omega)];omega
theorem mrg_x{x y:Ent}{r s:List Ent}(h:ahd x y=true):mrg (x::r) (y::s)=x::mrg r (y::s):=by rw[mrg,if_pos h]
theorem mrg_y{x y:Ent}{r s:List Ent}(h:ahd x y=false)(h2:ahd y x=true):mrg (x::r) (y::s)=y::mrg (x::r) s:=by rw[mrg,if_neg (by rw[h];simp),if_pos h2]
theorem mrg_z{x y:Ent}{r s:List Ent}(h:ahd x y=false)(h2:ahd y x=false):mrg (x::r) (y::s)=mrg (x::r) s:=by rw[mrg,if_neg (by rw[h];simp),if_neg (by rw[h2];simp)]
theorem zfk{w:World}{b off n:Nat}{x:Ent}{r:List Ent}(h:RdE w (.slice (some ⟨b,off,none⟩) (n+1) 1) (x::r))(hn:n=r.length):RdE w (.slice (some ⟨b,off,none⟩) n 0) r:=by
 have:=zih h (k:=1) (by simp);subst hn;simpa using this
theorem zhO{w:World}{b off n cap:Nat}{x:Ent}{r:List Ent}(h:RdE w (.slice (some ⟨b,off,none⟩) (n+1) cap) (x::r))(hn:n=r.length)(hc:cap≠1):RdE w (.slice (some ⟨b,off+4,none⟩) n (cap-1)) r:=by
 have:=zih h (k:=1) (by simp);rw[if_neg hc] at this;subst hn;simpa using this
theorem zje{w:World}{v:Value}{x:Ent}{r:List Ent}(h:RdE w v (x::r)):∃ b off n cap,v=.slice (some ⟨b,off,none⟩) (n+1) cap∧n=r.length∧n+1≤cap∧cap≤maxLen∧EntAt w b off x:=by
 obtain⟨a,cap,hv,h1,h2,h0,h3⟩:=h;rcases h3 with h3 | ⟨b,off,ha,hc⟩
 ·cases h3
 ·have:=hc 0 (by simp);rw[Nat.zero_mul,Nat.add_zero,zb4] at this;exact⟨b,off,r.length,cap,by rw[hv,ha];rfl,rfl,by simpa using h1,h2,this⟩
theorem rdE_0{w:World}{v:Value}(h:RdE w v []):∃ a cap,v=.slice a 0 cap:=by
 obtain⟨a,cap,hv,_⟩:=h;exact⟨a,cap,hv⟩
theorem zcH(w:World)(x:Ent):OwnE (w.alloc (.cells #[.string x.key,.string x.val,.int .i64 x.seq,.bool x.gone] 40)) w.heap.size (.slice (some ⟨w.heap.size,0,none⟩) 1 1) [x]:=World.ownsRow_lit w #[.string x.key,.string x.val,.int .i64 x.seq,.bool x.gone] 1 (nR _) (by unfold maxLen;omega) rfl
theorem zfw(v:Value)(ps:List (Value×List Ent))(w:World)(hp:Pieces w v ps)(hn:ps.length≤20)(hl:∀ p∈ps,p.2.length≤300) :
 Calls Tryz.prog 83 #[v] w fun e w'=>zbq w (zj (ps.map (·.2))) e w':=by
 have HE:Hid (mgTo ps ps.length=zj (ps.map (·.2))):=zly ps;generalize zj (ps.map (·.2))=M at HE;obtain⟨a,cap,hv,hla,hma⟩:∃ a cap,v=.slice a ps.length cap∧ps.length≤cap∧cap≤maxLen:=by
  rcases hp with ⟨rfl,rfl⟩ | ⟨b,off,cap,rfl,h1,h2,_⟩
  ·exact⟨none,0,rfl,nR _,Nat.zero_le _⟩
  ·exact⟨_,cap,rfl,h1,h2⟩
 unfold maxLen at hma;subst hv;obtain⟨nn,hnn⟩:∃ nn,nn=ps.length:=⟨_,rfl⟩;have HNN:Hid (nn=ps.length):=hnn;have AT:Hid (∀ k,k<nn→∀ w',Below w.heap.size w w'→∃ b off aa zn cc zs,a=some ⟨b,off,none⟩∧w'.cell? ⟨b,off+k,none⟩=some (.slice aa zn cc)∧RdE w' (.slice aa zn cc) zs∧zs.length≤300∧mgTo ps (k+1)=mrg (mgTo ps k) zs):=by
  intro k hk w' hb;rw[hnn] at hk;rcases hp.below hb with ⟨h,he⟩ | ⟨b,off,cap',hv,_,_,hc⟩
  ·subst he;simp at hk
  ·simp only[Value.slice.injEq] at hv;obtain⟨rfl,_,_⟩:=hv;obtain⟨aa,cc,hu,_⟩:=id (hc k hk).2;have h1:=(hc k hk).1;have h2:=(hc k hk).2;rw[hu] at h1 h2;exact⟨b,off,aa,_,cc,_,rfl,h1,h2,hl _ (List.getElem_mem hk),zjl ps k hk⟩
 have ML:Hid (∀ k,k≤nn→(mgTo ps k).length≤300*k):=fun k hk=>zis ps hl k (by rw[← hnn];exact hk)
 rw[← hnn] at hla hn HE ⊢;have ho0:=zX w;have hb0:=ze w (.cells #[] 40);clear hp hl hnn;go_enter Tryz.func83,Tryz.ntmps83
 go_wp2;go_loopg [3,4] nn (fun gg o i wr=>∃ k:Nat,k+gg=nn∧i=.int .i64 k∧OwnE wr w.heap.size o (mgTo ps k)∧Below w.heap.size w wr)
 case atStart=>exact⟨0,by omega,rfl,ho0,hb0⟩
 case round =>
  obtain⟨k,hkg,rfl,ho,hb⟩:=hrel;clear ho0 hb0;by_cases hlt:k<nn
  ·cases gk with
   | zero=>exfalso;omega
   | succ gg =>
    obtain⟨b,off,aa,zn,cc,zs,rfl,hc,hrz,hzl,hst⟩:=AT.out k hlt wr hb;have hml:=ML.out k (by omega);have HST:Hid (mgTo ps (k+1)=mrg (mgTo ps k) zs):=hst;have hro:=ho.rd;clear hst;generalize mgTo ps k=O at ho hro hml HST;have hbw:=hb.size;have hkc:k<cap:=(by omega);have hoN:=zX wr;have hbN:=ze wr (.cells #[] 40);obtain⟨W0,hW0⟩:∃ W0,W0=wr:=⟨_,rfl⟩;subst hW0;obtain⟨B1,hB1⟩:∃ B1,B1=W0.heap.size:=⟨_,rfl⟩;have hoN1:OwnE (W0.alloc (.cells #[] 40)) B1 (.slice (some ⟨W0.heap.size,0,none⟩) 0 0) []:=(by rw[hB1];exact hoN);have hbN1:Below B1 W0 (W0.alloc (.cells #[] 40)):=(by rw[hB1];exact hbN);have hBW:Hid (B1=W0.heap.size):=hB1;have hcN:=(hbN.cell (World.block_lt_of_cell? W0 _ hc)).trans hc;clear hoN hbN hB1 ho;go_wp2;go_loopg [3,5,6] (O.length+zs.length) (fun g2 o nx b wr=>∃ (oL bL acc:List Ent),oL.length+bL.length≤g2∧RdE W0 o oL∧RdE W0 b bL∧OwnE wr B1 nx acc∧Hid (acc++mrg oL bL=mrg O zs)∧acc.length+oL.length+bL.length≤6300∧Below B1 W0 wr)
    case atStart=>exact⟨O,zs,[],nR _,hro,hrz,hoN1,rfl,by simp;omega,hbN1⟩
    case round =>
     obtain⟨oL,bL,acc,hg2,hro2,hrb2,hoN2,HM,hal,hb2⟩:=hrel;clear hoN1 hbN1 hro hrz hc hcN;have hB2:B1≤wr.heap.size:=hBW.out ▸ hb2.size;cases oL with
     | nil =>
      obtain⟨ao,co,rfl⟩:=rdE_0 hro2;cases bL with
      | nil =>
       obtain⟨ab,cb,rfl⟩:=rdE_0 hrb2;have HA:Hid (acc=mgTo ps (k+1)):=(by have:=HM.out;rw[mrg,List.append_nil] at this;unfold Hid;rw[HST.out];exact this);have hb3:Below w.heap.size w wr:=hb.trans ((hBW.out ▸ hb2).mono hbw);rw[HA.out] at hoN2;have ho3:OwnE wr w.heap.size _ (mgTo ps (k+1)):=hoN2.mono (by rw[hBW.out];exact hbw);go_wp2;go_roundg gg
       case rel=>exact⟨k+1,by omega,by go_num,ho3,hb3⟩
       case measure=>omega
      | cons y s =>
       obtain⟨bb,ob,sn,cb,rfl,hsn',hsc,hcm,hy⟩:=zje hrb2;have hsn:Hid (sn=s.length):=hsn';clear hsn';unfold maxLen at hcm;cases gk with
       | zero=>exfalso;simp at hg2
       | succ g2 =>
        have hyW:=hy.of_block ((hBW.out ▸ hb2).block bb hy.lt);obtain⟨d0,d1,d2,d3⟩:=id hyW;have hsz:((sn:Int)+1==0)=false:=(by simp;omega);have HM2:Hid ((acc++[y])++mrg [] s=mrg O zs):=(by unfold Hid;rw[← HM.out,List.append_assoc,mrg,mrg];rfl);have hsp:(0:Int)<(sn:Int)+1:=(by omega);by_cases hc1:cb=1
        ·skip
         subst hc1;obtain rfl:sn=0:=(by omega);have hcut:=zfk hrb2 hsn.out;have hoV:=hoN2;have hbV:=hb2;have hsV:B1≤wr.heap.size:=hB2;have hyV:=hyW;clear hoN2 hb2 HM;go_wp2_with fail
         refine brg (S:=fun _=>True) trivial (fun hH=>?_);refine kA 0 30 hH ?_;refine kA 1 31 hH ?_;refine kA 2 32 hH ?_;refine kA 3 33 hH ?_;refine kA 4 34 hH ?_;refine kA 5 35 hH ?_;refine kA 6 36 hH ?_;refine kA 7 37 hH ?_;refine kS 8 38 hH ?_;refine kS 9 39 hH ?_;refine kS 10 40 hH ?_;refine kS 11 41 hH ?_;refine kS 12 42 hH ?_;refine kS 13 43 hH ?_;refine kS 14 44 hH ?_;refine kA 15 45 hH ?_;refine kA 16 46 hH ?_;refine kA 17 29 hH ?_;refine dne ?_;have hoV2:OwnE wr.drew B1 _ acc:=hoV;have hbV2:Below B1 W0 wr.drew:=hbV.drew;have hyV2:EntAt wr.drew bb ob y:=hyV;have hsV2:B1≤wr.drew.heap.size:=hsV;generalize wr.drew=W3 at hoV2 hbV2 hyV2 hsV2 ⊢;clear hoV hbV hsV;have hoV:=hoV2;have hbV:=hbV2;have hsV:=hsV2;have hyV:=hyV2;clear hoV2 hbV2 hsV2;go_wp2_with fail
         refine brg (S:=fun _=>True) trivial (fun hH2=>?_);refine kA 0 56 hH2 ?_;refine kA 1 57 hH2 ?_;refine kA 2 58 hH2 ?_;refine kA 3 59 hH2 ?_;refine kS 4 60 hH2 ?_;refine kS 5 61 hH2 ?_;refine kS 6 62 hH2 ?_;refine kS 7 63 hH2 ?_;refine kS 8 64 hH2 ?_;refine kS 9 65 hH2 ?_;refine kS 10 66 hH2 ?_;refine kA 11 67 hH2 ?_;refine kA 12 55 hH2 ?_;refine dne ?_;have hoV2:OwnE W3.drew B1 _ acc:=hoV;have hbV2:Below B1 W0 W3.drew:=hbV.drew;have hyV2:EntAt W3.drew bb ob y:=hyV;have hsV2:B1≤W3.drew.heap.size:=hsV;generalize W3.drew=W4 at hoV2 hbV2 hyV2 hsV2 ⊢;clear hoV hbV hsV;have hoV:=hoV2;have hbV:=hbV2;have hsV:=hsV2;have hyV:=hyV2;clear hoV2 hbV2 hsV2;obtain⟨q0,q1,q2,q3⟩:=id hyV;have hbA:=hbV.alloc hsV (.cells #[.string y.key,.string y.val,.int .i64 y.seq,.bool y.gone] 40);have hoA:=hoV.below (ze W4 (.cells #[.string y.key,.string y.val,.int .i64 y.seq,.bool y.gone] 40));have h1A:=zcH W4 y;clear hoV hbV;go_wp2_with (at_builtin;(refine zp rfl _ _ rfl B1 _ _ acc [y] rfl rfl hoA h1A.rd (by simp at hal ⊢;omega) (by simp;omega) ?_))
         intro v5 w5 ho5 hg5;have hb5:Below B1 W0 w5:=hbA.grown hg5 (by simp;omega) (fun j hj=>(oL hoA j hj).1);clear hbA hoA h1A hg5 q0 q1 q2 q3;go_wp2;go_roundg g2
         case rel=>exact⟨[],s,acc++[y],by simp at hg2 ⊢;omega,hro2,hcut,ho5,HM2,by simp at hal ⊢;omega,hb5⟩
         case measure=>omega
        ·skip
         have hcut:=zhO hrb2 hsn.out hc1;have hoV:=hoN2;have hbV:=hb2;have hsV:B1≤wr.heap.size:=hB2;have hyV:=hyW;clear hoN2 hb2 HM;go_wp2_with fail
         refine brg (S:=fun _=>True) trivial (fun hH=>?_);refine kA 0 30 hH ?_;refine kA 1 31 hH ?_;refine kA 2 32 hH ?_;refine kA 3 33 hH ?_;refine kA 4 34 hH ?_;refine kA 5 35 hH ?_;refine kA 6 36 hH ?_;refine kA 7 37 hH ?_;refine kS 8 38 hH ?_;refine kS 9 39 hH ?_;refine kS 10 40 hH ?_;refine kS 11 41 hH ?_;refine kS 12 42 hH ?_;refine kS 13 43 hH ?_;refine kS 14 44 hH ?_;refine kA 15 45 hH ?_;refine kA 16 46 hH ?_;refine kA 17 29 hH ?_;refine dne ?_;have hoV2:OwnE wr.drew B1 _ acc:=hoV;have hbV2:Below B1 W0 wr.drew:=hbV.drew;have hyV2:EntAt wr.drew bb ob y:=hyV;have hsV2:B1≤wr.drew.heap.size:=hsV;generalize wr.drew=W3 at hoV2 hbV2 hyV2 hsV2 ⊢;clear hoV hbV hsV;have hoV:=hoV2;have hbV:=hbV2;have hsV:=hsV2;have hyV:=hyV2;clear hoV2 hbV2 hsV2;go_wp2_with fail
         refine brg (S:=fun _=>True) trivial (fun hH2=>?_);refine kA 0 56 hH2 ?_;refine kA 1 57 hH2 ?_;refine kA 2 58 hH2 ?_;refine kA 3 59 hH2 ?_;refine kS 4 60 hH2 ?_;refine kS 5 61 hH2 ?_;refine kS 6 62 hH2 ?_;refine kS 7 63 hH2 ?_;refine kS 8 64 hH2 ?_;refine kS 9 65 hH2 ?_;refine kS 10 66 hH2 ?_;refine kA 11 67 hH2 ?_;refine kA 12 55 hH2 ?_;refine dne ?_;have hoV2:OwnE W3.drew B1 _ acc:=hoV;have hbV2:Below B1 W0 W3.drew:=hbV.drew;have hyV2:EntAt W3.drew bb ob y:=hyV;have hsV2:B1≤W3.drew.heap.size:=hsV;generalize W3.drew=W4 at hoV2 hbV2 hyV2 hsV2 ⊢;clear hoV hbV hsV;have hoV:=hoV2;have hbV:=hbV2;have hsV:=hsV2;have hyV:=hyV2;clear hoV2 hbV2 hsV2;obtain⟨q0,q1,q2,q3⟩:=id hyV;have hbA:=hbV.alloc hsV (.cells #[.string y.key,.string y.val,.int .i64 y.seq,.bool y.gone] 40);have hoA:=hoV.below (ze W4 (.cells #[.string y.key,.string y.val,.int .i64 y.seq,.bool y.gone] 40));have h1A:=zcH W4 y;clear hoV hbV;go_wp2_with (at_builtin;(refine zp rfl _ _ rfl B1 _ _ acc [y] rfl rfl hoA h1A.rd (by simp at hal ⊢;omega) (by simp;omega) ?_))
         intro v5 w5 ho5 hg5;have hb5:Below B1 W0 w5:=hbA.grown hg5 (by simp;omega) (fun j hj=>(oL hoA j hj).1);clear hbA hoA h1A hg5 q0 q1 q2 q3;go_wp2;go_roundg g2
         case rel=>exact⟨[],s,acc++[y],by simp at hg2 ⊢;omega,hro2,hcut,ho5,HM2,by simp at hal ⊢;omega,hb5⟩
         case measure=>omega
     | cons x r =>
      obtain⟨bo,oo,rn,co,rfl,hrn',hrc,hcm2,hx⟩:=zje hro2;have hrn:Hid (rn=r.length):=hrn';clear hrn';unfold maxLen at hcm2;cases gk with
      | zero=>exfalso;simp at hg2
      | succ g2 =>
       have hxW:=hx.of_block ((hBW.out ▸ hb2).block bo hx.lt);obtain⟨c0,c1,c2,c3⟩:=id hxW;cases bL with
       | nil =>
        obtain⟨ab,cb,rfl⟩:=rdE_0 hrb2;have HM2:Hid ((acc++[x])++mrg r []=mrg O zs):=(by unfold Hid;rw[← HM.out,List.append_assoc,zps,zps];rfl);by_cases hc1:co=1
        ·skip
         subst hc1;obtain rfl:rn=0:=(by omega);have hcut:=zfk hro2 hrn.out;have hoV:=hoN2;have hbV:=hb2;have hsV:B1≤wr.heap.size:=hB2;have hxV:=hxW;clear hoN2 hb2 HM;go_wp2_with fail
         refine brg (S:=fun _=>True) trivial (fun hH=>?_);refine kA 0 30 hH ?_;refine kA 1 31 hH ?_;refine kA 2 32 hH ?_;refine kA 3 33 hH ?_;refine kS 4 34 hH ?_;refine kS 5 35 hH ?_;refine kS 6 36 hH ?_;refine kS 7 37 hH ?_;refine kS 8 38 hH ?_;refine kS 9 39 hH ?_;refine kS 10 40 hH ?_;refine kS 11 41 hH ?_;refine kS 12 42 hH ?_;refine kS 13 43 hH ?_;refine kS 14 44 hH ?_;refine kS 15 45 hH ?_;refine kA 16 46 hH ?_;refine kA 17 29 hH ?_;refine dne ?_;have hoV2:OwnE wr.drew B1 _ acc:=hoV;have hbV2:Below B1 W0 wr.drew:=hbV.drew;have hxV2:EntAt wr.drew bo oo x:=hxV;have hsV2:B1≤wr.drew.heap.size:=hsV;generalize wr.drew=W3 at hoV2 hbV2 hxV2 hsV2 ⊢;clear hoV hbV hsV;have hoV:=hoV2;have hbV:=hbV2;have hsV:=hsV2;have hxV:=hxV2;clear hoV2 hbV2 hsV2;obtain⟨q0,q1,q2,q3⟩:=id hxV;have hbA:=hbV.alloc hsV (.cells #[.string x.key,.string x.val,.int .i64 x.seq,.bool x.gone] 40);have hoA:=hoV.below (ze W3 (.cells #[.string x.key,.string x.val,.int .i64 x.seq,.bool x.gone] 40));have h1A:=zcH W3 x;clear hoV hbV;go_wp2_with (at_builtin;(refine zp rfl _ _ rfl B1 _ _ acc [x] rfl rfl hoA h1A.rd (by simp at hal ⊢;omega) (by simp;omega) ?_))
         intro v5 w5 ho5 hg5;have hb5:Below B1 W0 w5:=hbA.grown hg5 (by simp;omega) (fun j hj=>(oL hoA j hj).1);clear hbA hoA h1A hg5 q0 q1 q2 q3;go_wp2;go_roundg g2
         case rel=>exact⟨r,[],acc++[x],by simp at hg2 ⊢;omega,hcut,hrb2,ho5,HM2,by simp at hal ⊢;omega,hb5⟩
         case measure=>omega
        ·skip
         have hcut:=zhO hro2 hrn.out hc1;have hoV:=hoN2;have hbV:=hb2;have hsV:B1≤wr.heap.size:=hB2;have hxV:=hxW;clear hoN2 hb2 HM;go_wp2_with fail
         refine brg (S:=fun _=>True) trivial (fun hH=>?_);refine kA 0 30 hH ?_;refine kA 1 31 hH ?_;refine kA 2 32 hH ?_;refine kA 3 33 hH ?_;refine kS 4 34 hH ?_;refine kS 5 35 hH ?_;refine kS 6 36 hH ?_;refine kS 7 37 hH ?_;refine kS 8 38 hH ?_;refine kS 9 39 hH ?_;refine kS 10 40 hH ?_;refine kS 11 41 hH ?_;refine kS 12 42 hH ?_;refine kS 13 43 hH ?_;refine kS 14 44 hH ?_;refine kS 15 45 hH ?_;refine kA 16 46 hH ?_;refine kA 17 29 hH ?_;refine dne ?_;have hoV2:OwnE wr.drew B1 _ acc:=hoV;have hbV2:Below B1 W0 wr.drew:=hbV.drew;have hxV2:EntAt wr.drew bo oo x:=hxV;have hsV2:B1≤wr.drew.heap.size:=hsV;generalize wr.drew=W3 at hoV2 hbV2 hxV2 hsV2 ⊢;clear hoV hbV hsV;have hoV:=hoV2;have hbV:=hbV2;have hsV:=hsV2;have hxV:=hxV2;clear hoV2 hbV2 hsV2;obtain⟨q0,q1,q2,q3⟩:=id hxV;have hbA:=hbV.alloc hsV (.cells #[.string x.key,.string x.val,.int .i64 x.seq,.bool x.gone] 40);have hoA:=hoV.below (ze W3 (.cells #[.string x.key,.string x.val,.int .i64 x.seq,.bool x.gone] 40));have h1A:=zcH W3 x;clear hoV hbV;go_wp2_with (at_builtin;(refine zp rfl _ _ rfl B1 _ _ acc [x] rfl rfl hoA h1A.rd (by simp at hal ⊢;omega) (by simp;omega) ?_))
         intro v5 w5 ho5 hg5;have hb5:Below B1 W0 w5:=hbA.grown hg5 (by simp;omega) (fun j hj=>(oL hoA j hj).1);clear hbA hoA h1A hg5 q0 q1 q2 q3;go_wp2;go_roundg g2
         case rel=>exact⟨r,[],acc++[x],by simp at hg2 ⊢;omega,hcut,hrb2,ho5,HM2,by simp at hal ⊢;omega,hb5⟩
         case measure=>omega
       | cons y s =>
        obtain⟨bb,ob,sn,cb,rfl,hsn',hsc,hcm,hy⟩:=zje hrb2;have hsn:Hid (sn=s.length):=hsn';clear hsn';unfold maxLen at hcm;have hyW:=hy.of_block ((hBW.out ▸ hb2).block bb hy.lt);obtain⟨d0,d1,d2,d3⟩:=id hyW;have hsz:((sn:Int)+1==0)=false:=(by simp;omega);have hrz:((rn:Int)+1==0)=false:=(by simp;omega);have hrp:(0:Int)<(rn:Int)+1:=(by omega);cases hxy:ahd x y with
        | true =>
         have HM2:Hid ((acc++[x])++mrg r (y::s)=mrg O zs):=(by unfold Hid;rw[← HM.out,List.append_assoc,mrg_x hxy];rfl);have HCA:Hid (∀ W,Calls Tryz.prog 116 #[.agg #[.string x.key,.string x.val,.int .i64 x.seq,.bool x.gone],.agg #[.string y.key,.string y.val,.int .i64 y.seq,.bool y.gone]] W fun e w'=>e=.returned (.bool true)∧Below W.heap.size W w'):=fun W=>by have:=zbh x y W;rwa [hxy] at this
         by_cases hc1:co=1
         ·skip
          subst hc1;obtain rfl:rn=0:=(by omega);have hcut:=zfk hro2 hrn.out;have hoV:=hoN2;have hbV:=hb2;have hsV:B1≤wr.heap.size:=hB2;have hyV:=hyW;have hxV:=hxW;clear hoN2 hb2 HM;go_wp2_with fail
          refine brg (S:=fun W=>EntAt W bo oo x∧EntAt W bb ob y) ⟨hxW,hyW⟩ (fun hH=>?_);refine kA 0 30 hH ?_;refine kA 1 31 hH ?_;refine kA 2 32 hH ?_;refine kA 3 33 hH ?_;refine kA 4 34 hH ?_;refine kA 5 35 hH ?_;refine kA 6 36 hH ?_;refine kA 7 37 hH ?_;refine kA 8 38 hH ?_;refine kA 9 39 hH ?_;refine kA 10 40 hH ?_;refine kA 11 41 hH ?_;refine kA 12 42 hH ?_;refine kA 13 43 hH ?_;refine rdy 14 (fun K hK=>?_);go_simp;refine(HCA.out _).mono ?_;rintro e w3 ⟨rfl,hb3⟩;refine hK.out _ _ ⟨hH.1.below hb3,hH.2.below hb3⟩ (fun hB=>?_);clear hK K;try simp only[Act.put,sA,sZ,sS]
          refine kA 15 45 hB ?_;refine kA 16 46 hB ?_;refine kA 17 29 hB ?_;refine dne ?_;have bb3:Below wr.heap.size wr w3:=((Below.refl wr.heap.size wr).drew).trans hb3;replace hoV:=hoV.below bb3;replace hbV:=hbV.trans (bb3.mono hsV);replace hxV:=hB.1;replace hyV:=hB.2;replace hsV:B1≤w3.heap.size:=nT hsV bb3.size;clear hB hH hb3 bb3 hxW hyW c0 c1 c2 c3 d0 d1 d2 d3;obtain⟨q0,q1,q2,q3⟩:=id hxV;have hbA:=hbV.alloc hsV (.cells #[.string x.key,.string x.val,.int .i64 x.seq,.bool x.gone] 40);have hoA:=hoV.below (ze w3 (.cells #[.string x.key,.string x.val,.int .i64 x.seq,.bool x.gone] 40));have h1A:=zcH w3 x;clear hoV hbV;go_wp2_with (at_builtin;(refine zp rfl _ _ rfl B1 _ _ acc [x] rfl rfl hoA h1A.rd (by simp at hal ⊢;omega) (by simp;omega) ?_))
          intro v5 w5 ho5 hg5;have hb5:Below B1 W0 w5:=hbA.grown hg5 (by simp;omega) (fun j hj=>(oL hoA j hj).1);clear hbA hoA h1A hg5 q0 q1 q2 q3;go_wp2;go_roundg g2
          case rel=>exact⟨r,y::s,acc++[x],by simp at hg2 ⊢;omega,hcut,hrb2,ho5,HM2,by simp at hal ⊢;omega,hb5⟩
          case measure=>omega
         ·skip
          have hcut:=zhO hro2 hrn.out hc1;have hoV:=hoN2;have hbV:=hb2;have hsV:B1≤wr.heap.size:=hB2;have hyV:=hyW;have hxV:=hxW;clear hoN2 hb2 HM;go_wp2_with fail
          refine brg (S:=fun W=>EntAt W bo oo x∧EntAt W bb ob y) ⟨hxW,hyW⟩ (fun hH=>?_);refine kA 0 30 hH ?_;refine kA 1 31 hH ?_;refine kA 2 32 hH ?_;refine kA 3 33 hH ?_;refine kA 4 34 hH ?_;refine kA 5 35 hH ?_;refine kA 6 36 hH ?_;refine kA 7 37 hH ?_;refine kA 8 38 hH ?_;refine kA 9 39 hH ?_;refine kA 10 40 hH ?_;refine kA 11 41 hH ?_;refine kA 12 42 hH ?_;refine kA 13 43 hH ?_;refine rdy 14 (fun K hK=>?_);go_simp;refine(HCA.out _).mono ?_;rintro e w3 ⟨rfl,hb3⟩;refine hK.out _ _ ⟨hH.1.below hb3,hH.2.below hb3⟩ (fun hB=>?_);clear hK K;try simp only[Act.put,sA,sZ,sS]
          refine kA 15 45 hB ?_;refine kA 16 46 hB ?_;refine kA 17 29 hB ?_;refine dne ?_;have bb3:Below wr.heap.size wr w3:=((Below.refl wr.heap.size wr).drew).trans hb3;replace hoV:=hoV.below bb3;replace hbV:=hbV.trans (bb3.mono hsV);replace hxV:=hB.1;replace hyV:=hB.2;replace hsV:B1≤w3.heap.size:=nT hsV bb3.size;clear hB hH hb3 bb3 hxW hyW c0 c1 c2 c3 d0 d1 d2 d3;obtain⟨q0,q1,q2,q3⟩:=id hxV;have hbA:=hbV.alloc hsV (.cells #[.string x.key,.string x.val,.int .i64 x.seq,.bool x.gone] 40);have hoA:=hoV.below (ze w3 (.cells #[.string x.key,.string x.val,.int .i64 x.seq,.bool x.gone] 40));have h1A:=zcH w3 x;clear hoV hbV;go_wp2_with (at_builtin;(refine zp rfl _ _ rfl B1 _ _ acc [x] rfl rfl hoA h1A.rd (by simp at hal ⊢;omega) (by simp;omega) ?_))
          intro v5 w5 ho5 hg5;have hb5:Below B1 W0 w5:=hbA.grown hg5 (by simp;omega) (fun j hj=>(oL hoA j hj).1);clear hbA hoA h1A hg5 q0 q1 q2 q3;go_wp2;go_roundg g2
          case rel=>exact⟨r,y::s,acc++[x],by simp at hg2 ⊢;omega,hcut,hrb2,ho5,HM2,by simp at hal ⊢;omega,hb5⟩
          case measure=>omega
        | false =>
         have HCA:Hid (∀ W,Calls Tryz.prog 116 #[.agg #[.string x.key,.string x.val,.int .i64 x.seq,.bool x.gone],.agg #[.string y.key,.string y.val,.int .i64 y.seq,.bool y.gone]] W fun e w'=>e=.returned (.bool false)∧Below W.heap.size W w'):=fun W=>by have:=zbh x y W;rwa [hxy] at this
         cases hyx:ahd y x with
         | true =>
          have HM2:Hid ((acc++[y])++mrg (x::r) s=mrg O zs):=(by unfold Hid;rw[← HM.out,List.append_assoc,mrg_y hxy hyx];rfl);have HCB:Hid (∀ W,Calls Tryz.prog 116 #[.agg #[.string y.key,.string y.val,.int .i64 y.seq,.bool y.gone],.agg #[.string x.key,.string x.val,.int .i64 x.seq,.bool x.gone]] W fun e w'=>e=.returned (.bool true)∧Below W.heap.size W w'):=fun W=>by have:=zbh y x W;rwa [hyx] at this
          by_cases hc1:cb=1
          ·skip
           subst hc1;obtain rfl:sn=0:=(by omega);have hcut:=zfk hrb2 hsn.out;have hoV:=hoN2;have hbV:=hb2;have hsV:B1≤wr.heap.size:=hB2;have hyV:=hyW;have hxV:=hxW;clear hoN2 hb2 HM;go_wp2_with fail
           refine brg (S:=fun W=>EntAt W bo oo x∧EntAt W bb ob y) ⟨hxW,hyW⟩ (fun hH=>?_);refine kA 0 30 hH ?_;refine kA 1 31 hH ?_;refine kA 2 32 hH ?_;refine kA 3 33 hH ?_;refine kA 4 34 hH ?_;refine kA 5 35 hH ?_;refine kA 6 36 hH ?_;refine kA 7 37 hH ?_;refine kA 8 38 hH ?_;refine kA 9 39 hH ?_;refine kA 10 40 hH ?_;refine kA 11 41 hH ?_;refine kA 12 42 hH ?_;refine kA 13 43 hH ?_;refine rdy 14 (fun K hK=>?_);go_simp;refine(HCA.out _).mono ?_;rintro e w3 ⟨rfl,hb3⟩;refine hK.out _ _ ⟨hH.1.below hb3,hH.2.below hb3⟩ (fun hB=>?_);clear hK K;try simp only[Act.put,sA,sZ,sS]
           refine kA 15 45 hB ?_;refine kA 16 46 hB ?_;refine kA 17 29 hB ?_;refine dne ?_;have bb3:Below wr.heap.size wr w3:=((Below.refl wr.heap.size wr).drew).trans hb3;replace hoV:=hoV.below bb3;replace hbV:=hbV.trans (bb3.mono hsV);replace hxV:=hB.1;replace hyV:=hB.2;replace hsV:B1≤w3.heap.size:=nT hsV bb3.size;clear hB hH hb3 bb3 hxW hyW c0 c1 c2 c3 d0 d1 d2 d3;go_wp2_with fail
           refine brg (S:=fun W=>EntAt W bo oo x∧EntAt W bb ob y) ⟨hxV,hyV⟩ (fun hHq=>?_);refine kA 0 56 hHq ?_;refine kA 1 57 hHq ?_;refine kA 2 58 hHq ?_;refine kA 3 59 hHq ?_;refine kA 4 60 hHq ?_;refine kA 5 61 hHq ?_;refine kA 6 62 hHq ?_;refine kA 7 63 hHq ?_;refine kA 8 64 hHq ?_;refine kA 9 65 hHq ?_;refine rdy 10 (fun K hK=>?_);go_simp;refine(HCB.out _).mono ?_;rintro e w4 ⟨rfl,hb4⟩;refine hK.out _ _ ⟨hHq.1.below hb4,hHq.2.below hb4⟩ (fun hBq=>?_);clear hK K;try simp only[Act.put,sA,sZ,sS]
           refine kA 11 67 hBq ?_;refine kA 12 55 hBq ?_;refine dne ?_;have bb4:Below w3.heap.size w3 w4:=((Below.refl w3.heap.size w3).drew).trans hb4;replace hoV:=hoV.below bb4;replace hbV:=hbV.trans (bb4.mono hsV);replace hxV:=hBq.1;replace hyV:=hBq.2;replace hsV:B1≤w4.heap.size:=nT hsV bb4.size;clear hBq hHq hb4 bb4;obtain⟨q0,q1,q2,q3⟩:=id hyV;have hbA:=hbV.alloc hsV (.cells #[.string y.key,.string y.val,.int .i64 y.seq,.bool y.gone] 40);have hoA:=hoV.below (ze w4 (.cells #[.string y.key,.string y.val,.int .i64 y.seq,.bool y.gone] 40));have h1A:=zcH w4 y;clear hoV hbV;go_wp2_with (at_builtin;(refine zp rfl _ _ rfl B1 _ _ acc [y] rfl rfl hoA h1A.rd (by simp at hal ⊢;omega) (by simp;omega) ?_))
           intro v5 w5 ho5 hg5;have hb5:Below B1 W0 w5:=hbA.grown hg5 (by simp;omega) (fun j hj=>(oL hoA j hj).1);clear hbA hoA h1A hg5 q0 q1 q2 q3;go_wp2;go_roundg g2
           case rel=>exact⟨x::r,s,acc++[y],by simp at hg2 ⊢;omega,hro2,hcut,ho5,HM2,by simp at hal ⊢;omega,hb5⟩
           case measure=>omega
          ·skip
           have hcut:=zhO hrb2 hsn.out hc1;have hoV:=hoN2;have hbV:=hb2;have hsV:B1≤wr.heap.size:=hB2;have hyV:=hyW;have hxV:=hxW;clear hoN2 hb2 HM;go_wp2_with fail
           refine brg (S:=fun W=>EntAt W bo oo x∧EntAt W bb ob y) ⟨hxW,hyW⟩ (fun hH=>?_);refine kA 0 30 hH ?_;refine kA 1 31 hH ?_;refine kA 2 32 hH ?_;refine kA 3 33 hH ?_;refine kA 4 34 hH ?_;refine kA 5 35 hH ?_;refine kA 6 36 hH ?_;refine kA 7 37 hH ?_;refine kA 8 38 hH ?_;refine kA 9 39 hH ?_;refine kA 10 40 hH ?_;refine kA 11 41 hH ?_;refine kA 12 42 hH ?_;refine kA 13 43 hH ?_;refine rdy 14 (fun K hK=>?_);go_simp;refine(HCA.out _).mono ?_;rintro e w3 ⟨rfl,hb3⟩;refine hK.out _ _ ⟨hH.1.below hb3,hH.2.below hb3⟩ (fun hB=>?_);clear hK K;try simp only[Act.put,sA,sZ,sS]
           refine kA 15 45 hB ?_;refine kA 16 46 hB ?_;refine kA 17 29 hB ?_;refine dne ?_;have bb3:Below wr.heap.size wr w3:=((Below.refl wr.heap.size wr).drew).trans hb3;replace hoV:=hoV.below bb3;replace hbV:=hbV.trans (bb3.mono hsV);replace hxV:=hB.1;replace hyV:=hB.2;replace hsV:B1≤w3.heap.size:=nT hsV bb3.size;clear hB hH hb3 bb3 hxW hyW c0 c1 c2 c3 d0 d1 d2 d3;go_wp2_with fail
           refine brg (S:=fun W=>EntAt W bo oo x∧EntAt W bb ob y) ⟨hxV,hyV⟩ (fun hHq=>?_);refine kA 0 56 hHq ?_;refine kA 1 57 hHq ?_;refine kA 2 58 hHq ?_;refine kA 3 59 hHq ?_;refine kA 4 60 hHq ?_;refine kA 5 61 hHq ?_;refine kA 6 62 hHq ?_;refine kA 7 63 hHq ?_;refine kA 8 64 hHq ?_;refine kA 9 65 hHq ?_;refine rdy 10 (fun K hK=>?_);go_simp;refine(HCB.out _).mono ?_;rintro e w4 ⟨rfl,hb4⟩;refine hK.out _ _ ⟨hHq.1.below hb4,hHq.2.below hb4⟩ (fun hBq=>?_);clear hK K;try simp only[Act.put,sA,sZ,sS]
           refine kA 11 67 hBq ?_;refine kA 12 55 hBq ?_;refine dne ?_;have bb4:Below w3.heap.size w3 w4:=((Below.refl w3.heap.size w3).drew).trans hb4;replace hoV:=hoV.below bb4;replace hbV:=hbV.trans (bb4.mono hsV);replace hxV:=hBq.1;replace hyV:=hBq.2;replace hsV:B1≤w4.heap.size:=nT hsV bb4.size;clear hBq hHq hb4 bb4;obtain⟨q0,q1,q2,q3⟩:=id hyV;have hbA:=hbV.alloc hsV (.cells #[.string y.key,.string y.val,.int .i64 y.seq,.bool y.gone] 40);have hoA:=hoV.below (ze w4 (.cells #[.string y.key,.string y.val,.int .i64 y.seq,.bool y.gone] 40));have h1A:=zcH w4 y;clear hoV hbV;go_wp2_with (at_builtin;(refine zp rfl _ _ rfl B1 _ _ acc [y] rfl rfl hoA h1A.rd (by simp at hal ⊢;omega) (by simp;omega) ?_))
           intro v5 w5 ho5 hg5;have hb5:Below B1 W0 w5:=hbA.grown hg5 (by simp;omega) (fun j hj=>(oL hoA j hj).1);clear hbA hoA h1A hg5 q0 q1 q2 q3;go_wp2;go_roundg g2
           case rel=>exact⟨x::r,s,acc++[y],by simp at hg2 ⊢;omega,hro2,hcut,ho5,HM2,by simp at hal ⊢;omega,hb5⟩
           case measure=>omega
         | false =>
          have HM2:Hid (acc++mrg (x::r) s=mrg O zs):=(by unfold Hid;rw[← HM.out,mrg_z hxy hyx]);have HCB:Hid (∀ W,Calls Tryz.prog 116 #[.agg #[.string y.key,.string y.val,.int .i64 y.seq,.bool y.gone],.agg #[.string x.key,.string x.val,.int .i64 x.seq,.bool x.gone]] W fun e w'=>e=.returned (.bool false)∧Below W.heap.size W w'):=fun W=>by have:=zbh y x W;rwa [hyx] at this
          by_cases hc1:cb=1
          ·skip
           subst hc1;obtain rfl:sn=0:=(by omega);have hcut:=zfk hrb2 hsn.out;have hoV:=hoN2;have hbV:=hb2;have hsV:B1≤wr.heap.size:=hB2;have hyV:=hyW;have hxV:=hxW;clear hoN2 hb2 HM;go_wp2_with fail
           refine brg (S:=fun W=>EntAt W bo oo x∧EntAt W bb ob y) ⟨hxW,hyW⟩ (fun hH=>?_);refine kA 0 30 hH ?_;refine kA 1 31 hH ?_;refine kA 2 32 hH ?_;refine kA 3 33 hH ?_;refine kA 4 34 hH ?_;refine kA 5 35 hH ?_;refine kA 6 36 hH ?_;refine kA 7 37 hH ?_;refine kA 8 38 hH ?_;refine kA 9 39 hH ?_;refine kA 10 40 hH ?_;refine kA 11 41 hH ?_;refine kA 12 42 hH ?_;refine kA 13 43 hH ?_;refine rdy 14 (fun K hK=>?_);go_simp;refine(HCA.out _).mono ?_;rintro e w3 ⟨rfl,hb3⟩;refine hK.out _ _ ⟨hH.1.below hb3,hH.2.below hb3⟩ (fun hB=>?_);clear hK K;try simp only[Act.put,sA,sZ,sS]
           refine kA 15 45 hB ?_;refine kA 16 46 hB ?_;refine kA 17 29 hB ?_;refine dne ?_;have bb3:Below wr.heap.size wr w3:=((Below.refl wr.heap.size wr).drew).trans hb3;replace hoV:=hoV.below bb3;replace hbV:=hbV.trans (bb3.mono hsV);replace hxV:=hB.1;replace hyV:=hB.2;replace hsV:B1≤w3.heap.size:=nT hsV bb3.size;clear hB hH hb3 bb3 hxW hyW c0 c1 c2 c3 d0 d1 d2 d3;go_wp2_with fail
           refine brg (S:=fun W=>EntAt W bo oo x∧EntAt W bb ob y) ⟨hxV,hyV⟩ (fun hHq=>?_);refine kA 0 56 hHq ?_;refine kA 1 57 hHq ?_;refine kA 2 58 hHq ?_;refine kA 3 59 hHq ?_;refine kA 4 60 hHq ?_;refine kA 5 61 hHq ?_;refine kA 6 62 hHq ?_;refine kA 7 63 hHq ?_;refine kA 8 64 hHq ?_;refine kA 9 65 hHq ?_;refine rdy 10 (fun K hK=>?_);go_simp;refine(HCB.out _).mono ?_;rintro e w4 ⟨rfl,hb4⟩;refine hK.out _ _ ⟨hHq.1.below hb4,hHq.2.below hb4⟩ (fun hBq=>?_);clear hK K;try simp only[Act.put,sA,sZ,sS]
           refine kA 11 67 hBq ?_;refine kA 12 55 hBq ?_;refine dne ?_;have bb4:Below w3.heap.size w3 w4:=((Below.refl w3.heap.size w3).drew).trans hb4;replace hoV:=hoV.below bb4;replace hbV:=hbV.trans (bb4.mono hsV);replace hxV:=hBq.1;replace hyV:=hBq.2;replace hsV:B1≤w4.heap.size:=nT hsV bb4.size;clear hBq hHq hb4 bb4;go_wp2;go_roundg g2
           case rel=>exact⟨x::r,s,acc,by simp at hg2 ⊢;omega,hro2,hcut,hoV,HM2,by simp at hal ⊢;omega,hbV⟩
           case measure=>omega
          ·skip
           have hcut:=zhO hrb2 hsn.out hc1;have hoV:=hoN2;have hbV:=hb2;have hsV:B1≤wr.heap.size:=hB2;have hyV:=hyW;have hxV:=hxW;clear hoN2 hb2 HM;go_wp2_with fail
           refine brg (S:=fun W=>EntAt W bo oo x∧EntAt W bb ob y) ⟨hxW,hyW⟩ (fun hH=>?_);refine kA 0 30 hH ?_;refine kA 1 31 hH ?_;refine kA 2 32 hH ?_;refine kA 3 33 hH ?_;refine kA 4 34 hH ?_;refine kA 5 35 hH ?_;refine kA 6 36 hH ?_;refine kA 7 37 hH ?_;refine kA 8 38 hH ?_;refine kA 9 39 hH ?_;refine kA 10 40 hH ?_;refine kA 11 41 hH ?_;refine kA 12 42 hH ?_;refine kA 13 43 hH ?_;refine rdy 14 (fun K hK=>?_);go_simp;refine(HCA.out _).mono ?_;rintro e w3 ⟨rfl,hb3⟩;refine hK.out _ _ ⟨hH.1.below hb3,hH.2.below hb3⟩ (fun hB=>?_);clear hK K;try simp only[Act.put,sA,sZ,sS]
           refine kA 15 45 hB ?_;refine kA 16 46 hB ?_;refine kA 17 29 hB ?_;refine dne ?_;have bb3:Below wr.heap.size wr w3:=((Below.refl wr.heap.size wr).drew).trans hb3;replace hoV:=hoV.below bb3;replace hbV:=hbV.trans (bb3.mono hsV);replace hxV:=hB.1;replace hyV:=hB.2;replace hsV:B1≤w3.heap.size:=nT hsV bb3.size;clear hB hH hb3 bb3 hxW hyW c0 c1 c2 c3 d0 d1 d2 d3;go_wp2_with fail
           refine brg (S:=fun W=>EntAt W bo oo x∧EntAt W bb ob y) ⟨hxV,hyV⟩ (fun hHq=>?_);refine kA 0 56 hHq ?_;refine kA 1 57 hHq ?_;refine kA 2 58 hHq ?_;refine kA 3 59 hHq ?_;refine kA 4 60 hHq ?_;refine kA 5 61 hHq ?_;refine kA 6 62 hHq ?_;refine kA 7 63 hHq ?_;refine kA 8 64 hHq ?_;refine kA 9 65 hHq ?_;refine rdy 10 (fun K hK=>?_);go_simp;refine(HCB.out _).mono ?_;rintro e w4 ⟨rfl,hb4⟩;refine hK.out _ _ ⟨hHq.1.below hb4,hHq.2.below hb4⟩ (fun hBq=>?_);clear hK K;try simp only[Act.put,sA,sZ,sS]
           refine kA 11 67 hBq ?_;refine kA 12 55 hBq ?_;refine dne ?_;have bb4:Below w3.heap.size w3 w4:=((Below.refl w3.heap.size w3).drew).trans hb4;replace hoV:=hoV.below bb4;replace hbV:=hbV.trans (bb4.mono hsV);replace hxV:=hBq.1;replace hyV:=hBq.2;replace hsV:B1≤w4.heap.size:=nT hsV bb4.size;clear hBq hHq hb4 bb4;go_wp2;go_roundg g2
           case rel=>exact⟨x::r,s,acc,by simp at hg2 ⊢;omega,hro2,hcut,hoV,HM2,by simp at hal ⊢;omega,hbV⟩
           case measure=>omega
  ·skip
   have hke:k=nn:=(by omega);have HEE:Hid (mgTo ps k=M):=(by unfold Hid;rw[hke];exact HE.out);rw[HEE.out] at ho;clear hke;go_wp2;go_ret;exact⟨_,rfl,ho,hb⟩
end Go.Proofs.YtjlnchhgkfnldaaGreat
