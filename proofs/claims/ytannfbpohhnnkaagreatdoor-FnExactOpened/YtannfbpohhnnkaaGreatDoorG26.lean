import Derived.Test.YtannfbpohhnnkaaGreatDoorG25
import Derived.Deep.DeepCutAuto
import Derived.Deep.LoopGhost
namespace Go.Proofs.YtannfbpohhnnkaaGreatDoor
set_option maxHeartbeats 16000000
set_option maxRecDepth 100000
open Go.RowKit
structure RowsTr (w:World) (lo:Nat) (Y:TrX):Prop where
 mem:OwnE w lo Y.vm Y.mem
 young:OwnT w lo Y.vy Y.ys
 youngs:InT w lo Y.ys
 old:OwnT w lo Y.vo Y.os
 olds:InT w lo Y.os
 snaps:OwnI w lo Y.vs Y.snaps
theorem RowsTr.rd{w:World}{lo:Nat}{Y:TrX}(h:RowsTr w lo Y):RdTr w Y:=⟨h.mem.rd,h.young.rd h.youngs,h.old.rd h.olds,h.snaps.rd⟩
theorem RowsTr.below{w w':World}{lo:Nat}{Y:TrX}(h:RowsTr w lo Y)(hb:Below w.heap.size w w'):RowsTr w' lo Y:=⟨h.mem.below hb,h.young.below hb,h.youngs.below hb,h.old.below hb,h.olds.below hb,h.snaps.below hb⟩
theorem RowsTr.mono{w:World}{lo lo':Nat}{Y:TrX}(h:RowsTr w lo Y)(hb:lo'≤lo):RowsTr w lo' Y:=⟨h.mem.mono hb,h.young.mono hb,h.youngs.mono hb,h.old.mono hb,h.olds.mono hb,h.snaps.mono hb⟩
theorem RowsTr.bound{w:World}{lo:Nat}{Y:TrX}(h:RowsTr w lo Y){k:Nat}(hk:k∈trB Y):lo≤k∧k<w.heap.size:=by
 unfold trB at hk;rcases List.mem_append.1 hk with hk | hk
 ·exact World.ownsRow.lt h.mem k (mem_oneB.1 hk)
 rcases List.mem_append.1 hk with hk | hk
 ·rcases List.mem_append.1 hk with hk | hk
  ·exact World.ownsRow.lt h.young k (mem_oneB.1 hk)
  ·exact zbh h.youngs hk
 rcases List.mem_append.1 hk with hk | hk
 ·rcases List.mem_append.1 hk with hk | hk
  ·exact World.ownsRow.lt h.old k (mem_oneB.1 hk)
  ·exact zbh h.olds hk
 ·exact World.ownsRow.lt h.snaps k (mem_oneB.1 hk)
theorem RowsTr.touch{bs:List Nat}{w w':World}{lo:Nat}{Y:TrX}(h:RowsTr w lo Y)(ht:Touch bs w w')(hn:∀ k∈trB Y,k ∉ bs):RowsTr w' lo Y:=by
 have m1:∀ k∈oneB Y.vm,k∈trB Y:=fun q hq=>List.mem_append_left _ hq
 have m2:∀ k∈oneB Y.vy++tblks Y.ys,k∈trB Y:=fun q hq=>List.mem_append_right _ (List.mem_append_left _ hq)
 have m3:∀ k∈oneB Y.vo++tblks Y.os,k∈trB Y:=fun q hq=>List.mem_append_right _ (List.mem_append_right _ (List.mem_append_left _ hq))
 have m4:∀ k∈oneB Y.vs,k∈trB Y:=fun q hq=>List.mem_append_right _ (List.mem_append_right _ (List.mem_append_right _ hq))
 exact⟨ht.row h.mem (fun k hk=>hn k (m1 k (mem_oneB.2 hk))),ht.row h.young (fun k hk=>hn k (m2 k (List.mem_append_left _ (mem_oneB.2 hk)))),fun t hm=>⟨ht.row (h.youngs t hm).1 (fun k hk=>hn k (m2 k (List.mem_append_right _ (zbo hm (List.mem_append_left _ (mem_oneB.2 hk)))))),ht.row (h.youngs t hm).2 (fun k hk=>hn k (m2 k (List.mem_append_right _ (zbo hm (List.mem_append_right _ (mem_oneB.2 hk))))))⟩,
  ht.row h.old (fun k hk=>hn k (m3 k (List.mem_append_left _ (mem_oneB.2 hk)))),fun t hm=>⟨ht.row (h.olds t hm).1 (fun k hk=>hn k (m3 k (List.mem_append_right _ (zbo hm (List.mem_append_left _ (mem_oneB.2 hk)))))),ht.row (h.olds t hm).2 (fun k hk=>hn k (m3 k (List.mem_append_right _ (zbo hm (List.mem_append_right _ (mem_oneB.2 hk))))))⟩,ht.row h.snaps (fun k hk=>hn k (m4 k (mem_oneB.2 hk)))⟩
theorem zbl(w:World)(lo:Nat):OwnTree w lo ⟨.slice none 0 0,.slice none 0 0,.slice none 0 0,.slice none 0 0,[],[],[],0,[]⟩ :=
 ⟨⟨rfl,.inl ⟨rfl,rfl⟩⟩,⟨rfl,.inl ⟨rfl,rfl⟩⟩,(fun t ht=>by cases ht),⟨rfl,.inl ⟨rfl,rfl⟩⟩,(fun t ht=>by cases ht),⟨rfl,.inl ⟨rfl,rfl⟩⟩,List.nodup_nil⟩
theorem OwnTree.other{w:World}{lo c j:Nat}{u:Value}{Y:TrX}(h:OwnTree w lo Y)(hc:c ∉ trB Y):OwnTree (w.setCell ⟨c,j,none⟩ u) lo Y:=by
 have m1:∀ k∈oneB Y.vm,k∈trB Y:=fun q hq=>List.mem_append_left _ hq
 have m2:∀ k∈oneB Y.vy++tblks Y.ys,k∈trB Y:=fun q hq=>List.mem_append_right _ (List.mem_append_left _ hq)
 have m3:∀ k∈oneB Y.vo++tblks Y.os,k∈trB Y:=fun q hq=>List.mem_append_right _ (List.mem_append_right _ (List.mem_append_left _ hq))
 have m4:∀ k∈oneB Y.vs,k∈trB Y:=fun q hq=>List.mem_append_right _ (List.mem_append_right _ (List.mem_append_right _ hq))
 refine⟨zg h.mem (fun k hk e=>hc (e ▸ m1 k (mem_oneB.2 hk))),zg h.young (fun k hk e=>hc (e ▸ m2 k (List.mem_append_left _ (mem_oneB.2 hk)))),fun t ht=>⟨zg (h.youngs t ht).1 (fun k hk e=>hc (e ▸ m2 k (List.mem_append_right _ (zbo ht (List.mem_append_left _ (mem_oneB.2 hk)))))),zg (h.youngs t ht).2 (fun k hk e=>hc (e ▸ m2 k (List.mem_append_right _ (zbo ht (List.mem_append_right _ (mem_oneB.2 hk))))))⟩,
  zg h.old (fun k hk e=>hc (e ▸ m3 k (List.mem_append_left _ (mem_oneB.2 hk)))),fun t ht=>⟨zg (h.olds t ht).1 (fun k hk e=>hc (e ▸ m3 k (List.mem_append_right _ (zbo ht (List.mem_append_left _ (mem_oneB.2 hk)))))),zg (h.olds t ht).2 (fun k hk e=>hc (e ▸ m3 k (List.mem_append_right _ (zbo ht (List.mem_append_right _ (mem_oneB.2 hk))))))⟩,zg h.snaps (fun k hk e=>hc (e ▸ m4 k (mem_oneB.2 hk))),h.nod⟩
theorem OwnTree.others{w:World}{lo c:Nat}{u0 u1 u2 u3 u4:Value}{Y:TrX}(h:OwnTree w lo Y)(hc:c ∉ trB Y):OwnTree (put5 w c u0 u1 u2 u3 u4) lo Y:=((((h.other hc).other hc).other hc).other hc).other hc
open Go.RowKit
theorem znX{w:World}{b:Nat}{y:Ent}(h:EntAt w b 0 y)(x:Ent):EntAt ((((w.setCell ⟨b,0,none⟩ (.string x.key)).setCell ⟨b,1,none⟩ (.string x.val)).setCell ⟨b,2,none⟩ (.int .i64 x.seq)).setCell ⟨b,3,none⟩ (.bool x.gone)) b 0 x:=by
 obtain⟨z0,z1,z2,z3⟩:=h;rw[Nat.zero_add] at z1 z2 z3;refine⟨?_,?_,?_,?_⟩
 ·rw[World.cell?_setCell_other _ _ _ _ (by simp),World.cell?_setCell_other _ _ _ _ (by simp),World.cell?_setCell_other _ _ _ _ (by simp),World.cell?_setCell_same _ _ _ z0]
 ·rw[Nat.zero_add,World.cell?_setCell_other _ _ _ _ (by simp),World.cell?_setCell_other _ _ _ _ (by simp)];exact World.cell?_setCell_same _ _ _ (by rw[World.cell?_setCell_other _ _ _ _ (by simp)];exact z1)
 ·rw[Nat.zero_add,World.cell?_setCell_other _ _ _ _ (by simp)];exact World.cell?_setCell_same _ _ _ (by rw[World.cell?_setCell_other _ _ _ _ (by simp),World.cell?_setCell_other _ _ _ _ (by simp)];exact z2)
 ·rw[Nat.zero_add];exact World.cell?_setCell_same _ _ _ (by rw[World.cell?_setCell_other _ _ _ _ (by simp),World.cell?_setCell_other _ _ _ _ (by simp),World.cell?_setCell_other _ _ _ _ (by simp)];exact z3)
def snAt(es:List Ent)(i:Nat)(q:Int):Bool:=(seenL es (nth es i).key q).isSome&&decide (((seenL es (nth es i).key q).getD zeroE).seq=(nth es i).seq)
def nwAt(es:List Ent)(i:Nat):Bool:=decide (i=0) || !kEq (nth es (i-1)).key (nth es i).key
theorem zoY(es:List Ent)(qs:List Int)(i:Nat):kept es qs i=(nwAt es i||qs.any (snAt es i)):=rfl
theorem zms{qs:List Int}{j:Nat}(hj:j<qs.length)(p:Int→Bool):(qs.take (j+1)).any p=((qs.take j).any p||p qs[j]):=by
 rw[List.take_succ_eq_append_getElem hj,List.any_append];simp
theorem zlw(es:List Ent)(qs:List Int)(i:Nat):(kept es qs i=true→seTo es qs (i+1)=seTo es qs i++[nth es i])∧(kept es qs i=false→seTo es qs (i+1)=seTo es qs i):=by
 constructor<;>intro h<;>rw[seTo]<;>simp[h]
theorem zgq(es:List Ent)(qs:List Int):∀ i,(seTo es qs i).length≤i
 | 0=>by rw[seTo];simp
 | i+1=>by
  have:=zgq es qs i;rw[seTo];split
  ·rw[List.length_append];simp;omega
  ·omega
theorem zkY(v vq:Value)(es:List Ent)(qs:List Int)(w:World)(hr:RdE w v es)(hq:RdI w vq qs)(hn:es.length≤1000000) :
 Calls Tryz.prog 138 #[v,vq] w fun e w'=>zdI w (zbq es qs) e w':=by
 obtain⟨a,cap,hv,hl,hm,_⟩:=id hr;obtain⟨nn,hnn⟩:∃ nn,nn=es.length:=⟨_,rfl⟩;have HNN:Hid (nn=es.length):=hnn;rw[← hnn] at hv hl hn;subst hv;unfold maxLen at hm;obtain⟨aq,cq,hvq,hlq,hmq,_⟩:=id hq;obtain⟨mm,hmm⟩:∃ mm,mm=qs.length:=⟨_,rfl⟩;have HMM:Hid (mm=qs.length):=hmm;rw[← hmm] at hvq hlq;subst hvq;unfold maxLen at hmq;clear hnn hmm;have ho0:=zS w;have hb0:=za w (.cells #[] 94);go_enter Tryz.func138,Tryz.ntmps138
 go_wp2;go_loopg [5,6] nn (fun gg u i wr=>∃ k:Nat,k+gg=nn∧i=.int .i64 k∧OwnE wr w.heap.size u (seTo es qs k)∧Below w.heap.size w wr)
 case atStart=>exact⟨0,by omega,rfl,ho0,hb0⟩
 case round =>
  obtain⟨k,hkg,rfl,ho,hb⟩:=hrel;clear ho0 hb0;by_cases hlt:k<nn
  ·cases gk with
   | zero=>exfalso;omega
   | succ gg =>
    obtain⟨b,off,rfl,hc⟩:=(hr.below hb).at HNN.out k (by rw[← HNN.out];exact hlt);obtain⟨x,hx⟩:∃ x,x=nth es k:=⟨_,rfl⟩;rw[← hx] at hc;have HX:Hid (x=nth es k):=hx;clear hx;obtain⟨n0,hn0⟩:∃ n0,n0=nwAt es k:=⟨_,rfl⟩;have HN0:Hid (n0=nwAt es k):=hn0;clear hn0;have hkc:k<cap:=by omega
    go_upto_region 5 with fail
    go_cut [7] (fun t W=>t=.bool n0∧OwnE W w.heap.size u5 (seTo es qs k)∧Below w.heap.size w W)
    case first =>
     by_cases hk0:k=0
     ·skip
      have hk0b:((k:Int)==0)=true:=by simp;omega
      have HT:Hid (n0=true):=by unfold Hid;rw[HN0.out];unfold nwAt;rw[hk0];rfl
      clear hk0;refine wp_region_noPanic ?_;refine wp_region_held_drew (S:=fun _=>True) (by kernel_rfl) trivial (fun hH=>?_);refine kA 0 18 hH ?_;refine kA 1 19 hH ?_;refine kA 2 20 hH ?_;refine kS 3 21 hH ?_;refine kS 4 22 hH ?_;refine kS 5 23 hH ?_;refine kS 6 24 hH ?_;refine kS 7 25 hH ?_;refine kS 8 26 hH ?_;refine kS 9 27 hH ?_;refine kS 10 28 hH ?_;refine kS 11 29 hH ?_;refine kS 12 30 hH ?_;refine kS 13 31 hH ?_;refine kS 14 32 hH ?_;refine kA 15 33 hH ?_;refine kA 16 7 hH ?_;refine dne ?_;go_wp2;go_meet
      case rel=>exact⟨by rw[HT.out],ho,hb.drew⟩
     ·skip
      have hk0b:((k:Int)==0)=false:=by simp;omega
      obtain⟨j,hj⟩:∃ j,j=k-1:=⟨_,rfl⟩;have hkj:(k:Int)-1=(j:Int):=by omega
      have hwj:IntKind.i64.wrap (j:Int)=(j:Int):=by rw[IntKind.wrap_i64];omega
      have hjn:j<nn:=by omega
      have hjc:j<cap:=by omega
      obtain⟨b',off',hb',hcj⟩:=(hr.below hb).at HNN.out j (by rw[← HNN.out];exact hjn);cases hb'
      obtain⟨y,hy⟩:∃ y,y=nth es j:=⟨_,rfl⟩;rw[← hy] at hcj;have HT:Hid (n0=!kEq y.key x.key):=by unfold Hid;rw[HN0.out];unfold nwAt;rw[hy,HX.out,hj];simp[hk0]
      have hKB:=zcb y.key x.key;generalize kEq y.key x.key=ke at hKB HT;clear hk0 hj hy;refine wp_region_noPanic ?_;refine wp_region_held_drew (S:=fun W=>EntAt W b (off+k*4) x∧EntAt W b (off+j*4) y) (by kernel_rfl) ⟨hc,hcj⟩ (fun hH=>?_);refine kA 0 18 hH ?_;refine kA 1 19 hH ?_;refine kA 2 20 hH ?_;refine kA 3 21 hH ?_;refine kA 4 22 hH ?_;refine kA 5 23 hH ?_;refine kA 6 24 hH ?_;refine kA 7 25 hH ?_;refine kA 8 26 hH ?_;refine kA 9 27 hH ?_;refine kA 10 28 hH ?_;refine kA 11 29 hH ?_;refine kA 12 30 hH ?_;refine kA 13 31 hH ?_;refine kA 14 32 hH ?_;refine kA 15 33 hH ?_;refine kA 16 7 hH ?_;refine dne ?_;go_wp2;go_meet
      case rel=>exact⟨by rw[HT.out],ho,hb.drew⟩
    case rest =>
     obtain⟨h7,ho1,hb1⟩:=hcut;subst h7;clear ho hb hc;go_wp2;go_loopw [7,8] (fun kv j wr=>∃ (jn:Nat) (kb:Bool),jn≤mm∧j=.int .i64 jn∧kv=.bool kb∧Hid (kb=(n0||(qs.take jn).any (snAt es k)))∧OwnE wr w.heap.size u5 (seTo es qs k)∧Below w.heap.size w wr) (fun _ j _=>mm-(intOf j).toNat)
     case atStart=>exact⟨0,n0,Nat.zero_le _,rfl,rfl,by unfold Hid;simp,ho1,hb1⟩
     case round =>
      obtain⟨jn,kb,hjm,rfl,rfl,HKB,ho2,hb2⟩:=hrel;clear ho1 hb1;by_cases hjl:jn<mm
      ·skip
       have hrj:=hr.below hb2;obtain⟨b',off',hb',hck⟩:=hrj.at HNN.out k (by rw[← HNN.out];exact hlt);cases hb'
       rw[← HX.out] at hck;obtain⟨bq,oq,rfl,hcq⟩:=(hq.below hb2).at jn (by rw[← HMM.out];exact hjl);obtain⟨q,hqq⟩:∃ q,q=qs[jn]'(by rw[← HMM.out];exact hjl):=⟨_,rfl⟩;rw[← hqq] at hcq;have hjc2:jn<cq:=by omega
       obtain⟨z,hz⟩:∃ z,z=(seenL es x.key q).getD zeroE:=⟨_,rfl⟩;obtain⟨s,hs⟩:∃ s,s=(seenL es x.key q).isSome:=⟨_,rfl⟩;have HSN:Hid (snAt es k q=(s&&decide (z.seq=x.seq))):=by unfold Hid snAt;rw[← HX.out,← hz,← hs]
       have HKB2:Hid ((n0||(qs.take (jn+1)).any (snAt es k))=(kb||(s&&decide (z.seq=x.seq)))):=by
        unfold Hid;rw[zms (by rw[← HMM.out];exact hjl),← hqq,HSN.out,HKB.out,Bool.or_assoc]
       have HCS:Hid (∀ W,RdE W (.slice (some ⟨b,off,none⟩) nn cap) es→Calls Tryz.prog 186 #[.slice (some ⟨b,off,none⟩) nn cap,.string x.key,.int .i64 q] W fun e w'=>e=.returned (.tuple #[.agg #[.string z.key,.string z.val,.int .i64 z.seq,.bool z.gone],.bool s])∧Below W.heap.size W w'):=fun W h=>zqL _ es x.key q z s W h hz.symm hs.symm
       clear hz hs hqq HSN HKB;go_wp2_with fail
       refine wp_region_noPanic ?_;refine wp_region_held_drew (S:=fun W=>EntAt W b (off+k*4) x∧W.cell? ⟨bq,oq+jn,none⟩=some (.int .i64 q)) (by kernel_rfl) ⟨hck,hcq⟩ (fun hH=>?_);have qo:OwnE wr.drew _ u5 (seTo es qs k):=ho2.drewN 1;have qb:=hb2.drew;have qr:RdE wr.drew _ es:=hrj.drewN 1;clear ho2 hb2 hrj hck hcq;revert hH qo qb qr;generalize wr.drew=W0;intro hH qo qb qr;refine kA 0 41 hH ?_;refine kA 1 42 hH ?_;refine kA 2 43 hH ?_;refine kA 3 44 hH ?_;refine kA 4 45 hH ?_;refine kA 5 46 hH ?_;refine kA 6 47 hH ?_;refine kA 7 48 hH ?_;refine kA 8 49 hH ?_;refine kA 9 50 hH ?_;refine wpAnyH_ready (rs:=[10,14]) (by kernel_rfl) (by simp) ?_;refine AllReadyH.cons rfl (fun K hK=>?_) ?_;go_simp;refine(HCS.out _ qr).mono ?_;rintro e W1 ⟨rfl,hb1⟩;have bA:=hb1.trans ((za W1 (.cells #[.string ⟨#[]⟩,.string ⟨#[]⟩,.int .i64 0,.bool false] 94)).mono hb1.size);have bB:=hb1.trans ((za W1 (.cells #[.string z.key,.string z.val,.int .i64 z.seq,.bool z.gone] 94)).mono hb1.size);have cl:=World.block_lt_of_cell? W0 _ hH.2;have hA1:(fun W=>EntAt W b (off+k*4) x∧W.cell? ⟨bq,oq+jn,none⟩=some (.int .i64 q)) W1:=⟨hH.1.below hb1,(hb1.cell cl).trans hH.2⟩;have hA2:(fun W=>EntAt W b (off+k*4) x∧W.cell? ⟨bq,oq+jn,none⟩=some (.int .i64 q)) (W1.alloc (.cells #[.string ⟨#[]⟩,.string ⟨#[]⟩,.int .i64 0,.bool false] 94)):=⟨hH.1.below bA,(bA.cell cl).trans hH.2⟩
       have hA3:(fun W=>EntAt W b (off+k*4) x∧W.cell? ⟨bq,oq+jn,none⟩=some (.int .i64 q)) (W1.alloc (.cells #[.string z.key,.string z.val,.int .i64 z.seq,.bool z.gone] 94)):=⟨hH.1.below bB,(bB.cell cl).trans hH.2⟩;refine hK.out _ _ hA1 (fun h1=>?_);clear hK K;try simp only[Act.put,sA,sZ,sS]
       refine kA 11 40 h1 ?_;refine kA 12 52 h1 ?_;refine kA 13 53 h1 ?_;refine rdy 14 (fun K hK=>?_);go_simp;refine hK.out _ _ hA2 (fun h2=>?_);clear hK K;try simp only[Act.put,sA,sZ,sS]
       obtain⟨⟨z0,z1,z2,z3⟩,zf⟩:=zew W1 94;have f0:=zf 0;have f1:=zf 1;have f2:=zf 2;have f3:=zf 3;rw[Nat.zero_add] at z1 z2 z3;refine rdy 15 (fun K hK=>?_);go_simp;refine hK.out _ _ hA3 (fun h3=>?_);clear hK K;try simp only[Act.put,sA,sZ,sS]
       refine kA 16 10 h3 ?_;refine dne ?_;have qx:=zad W1 z 94;have qE:=hA3.1;replace qo:=qo.below bB;replace qb:=qb.trans (bB.mono qb.size);clear h1 h2 h3 hA1 hA2 hA3 hH hb1 bA bB cl z0 z1 z2 z3 zf f0 f1 f2 f3 qr;generalize W1.alloc (.cells #[.string z.key,.string z.val,.int .i64 z.seq,.bool z.gone] 94)=W4 at qo qb qx qE ⊢;generalize W1.heap.size=B3 at qx ⊢;clear W1 W0;revert qx;revert qE;revert qb;revert qo;revert B3;revert W4;refine ?tailq;rotate_left 1;refine AllReadyH.cons rfl (fun K hK=>?_) AllReadyH.nil;go_simp;have bZ:=za W0 (.cells #[.string ⟨#[]⟩,.string ⟨#[]⟩,.int .i64 0,.bool false] 94);have hz0:=zew W0 94;have qr0:=qr.below bZ;have cl:=World.block_lt_of_cell? W0 _ hH.2;have hA0:(fun W=>EntAt W b (off+k*4) x∧W.cell? ⟨bq,oq+jn,none⟩=some (.int .i64 q)) (W0.alloc (.cells #[.string ⟨#[]⟩,.string ⟨#[]⟩,.int .i64 0,.bool false] 94)):=⟨hH.1.below bZ,(bZ.cell cl).trans hH.2⟩;refine hK.out _ _ hA0 (fun h0=>?_);clear hK K;try simp only[Act.put,sA,sZ,sS]
       refine rdy 10 (fun K hK=>?_);go_simp;refine(HCS.out _ qr0).mono ?_;rintro e W1 ⟨rfl,hb1⟩;have bA:=bZ.trans (hb1.mono bZ.size);have hz1:=hz0.below hb1;have bB:Below W0.heap.size W0 ((((W1.setCell ⟨W0.heap.size,0,none⟩ (.string z.key)).setCell ⟨W0.heap.size,1,none⟩ (.string z.val)).setCell ⟨W0.heap.size,2,none⟩ (.int .i64 z.seq)).setCell ⟨W0.heap.size,3,none⟩ (.bool z.gone)):=zba bA (Nat.le_refl _) _ _ _ _ _ _ _ _;have hA1:(fun W=>EntAt W b (off+k*4) x∧W.cell? ⟨bq,oq+jn,none⟩=some (.int .i64 q)) W1:=⟨hH.1.below bA,(bA.cell cl).trans hH.2⟩;have hA3:(fun W=>EntAt W b (off+k*4) x∧W.cell? ⟨bq,oq+jn,none⟩=some (.int .i64 q)) ((((W1.setCell ⟨W0.heap.size,0,none⟩ (.string z.key)).setCell ⟨W0.heap.size,1,none⟩ (.string z.val)).setCell ⟨W0.heap.size,2,none⟩ (.int .i64 z.seq)).setCell ⟨W0.heap.size,3,none⟩ (.bool z.gone)):=⟨hH.1.below bB,(bB.cell cl).trans hH.2⟩;refine hK.out _ _ hA1 (fun h1=>?_);clear hK K;try simp only[Act.put,sA,sZ,sS]
       refine kA 11 40 h1 ?_;refine kA 12 52 h1 ?_;refine kA 13 53 h1 ?_;obtain⟨z0,z1,z2,z3,f0,f1,f2,f3⟩:=hz1.facts;refine rdy 15 (fun K hK=>?_);go_simp;refine hK.out _ _ hA3 (fun h3=>?_);clear hK K;try simp only[Act.put,sA,sZ,sS]
       refine kA 16 10 h3 ?_;refine dne ?_;have qx:=znX hz1.1 z;have qE:=hA3.1;replace qo:=qo.below bB;replace qb:=qb.trans (bB.mono qb.size);clear h0 h1 h3 hA0 hA1 hA3 hH hb1 bA bB bZ hz0 hz1 qr0 qr cl z0 z1 z2 z3 f0 f1 f2 f3;generalize ((((W1.setCell ⟨W0.heap.size,0,none⟩ (.string z.key)).setCell ⟨W0.heap.size,1,none⟩ (.string z.val)).setCell ⟨W0.heap.size,2,none⟩ (.int .i64 z.seq)).setCell ⟨W0.heap.size,3,none⟩ (.bool z.gone))=W4 at qo qb qx qE ⊢;generalize W0.heap.size=B3 at qx ⊢;clear W1 W0;revert qx;revert qE;revert qb;revert qo;revert B3;revert W4;refine ?tailq;intro W4 B3 qo qb qE qx;obtain⟨r,hrq⟩:∃ r:Bool,(z.seq==x.seq)=r:=⟨_,rfl⟩;have HRQ:Hid (decide (z.seq=x.seq)=r):=by unfold Hid;rw[← hrq];rfl
       rw[HRQ.out] at HKB2;clear HRQ;go_wp2_with fail
       cases kb with
       | true =>
        refine wp_region_noPanic ?_;refine wp_region_held_drew (S:=fun _=>True) (by kernel_rfl) trivial (fun hM=>?_);refine kA 0 54 hM ?_;refine kA 1 55 hM ?_;refine kS 2 56 hM ?_;refine kS 3 57 hM ?_;refine kS 4 58 hM ?_;refine kS 5 59 hM ?_;refine kS 6 60 hM ?_;refine kS 7 61 hM ?_;refine kS 8 62 hM ?_;refine kS 9 63 hM ?_;refine kS 10 64 hM ?_;refine kS 11 65 hM ?_;refine kS 12 66 hM ?_;refine kA 13 67 hM ?_;refine kA 14 7 hM ?_;refine dne ?_;go_wp2;go_roundw
        case rel=>exact⟨jn+1,true,by omega,by go_num,rfl,by unfold Hid;rw[HKB2.out];rfl,qo,qb.drew⟩
        case measure=>simp[intOf];omega
       | false =>
        cases s with
        | false =>
         refine wp_region_noPanic ?_;refine wp_region_held_drew (S:=fun _=>True) (by kernel_rfl) trivial (fun hM=>?_);refine kA 0 54 hM ?_;refine kA 1 55 hM ?_;refine kA 2 56 hM ?_;refine kA 3 57 hM ?_;refine kS 4 58 hM ?_;refine kS 5 59 hM ?_;refine kS 6 60 hM ?_;refine kS 7 61 hM ?_;refine kS 8 62 hM ?_;refine kS 9 63 hM ?_;refine kS 10 64 hM ?_;refine kS 11 65 hM ?_;refine kA 12 66 hM ?_;refine kA 13 67 hM ?_;refine kA 14 7 hM ?_;refine dne ?_;go_wp2;go_roundw
         case rel=>exact⟨jn+1,false,by omega,by go_num,rfl,by unfold Hid;rw[HKB2.out];rfl,qo,qb.drew⟩
         case measure=>simp[intOf];omega
        | true =>
         refine wp_region_noPanic ?_;refine wp_region_held_drew (S:=fun W=>EntAt W b (off+k*4) x∧EntAt W B3 0 z) (by kernel_rfl) ⟨qE,qx⟩ (fun hM=>?_);refine kA 0 54 hM ?_;refine kA 1 55 hM ?_;refine kA 2 56 hM ?_;refine kA 3 57 hM ?_;refine kA 4 58 hM ?_;refine kA 5 59 hM ?_;refine kA 6 60 hM ?_;refine kA 7 61 hM ?_;refine kA 8 62 hM ?_;refine kA 9 63 hM ?_;refine kA 10 64 hM ?_;refine kA 11 65 hM ?_;refine kA 12 66 hM ?_;refine kA 13 67 hM ?_;refine kA 14 7 hM ?_;refine dne ?_;go_wp2;go_roundw
         case rel=>exact⟨jn+1,r,by omega,by go_num,rfl,by unfold Hid;rw[HKB2.out];rfl,qo,qb.drew⟩
         case measure=>simp[intOf];omega
      ·skip
       have HKE:Hid (kb=kept es qs k):=by
        unfold Hid;rw[HKB.out,zoY,HN0.out,List.take_of_length_le (by rw[← HMM.out];omega)]
       have hjl2:¬ (jn:Int)<(mm:Int):=by omega
       clear HKB HN0;have hc2:=(hr.below hb2).at HNN.out k (by rw[← HNN.out];exact hlt);obtain⟨b',off',hb',hck⟩:=hc2;cases hb'
       rw[← HX.out] at hck;obtain⟨c0,c1,c2,c3⟩:=id hck;cases kb with
       | true =>
        have HS:Hid (seTo es qs (k+1)=seTo es qs k++[x]):=by unfold Hid;rw[(zlw es qs k).1 HKE.out.symm,HX.out]
        have hsl:=zgq es qs k;go_wp2_with (at_builtin;(refine zi rfl _ _ rfl w.heap.size _ _ (seTo es qs k) [x] rfl rfl (ho2.below (za _ _)) (rdE_oneS (zad _ _ _)) (by simp;omega) (by simp;have:=hb2.size;omega) ?_))
        intro v5 w5 ho5 hg5;have b5:Below w.heap.size w w5:=(hb2.alloc hb2.size _).grown hg5 (by simp;have:=hb2.size;omega) (fun j hj=>(World.ownsRow.lt ho2 j hj).1);rw[← HS.out] at ho5;clear hg5 ho2 hb2 c0 c1 c2 c3 hck hsl;go_wp2;go_roundg gg
        case rel=>exact⟨k+1,by omega,by go_num,ho5,b5⟩
        case measure=>omega
       | false =>
        have HS:Hid (seTo es qs (k+1)=seTo es qs k):=(zlw es qs k).2 HKE.out.symm;rw[← HS.out] at ho2;go_wp2;go_roundg gg
        case rel=>exact⟨k+1,by omega,by go_num,ho2,hb2⟩
        case measure=>omega
  ·skip
   have hke:¬ (k:Int)<(nn:Int):=by omega
   have HKE:Hid (k=es.length):=by unfold Hid;rw[← HNN.out];omega
   go_wp2;go_ret;exact⟨_,rfl,by unfold zbq;rw[← HKE.out];exact ho,hb⟩
open Go.RowKit
theorem zqA(w:World)(x:Ent):OwnE (w.alloc (.cells #[.string x.key,.string x.val,.int .i64 x.seq,.bool x.gone] 94)) w.heap.size (.slice (some ⟨w.heap.size,0,none⟩) 1 1) [x]:=World.ownsRow_lit w #[.string x.key,.string x.val,.int .i64 x.seq,.bool x.gone] 1 (Nat.le_refl _) (by unfold maxLen;omega) rfl
theorem told_ok{es:List Ent}{qs:List Int}(h:toldS es qs=true):okL es=true:=by simp only[toldS,Bool.and_eq_true] at h;exact h.1
theorem bot_step{al:List Ent}{g:Nat}(h:g<al.length):zB (al.drop g)=botS (nth al g) (zB (al.drop (g+1))):=by
 rw[List.drop_eq_getElem_cons h,zE h];rfl
theorem zqz(es:List Ent):(zB es).length≤es.length:=(zd2 es).length_le
theorem zdt(v vq:Value)(es:List Ent)(qs:List Int)(w:World)(hr:RdE w v es)(hq:RdI w vq qs)(hn:es.length≤1000000) :
 Calls Tryz.prog 96 #[v,vq] w fun e w'=>zdI w (zB (zbq es qs)) e w':=by
 have HC:Hid (Calls _ _ _ _ _):=zkY v vq es qs w hr hq hn;have hsl:(zbq es qs).length≤1000000:=by have:=zgq es qs es.length;unfold zbq;omega
 generalize zbq es qs=al at HC hsl;go_enter Tryz.func96,Tryz.ntmps96
 go_wp2_with fail
 refine HC.out.mono ?_;rintro e w1 ⟨ua,rfl,hoa,hba⟩;obtain⟨nn,hnn⟩:∃ nn,nn=al.length:=⟨_,rfl⟩;have HNN:Hid (nn=al.length):=hnn;obtain⟨aa,ca,hva,hla,hma,_⟩:=id hoa.rd;rw[← hnn] at hva hla hsl;subst hva;unfold maxLen at hma;have ho0:=zS w1;have bn:=za w1 (.cells #[] 94);have hoa1:=hoa.below bn;have hb1:=hba.trans (bn.mono hba.size);have ho1:=ho0.mono hba.size;have hwn:IntKind.i64.wrap ((nn:Int)-1)=(nn:Int)-1:=by rw[IntKind.wrap_i64];omega
 have HB0:Hid (([]:List Ent)=zB (al.drop nn)):=by rw[hnn,List.drop_eq_nil_of_le (Nat.le_refl _)];rfl
 clear hnn hoa hba ho0 bn HC;go_wp2;go_loopg [6,7] nn (fun gg u i wr=>∃ out:List Ent,gg≤nn∧i=.int .i64 ((gg:Int)-1)∧Hid (out=zB (al.drop gg))∧OwnE wr w.heap.size u out∧OwnE wr w.heap.size (.slice aa nn ca) al∧Below w.heap.size w wr)
 case atStart=>exact⟨[],Nat.le_refl _,rfl,HB0,ho1,hoa1,hb1⟩
 case round =>
  obtain⟨out,hg,rfl,HO,ho,hoa,hb⟩:=hrel;clear ho1 hoa1 hb1 HB0;cases gk with
  | zero =>
   have HE:Hid (out=zB al):=by have:=HO.out;rw[List.drop_zero] at this;exact this
   have h0:((0:Nat):Int)-1 = -1:=by omega
   rw[h0];go_wp2;go_ret;exact⟨_,rfl,by rw[← HE.out];exact ho,hb⟩
  | succ g =>
   have hgi:((g+1:Nat):Int)-1=(g:Int):=by omega
   rw[hgi];obtain⟨b,off,rfl,hc⟩:=hoa.rd.at HNN.out g (by rw[← HNN.out];omega);obtain⟨x,hx⟩:∃ x,x=nth al g:=⟨_,rfl⟩;rw[← hx] at hc;have HST:Hid (zB (al.drop g)=botS x out):=by unfold Hid;rw[bot_step (by rw[← HNN.out];omega),← hx,HO.out]
   have hol:out.length≤1000000:=by rw[HO.out];have:=zqz (al.drop (g+1));rw[List.length_drop,← HNN.out] at this;omega
   clear hx HO hgi;obtain⟨on,hon⟩:∃ on,on=out.length:=⟨_,rfl⟩;have HON:Hid (on=out.length):=hon;obtain⟨ao,co,hvo,hlo,hmo,_⟩:=id ho.rd;rw[← hon] at hvo hlo hol;subst hvo;unfold maxLen at hmo;obtain⟨la,hla2⟩:∃ la,la=(decide (on=0) || !kEq (nth out 0).key x.key):=⟨_,rfl⟩;have HLA:Hid (la=(decide (on=0) || !kEq (nth out 0).key x.key)):=hla2;have HBS:Hid (zB (al.drop g)=if (la&&x.gone)=true then out else x::out):=by unfold Hid;rw[HST.out,HLA.out,hon];rfl
   clear hla2 hon HST;have hgn:g<nn:=by omega
   have hgc:g<ca:=by omega
   have hg0:¬ (g:Int)<0:=by omega
   go_upto_region 6 with fail
   go_cut [8] (fun t W=>t=.bool la∧OwnE W w.heap.size (.slice ao on co) out∧OwnE W w.heap.size (.slice (some ⟨b,off,none⟩) nn ca) al∧EntAt W b (off+g*4) x∧Below w.heap.size w W)
   case first =>
    by_cases h0:on=0
    ·skip
     have h0b:((on:Int)==0)=true:=by simp;omega
     have HT:Hid (la=true):=by unfold Hid;rw[HLA.out,h0];rfl
     clear h0;refine wp_region_noPanic ?_;refine wp_region_held_drew (S:=fun _=>True) (by kernel_rfl) trivial (fun hH=>?_);refine kA 0 20 hH ?_;refine kA 1 21 hH ?_;refine kA 2 22 hH ?_;refine kA 3 23 hH ?_;refine kS 4 24 hH ?_;refine kS 5 25 hH ?_;refine kS 6 26 hH ?_;refine kS 7 27 hH ?_;refine kS 8 28 hH ?_;refine kS 9 29 hH ?_;refine kS 10 30 hH ?_;refine kS 11 31 hH ?_;refine kS 12 32 hH ?_;refine kS 13 33 hH ?_;refine kA 14 34 hH ?_;refine kA 15 8 hH ?_;refine dne ?_;go_wp2;go_meet
     case rel=>exact⟨by rw[HT.out],ho,hoa,hc,hb.drew⟩
    ·skip
     have h0b:((on:Int)==0)=false:=by simp;omega
     have hop:0<on:=by omega
     obtain⟨bo,oo,rfl,hco⟩:=ho.rd.at HON.out 0 (by rw[← HON.out];exact hop);rw[Nat.zero_mul,Nat.add_zero] at hco;obtain⟨y,hy⟩:∃ y,y=nth out 0:=⟨_,rfl⟩;rw[← hy] at hco HLA;have HT:Hid (la=!kEq y.key x.key):=by unfold Hid;rw[HLA.out];simp[h0]
     have hKB:=zcb y.key x.key;generalize kEq y.key x.key=ke at hKB HT;clear h0 hy HLA;refine wp_region_noPanic ?_;refine wp_region_held_drew (S:=fun W=>EntAt W b (off+g*4) x∧EntAt W bo oo y) (by kernel_rfl) ⟨hc,hco⟩ (fun hH=>?_);refine kA 0 20 hH ?_;refine kA 1 21 hH ?_;refine kA 2 22 hH ?_;refine kA 3 23 hH ?_;refine kA 4 24 hH ?_;refine kA 5 25 hH ?_;refine kA 6 26 hH ?_;refine kA 7 27 hH ?_;refine kA 8 28 hH ?_;refine kA 9 29 hH ?_;refine kA 10 30 hH ?_;refine kA 11 31 hH ?_;refine kA 12 32 hH ?_;refine kA 13 33 hH ?_;refine kA 14 34 hH ?_;refine kA 15 8 hH ?_;refine dne ?_;go_wp2;go_meet
     case rel=>exact⟨by rw[HT.out],ho,hoa,hc,hb.drew⟩
   case rest =>
    obtain⟨h8,ho2,hoa2,hc2,hb2⟩:=hcut;subst h8;clear ho hoa hc hb HLA;obtain⟨c0,c1,c2,c3⟩:=id hc2;by_cases hdrop:(la&&x.gone)=true
    ·have HBS2:Hid (zB (al.drop g)=out):=by unfold Hid;rw[HBS.out,if_pos hdrop]
     simp only[Bool.and_eq_true] at hdrop;obtain⟨rfl,hxg⟩:=hdrop;rw[hxg] at c3;go_wp2;go_roundg g
     case rel=>exact⟨out,by omega,by go_num,HBS2.out.symm,ho2,hoa2,hb2⟩
     case measure=>omega
    ·have HBS2:Hid (zB (al.drop g)=[x]++out):=by unfold Hid;rw[HBS.out,if_neg hdrop];rfl
     have hor:la=false∨(la=true∧x.gone=false):=by cases la<;>cases hg:x.gone<;>simp_all
     have HAP:Hid (∀ W v5 w5,OwnE W w.heap.size (.slice ao on co) out→OwnE W w.heap.size (.slice (some ⟨b,off,none⟩) nn ca) al→Below w.heap.size w W→OwnE w5 W.heap.size v5 ([x]++out)→(W.alloc (.cells #[.string x.key,.string x.val,.int .i64 x.seq,.bool x.gone] 94)).grownBy w5 (some W.heap.size)→OwnE w5 w.heap.size v5 (zB (al.drop g))∧OwnE w5 w.heap.size (.slice (some ⟨b,off,none⟩) nn ca) al∧Below w.heap.size w w5):=fun W v5 w5 h1 h2 h3 h4 h5=>by
      have bb:Below W.heap.size W w5:=(za W (.cells #[.string x.key,.string x.val,.int .i64 x.seq,.bool x.gone] 94)).grown h5 (by simp) (fun j hj=>by cases hj;exact Nat.le_refl _);exact⟨by rw[HBS2.out];exact h4.mono h3.size,h2.below bb,h3.trans (bb.mono h3.size)⟩
     clear hdrop HBS;rcases hor with rfl | ⟨rfl,hxg⟩
     ·go_wp2_with (at_builtin;(refine zi rfl _ _ rfl wc.heap.size _ _ [x] out rfl rfl (zqA _ _) (ho2.rd.below (za _ _)) (by rw[← HON.out];simp;omega) (by simp) ?_))
      intro v5 w5 ho5 hg5;obtain⟨r1,r2,r3⟩:=HAP.out wc v5 w5 ho2 hoa2 hb2 ho5 hg5;clear ho2 hoa2 hc2 hb2 c0 c1 c2 c3 ho5 hg5;go_wp2;go_roundg g
      case rel=>exact⟨_,by omega,by go_num,rfl,r1,r2,r3⟩
      case measure=>omega
     ·have c3b:=c3;rw[hxg] at c3b;rw[hxg] at HAP;have ho1x:=zqA wc x;rw[hxg] at ho1x;clear c3;go_wp2_with (at_builtin;(refine zi rfl _ _ rfl wc.heap.size _ _ [x] out rfl rfl ho1x (ho2.rd.below (za _ _)) (by rw[← HON.out];simp;omega) (by simp) ?_))
      intro v5 w5 ho5 hg5;obtain⟨r1,r2,r3⟩:=HAP.out wc v5 w5 ho2 hoa2 hb2 ho5 hg5;clear ho2 hoa2 hc2 hb2 c0 c1 c2 c3b ho5 hg5;go_wp2;go_roundg g
      case rel=>exact⟨_,by omega,by go_num,rfl,r1,r2,r3⟩
      case measure=>omega
end Go.Proofs.YtannfbpohhnnkaaGreatDoor
