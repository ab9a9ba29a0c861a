import Derived.Test.YtjlnchhgkfnldaaGreatG21
import Derived.Deep.DeepCutAuto
import Derived.Deep.LoopGhost
namespace Go.Proofs.YtjlnchhgkfnldaaGreat
set_option maxHeartbeats 16000000
set_option maxRecDepth 100000
open Go.RowKit
def blk(t:TV):List Nat:=oneB t.vb++oneB t.vk
theorem zcG{ts:List TV}{t:TV}(h:t∈ts){k:Nat}(hk:k∈blk t):k∈tblks ts:=List.mem_flatMap.2 ⟨t,h,hk⟩
theorem OwnTs.touch{bs:List Nat}{w w':World}{B:Nat}{v:Value}{ts:List TV}(h:OwnTs w B v ts)(ht:Touch bs w w')(hn:∀ k∈oneB v++tblks ts,k ∉ bs):OwnTs w' B v ts :=
 ⟨ht.row h.row (fun k hk=>hn k (List.mem_append_left _ (mem_oneB.2 hk))),fun t hm=>⟨ht.row (h.ins t hm).1 (fun k hk=>hn k (List.mem_append_right _ (zcG hm (List.mem_append_left _ (mem_oneB.2 hk))))),ht.row (h.ins t hm).2 (fun k hk=>hn k (List.mem_append_right _ (zcG hm (List.mem_append_right _ (mem_oneB.2 hk)))))⟩,h.nod⟩
open Go.RowKit
structure RowsTr (w:World) (lo:Nat) (Y:TrX):Prop where
 mem:OwnE w lo Y.vm Y.mem
 young:OwnT w lo Y.vy Y.ys
 youngs:InT w lo Y.ys
 old:OwnT w lo Y.vo Y.os
 olds:InT w lo Y.os
 snaps:OwnI w lo Y.vs Y.snaps
theorem RowsTr.rd{w:World}{lo:Nat}{Y:TrX}(h:RowsTr w lo Y):RdTr w Y:=⟨h.mem.rd,h.young.rd h.youngs,h.old.rd h.olds,h.snaps.rd⟩
theorem RowsTr.below{w w':World}{lo:Nat}{Y:TrX}(h:RowsTr w lo Y)(hb:Below w.heap.size w w'):RowsTr w' lo Y:=⟨h.mem.below hb,h.young.below hb,h.youngs.below hb,h.old.below hb,h.olds.below hb,h.snaps.below hb⟩
theorem RowsTr.mono{w:World}{lo lo':Nat}{Y:TrX}(h:RowsTr w lo Y)(hb:lo'≤lo):RowsTr w lo' Y:=⟨h.mem.mono hb,h.young.mono hb,h.youngs.mono hb,h.old.mono hb,h.olds.mono hb,h.snaps.mono hb⟩
theorem RowsTr.bound{w:World}{lo:Nat}{Y:TrX}(h:RowsTr w lo Y){k:Nat}(hk:k∈trB Y):lo≤k∧k<w.heap.size:=by
 unfold trB at hk;rcases List.mem_append.1 hk with hk | hk
 ·exact oL h.mem k (mem_oneB.1 hk)
 rcases List.mem_append.1 hk with hk | hk
 ·rcases List.mem_append.1 hk with hk | hk
  ·exact oL h.young k (mem_oneB.1 hk)
  ·exact zbG h.youngs hk
 rcases List.mem_append.1 hk with hk | hk
 ·rcases List.mem_append.1 hk with hk | hk
  ·exact oL h.old k (mem_oneB.1 hk)
  ·exact zbG h.olds hk
 ·exact oL h.snaps k (mem_oneB.1 hk)
theorem RowsTr.touch{bs:List Nat}{w w':World}{lo:Nat}{Y:TrX}(h:RowsTr w lo Y)(ht:Touch bs w w')(hn:∀ k∈trB Y,k ∉ bs):RowsTr w' lo Y:=by
 have m1:∀ k∈oneB Y.vm,k∈trB Y:=fun q hq=>List.mem_append_left _ hq
 have m2:∀ k∈oneB Y.vy++tblks Y.ys,k∈trB Y:=fun q hq=>List.mem_append_right _ (List.mem_append_left _ hq)
 have m3:∀ k∈oneB Y.vo++tblks Y.os,k∈trB Y:=fun q hq=>List.mem_append_right _ (List.mem_append_right _ (List.mem_append_left _ hq))
 have m4:∀ k∈oneB Y.vs,k∈trB Y:=fun q hq=>List.mem_append_right _ (List.mem_append_right _ (List.mem_append_right _ hq))
 exact⟨ht.row h.mem (fun k hk=>hn k (m1 k (mem_oneB.2 hk))),ht.row h.young (fun k hk=>hn k (m2 k (List.mem_append_left _ (mem_oneB.2 hk)))),fun t hm=>⟨ht.row (h.youngs t hm).1 (fun k hk=>hn k (m2 k (List.mem_append_right _ (zcG hm (List.mem_append_left _ (mem_oneB.2 hk)))))),ht.row (h.youngs t hm).2 (fun k hk=>hn k (m2 k (List.mem_append_right _ (zcG hm (List.mem_append_right _ (mem_oneB.2 hk))))))⟩,
  ht.row h.old (fun k hk=>hn k (m3 k (List.mem_append_left _ (mem_oneB.2 hk)))),fun t hm=>⟨ht.row (h.olds t hm).1 (fun k hk=>hn k (m3 k (List.mem_append_right _ (zcG hm (List.mem_append_left _ (mem_oneB.2 hk)))))),ht.row (h.olds t hm).2 (fun k hk=>hn k (m3 k (List.mem_append_right _ (zcG hm (List.mem_append_right _ (mem_oneB.2 hk))))))⟩,ht.row h.snaps (fun k hk=>hn k (m4 k (mem_oneB.2 hk)))⟩
theorem zaW(w:World)(lo:Nat):OwnTree w lo ⟨.slice none 0 0,.slice none 0 0,.slice none 0 0,.slice none 0 0,[],[],[],0,[]⟩ :=
 ⟨⟨rfl,.inl ⟨rfl,rfl⟩⟩,⟨rfl,.inl ⟨rfl,rfl⟩⟩,(fun t ht=>by cases ht),⟨rfl,.inl ⟨rfl,rfl⟩⟩,(fun t ht=>by cases ht),⟨rfl,.inl ⟨rfl,rfl⟩⟩,List.nodup_nil⟩
theorem OwnTree.other{w:World}{lo c j:Nat}{u:Value}{Y:TrX}(h:OwnTree w lo Y)(hc:c ∉ trB Y):OwnTree (w.setCell ⟨c,j,none⟩ u) lo Y:=by
 have m1:∀ k∈oneB Y.vm,k∈trB Y:=fun q hq=>List.mem_append_left _ hq
 have m2:∀ k∈oneB Y.vy++tblks Y.ys,k∈trB Y:=fun q hq=>List.mem_append_right _ (List.mem_append_left _ hq)
 have m3:∀ k∈oneB Y.vo++tblks Y.os,k∈trB Y:=fun q hq=>List.mem_append_right _ (List.mem_append_right _ (List.mem_append_left _ hq))
 have m4:∀ k∈oneB Y.vs,k∈trB Y:=fun q hq=>List.mem_append_right _ (List.mem_append_right _ (List.mem_append_right _ hq))
 refine⟨zi h.mem (fun k hk e=>hc (e ▸ m1 k (mem_oneB.2 hk))),zi h.young (fun k hk e=>hc (e ▸ m2 k (List.mem_append_left _ (mem_oneB.2 hk)))),fun t ht=>⟨zi (h.youngs t ht).1 (fun k hk e=>hc (e ▸ m2 k (List.mem_append_right _ (zcG ht (List.mem_append_left _ (mem_oneB.2 hk)))))),zi (h.youngs t ht).2 (fun k hk e=>hc (e ▸ m2 k (List.mem_append_right _ (zcG ht (List.mem_append_right _ (mem_oneB.2 hk))))))⟩,
  zi h.old (fun k hk e=>hc (e ▸ m3 k (List.mem_append_left _ (mem_oneB.2 hk)))),fun t ht=>⟨zi (h.olds t ht).1 (fun k hk e=>hc (e ▸ m3 k (List.mem_append_right _ (zcG ht (List.mem_append_left _ (mem_oneB.2 hk)))))),zi (h.olds t ht).2 (fun k hk e=>hc (e ▸ m3 k (List.mem_append_right _ (zcG ht (List.mem_append_right _ (mem_oneB.2 hk))))))⟩,zi h.snaps (fun k hk e=>hc (e ▸ m4 k (mem_oneB.2 hk))),h.nod⟩
theorem OwnTree.others{w:World}{lo c:Nat}{u0 u1 u2 u3 u4:Value}{Y:TrX}(h:OwnTree w lo Y)(hc:c ∉ trB Y):OwnTree (put5 w c u0 u1 u2 u3 u4) lo Y:=((((h.other hc).other hc).other hc).other hc).other hc
open Go.RowKit
theorem zmS{w:World}{b:Nat}{y:Ent}(h:EntAt w b 0 y)(x:Ent):EntAt ((((w.setCell ⟨b,0,none⟩ (.string x.key)).setCell ⟨b,1,none⟩ (.string x.val)).setCell ⟨b,2,none⟩ (.int .i64 x.seq)).setCell ⟨b,3,none⟩ (.bool x.gone)) b 0 x:=by
 obtain⟨z0,z1,z2,z3⟩:=h;rw[Nat.zero_add] at z1 z2 z3;refine⟨?_,?_,?_,?_⟩
 ·rw[World.cell?_setCell_other _ _ _ _ (by simp),World.cell?_setCell_other _ _ _ _ (by simp),World.cell?_setCell_other _ _ _ _ (by simp),World.cell?_setCell_same _ _ _ z0]
 ·rw[Nat.zero_add,World.cell?_setCell_other _ _ _ _ (by simp),World.cell?_setCell_other _ _ _ _ (by simp)];exact World.cell?_setCell_same _ _ _ (by rw[World.cell?_setCell_other _ _ _ _ (by simp)];exact z1)
 ·rw[Nat.zero_add,World.cell?_setCell_other _ _ _ _ (by simp)];exact World.cell?_setCell_same _ _ _ (by rw[World.cell?_setCell_other _ _ _ _ (by simp),World.cell?_setCell_other _ _ _ _ (by simp)];exact z2)
 ·rw[Nat.zero_add];exact World.cell?_setCell_same _ _ _ (by rw[World.cell?_setCell_other _ _ _ _ (by simp),World.cell?_setCell_other _ _ _ _ (by simp),World.cell?_setCell_other _ _ _ _ (by simp)];exact z3)
def snAt(es:List Ent)(i:Nat)(q:Int):Bool:=(seenL es (nth es i).key q).isSome&&decide (((seenL es (nth es i).key q).getD zeroE).seq=(nth es i).seq)
def nwAt(es:List Ent)(i:Nat):Bool:=decide (i=0) || !kEq (nth es (i-1)).key (nth es i).key
theorem zol(es:List Ent)(qs:List Int)(i:Nat):kept es qs i=(nwAt es i||qs.any (snAt es i)):=rfl
theorem zlO{qs:List Int}{j:Nat}(hj:j<qs.length)(p:Int→Bool):(qs.take (j+1)).any p=((qs.take j).any p||p qs[j]):=by
 rw[List.take_succ_eq_append_getElem hj,List.any_append];simp
theorem zkG(es:List Ent)(qs:List Int)(i:Nat):(kept es qs i=true→seTo es qs (i+1)=seTo es qs i++[nth es i])∧(kept es qs i=false→seTo es qs (i+1)=seTo es qs i):=by
 constructor<;>intro h<;>rw[seTo]<;>simp[h]
theorem zf0(es:List Ent)(qs:List Int):∀ i,(seTo es qs i).length≤i
 | 0=>by rw[seTo];simp
 | i+1=>by
  have:=zf0 es qs i;rw[seTo];split
  ·rw[lA];simp;omega
  ·omega
theorem zkj(v vq:Value)(es:List Ent)(qs:List Int)(w:World)(hr:RdE w v es)(hq:RdI w vq qs)(hn:es.length≤1000000) :
 Calls Tryz.prog 117 #[v,vq] w fun e w'=>zbq w (zbs es qs) e w':=by
 obtain⟨a,cap,hv,hl,hm,_⟩:=id hr;obtain⟨nn,hnn⟩:∃ nn,nn=es.length:=⟨_,rfl⟩;have HNN:Hid (nn=es.length):=hnn;rw[← hnn] at hv hl hn;subst hv;unfold maxLen at hm;obtain⟨aq,cq,hvq,hlq,hmq,_⟩:=id hq;obtain⟨mm,hmm⟩:∃ mm,mm=qs.length:=⟨_,rfl⟩;have HMM:Hid (mm=qs.length):=hmm;rw[← hmm] at hvq hlq;subst hvq;unfold maxLen at hmq;clear hnn hmm;have ho0:=zX w;have hb0:=ze w (.cells #[] 40);go_enter Tryz.func117,Tryz.ntmps117
 go_wp2;go_loopg [5,6] nn (fun gg u i wr=>∃ k:Nat,k+gg=nn∧i=.int .i64 k∧OwnE wr w.heap.size u (seTo es qs k)∧Below w.heap.size w wr)
 case atStart=>exact⟨0,by omega,rfl,ho0,hb0⟩
 case round =>
  obtain⟨k,hkg,rfl,ho,hb⟩:=hrel;clear ho0 hb0;by_cases hlt:k<nn
  ·cases gk with
   | zero=>exfalso;omega
   | succ gg =>
    obtain⟨b,off,rfl,hc⟩:=(hr.below hb).at HNN.out k (by rw[← HNN.out];exact hlt);obtain⟨x,hx⟩:∃ x,x=nth es k:=⟨_,rfl⟩;rw[← hx] at hc;have HX:Hid (x=nth es k):=hx;clear hx;obtain⟨n0,hn0⟩:∃ n0,n0=nwAt es k:=⟨_,rfl⟩;have HN0:Hid (n0=nwAt es k):=hn0;clear hn0;have hkc:k<cap:=(by omega);go_upto_region 5 with fail
    go_cut [7] (fun t W=>t=.bool n0∧OwnE W w.heap.size u5 (seTo es qs k)∧Below w.heap.size w W)
    case first =>
     by_cases hk0:k=0
     ·skip
      have hk0b:((k:Int)==0)=true:=(by simp;omega);have HT:Hid (n0=true):=(by unfold Hid;rw[HN0.out];unfold nwAt;rw[hk0];rfl);clear hk0;refine brg (S:=fun _=>True) trivial (fun hH=>?_);refine kA 0 18 hH ?_;refine kA 1 19 hH ?_;refine kA 2 20 hH ?_;refine kS 3 21 hH ?_;refine kS 4 22 hH ?_;refine kS 5 23 hH ?_;refine kS 6 24 hH ?_;refine kS 7 25 hH ?_;refine kS 8 26 hH ?_;refine kS 9 27 hH ?_;refine kS 10 28 hH ?_;refine kS 11 29 hH ?_;refine kS 12 30 hH ?_;refine kS 13 31 hH ?_;refine kS 14 32 hH ?_;refine kA 15 33 hH ?_;refine kA 16 7 hH ?_;refine dne ?_;go_wp2;go_meet
      case rel=>exact⟨by rw[HT.out],ho,hb.drew⟩
     ·skip
      have hk0b:((k:Int)==0)=false:=(by simp;omega);obtain⟨j,hj⟩:∃ j,j=k-1:=⟨_,rfl⟩;have hkj:(k:Int)-1=(j:Int):=(by omega);have hwj:IntKind.i64.wrap (j:Int)=(j:Int):=(by rw[IntKind.wrap_i64];omega);have hjn:j<nn:=(by omega);have hjc:j<cap:=(by omega);obtain⟨b',off',hb',hcj⟩:=(hr.below hb).at HNN.out j (by rw[← HNN.out];exact hjn);cases hb'
      obtain⟨y,hy⟩:∃ y,y=nth es j:=⟨_,rfl⟩;rw[← hy] at hcj;have HT:Hid (n0=!kEq y.key x.key):=(by unfold Hid;rw[HN0.out];unfold nwAt;rw[hy,HX.out,hj];simp[hk0]);have hKB:=zbE y.key x.key;generalize kEq y.key x.key=ke at hKB HT;clear hk0 hj hy;refine brg (S:=fun W=>EntAt W b (off+k*4) x∧EntAt W b (off+j*4) y) ⟨hc,hcj⟩ (fun hH=>?_);refine kA 0 18 hH ?_;refine kA 1 19 hH ?_;refine kA 2 20 hH ?_;refine kA 3 21 hH ?_;refine kA 4 22 hH ?_;refine kA 5 23 hH ?_;refine kA 6 24 hH ?_;refine kA 7 25 hH ?_;refine kA 8 26 hH ?_;refine kA 9 27 hH ?_;refine kA 10 28 hH ?_;refine kA 11 29 hH ?_;refine kA 12 30 hH ?_;refine kA 13 31 hH ?_;refine kA 14 32 hH ?_;refine kA 15 33 hH ?_;refine kA 16 7 hH ?_;refine dne ?_;go_wp2;go_meet
      case rel=>exact⟨by rw[HT.out],ho,hb.drew⟩
    case rest =>
     obtain⟨h7,ho1,hb1⟩:=hcut;subst h7;clear ho hb hc;go_wp2;go_loopw [7,8] (fun kv j wr=>∃ (jn:Nat) (kb:Bool),jn≤mm∧j=.int .i64 jn∧kv=.bool kb∧Hid (kb=(n0||(qs.take jn).any (snAt es k)))∧OwnE wr w.heap.size u5 (seTo es qs k)∧Below w.heap.size w wr) (fun _ j _=>mm-(intOf j).toNat)
     case atStart=>exact⟨0,n0,Nat.zero_le _,rfl,rfl,by unfold Hid;simp,ho1,hb1⟩
     case round =>
      obtain⟨jn,kb,hjm,rfl,rfl,HKB,ho2,hb2⟩:=hrel;clear ho1 hb1;by_cases hjl:jn<mm
      ·skip
       have hrj:=hr.below hb2;obtain⟨b',off',hb',hck⟩:=hrj.at HNN.out k (by rw[← HNN.out];exact hlt);cases hb'
       rw[← HX.out] at hck;obtain⟨bq,oq,rfl,hcq⟩:=(hq.below hb2).at jn (by rw[← HMM.out];exact hjl);obtain⟨q,hqq⟩:∃ q,q=qs[jn]'(by rw[← HMM.out];exact hjl):=⟨_,rfl⟩;rw[← hqq] at hcq;have hjc2:jn<cq:=(by omega);obtain⟨z,hz⟩:∃ z,z=(seenL es x.key q).getD zeroE:=⟨_,rfl⟩;obtain⟨s,hs⟩:∃ s,s=(seenL es x.key q).isSome:=⟨_,rfl⟩;have HSN:Hid (snAt es k q=(s&&decide (z.seq=x.seq))):=(by unfold Hid snAt;rw[← HX.out,← hz,← hs]);have HKB2:Hid ((n0||(qs.take (jn+1)).any (snAt es k))=(kb||(s&&decide (z.seq=x.seq)))):=by
        unfold Hid;rw[zlO (by rw[← HMM.out];exact hjl),← hqq,HSN.out,HKB.out,Bool.or_assoc]
       have HCS:Hid (∀ W,RdE W (.slice (some ⟨b,off,none⟩) nn cap) es→Calls Tryz.prog 52 #[.slice (some ⟨b,off,none⟩) nn cap,.string x.key,.int .i64 q] W fun e w'=>e=.returned (.tuple #[.agg #[.string z.key,.string z.val,.int .i64 z.seq,.bool z.gone],.bool s])∧Below W.heap.size W w'):=fun W h=>znU _ es x.key q z s W h hz.symm hs.symm
       clear hz hs hqq HSN HKB;go_wp2_with fail
       refine brg (S:=fun W=>EntAt W b (off+k*4) x∧W.cell? ⟨bq,oq+jn,none⟩=some (.int .i64 q)) ⟨hck,hcq⟩ (fun hH=>?_);have qo:OwnE wr.drew _ u5 (seTo es qs k):=ho2.drewN 1;have qb:=hb2.drew;have qr:RdE wr.drew _ es:=hrj.drewN 1;clear ho2 hb2 hrj hck hcq;revert hH qo qb qr;generalize wr.drew=W0;intro hH qo qb qr;refine kA 0 41 hH ?_;refine kA 1 42 hH ?_;refine kA 2 43 hH ?_;refine kA 3 44 hH ?_;refine kA 4 45 hH ?_;refine kA 5 46 hH ?_;refine kA 6 47 hH ?_;refine kA 7 48 hH ?_;refine kA 8 49 hH ?_;refine kA 9 50 hH ?_;refine wpAnyH_ready (rs:=[10,14]) (by kernel_rfl) (by simp) ?_;refine arc (fun K hK=>?_) ?_;go_simp;refine(HCS.out _ qr).mono ?_;rintro e W1 ⟨rfl,hb1⟩;have bA:=hb1.trans ((ze W1 (.cells #[.string ⟨#[]⟩,.string ⟨#[]⟩,.int .i64 0,.bool false] 40)).mono hb1.size);have bB:=hb1.trans ((ze W1 (.cells #[.string z.key,.string z.val,.int .i64 z.seq,.bool z.gone] 40)).mono hb1.size);have cl:=World.block_lt_of_cell? W0 _ hH.2;have hA1:(fun W=>EntAt W b (off+k*4) x∧W.cell? ⟨bq,oq+jn,none⟩=some (.int .i64 q)) W1:=⟨hH.1.below hb1,(hb1.cell cl).trans hH.2⟩;have hA2:(fun W=>EntAt W b (off+k*4) x∧W.cell? ⟨bq,oq+jn,none⟩=some (.int .i64 q)) (W1.alloc (.cells #[.string ⟨#[]⟩,.string ⟨#[]⟩,.int .i64 0,.bool false] 40)):=⟨hH.1.below bA,(bA.cell cl).trans hH.2⟩;have hA3:(fun W=>EntAt W b (off+k*4) x∧W.cell? ⟨bq,oq+jn,none⟩=some (.int .i64 q)) (W1.alloc (.cells #[.string z.key,.string z.val,.int .i64 z.seq,.bool z.gone] 40)):=⟨hH.1.below bB,(bB.cell cl).trans hH.2⟩
       refine hK.out _ _ hA1 (fun h1=>?_);clear hK K;try simp only[Act.put,sA,sZ,sS]
       refine kA 11 40 h1 ?_;refine kA 12 52 h1 ?_;refine kA 13 53 h1 ?_;refine rdy 14 (fun K hK=>?_);go_simp;refine hK.out _ _ hA2 (fun h2=>?_);clear hK K;try simp only[Act.put,sA,sZ,sS]
       obtain⟨⟨z0,z1,z2,z3⟩,zf⟩:=zd4 W1 40;have f0:=zf 0;have f1:=zf 1;have f2:=zf 2;have f3:=zf 3;rw[Nat.zero_add] at z1 z2 z3;refine rdy 15 (fun K hK=>?_);go_simp;refine hK.out _ _ hA3 (fun h3=>?_);clear hK K;try simp only[Act.put,sA,sZ,sS]
       refine kA 16 10 h3 ?_;refine dne ?_;have qx:=zau W1 z 40;have qE:=hA3.1;replace qo:=qo.below bB;replace qb:=qb.trans (bB.mono qb.size);clear h1 h2 h3 hA1 hA2 hA3 hH hb1 bA bB cl z0 z1 z2 z3 zf f0 f1 f2 f3 qr;generalize W1.alloc (.cells #[.string z.key,.string z.val,.int .i64 z.seq,.bool z.gone] 40)=W4 at qo qb qx qE ⊢;generalize W1.heap.size=B3 at qx ⊢;clear W1 W0;revert qx;revert qE;revert qb;revert qo;revert B3;revert W4;refine ?tailq;rotate_left 1;refine AllReadyH.cons rfl (fun K hK=>?_) AllReadyH.nil;go_simp;have bZ:=ze W0 (.cells #[.string ⟨#[]⟩,.string ⟨#[]⟩,.int .i64 0,.bool false] 40);have hz0:=zd4 W0 40;have qr0:=qr.below bZ;have cl:=World.block_lt_of_cell? W0 _ hH.2;have hA0:(fun W=>EntAt W b (off+k*4) x∧W.cell? ⟨bq,oq+jn,none⟩=some (.int .i64 q)) (W0.alloc (.cells #[.string ⟨#[]⟩,.string ⟨#[]⟩,.int .i64 0,.bool false] 40)):=⟨hH.1.below bZ,(bZ.cell cl).trans hH.2⟩;refine hK.out _ _ hA0 (fun h0=>?_);clear hK K;try simp only[Act.put,sA,sZ,sS]
       refine rdy 10 (fun K hK=>?_);go_simp;refine(HCS.out _ qr0).mono ?_;rintro e W1 ⟨rfl,hb1⟩;have bA:=bZ.trans (hb1.mono bZ.size);have hz1:=hz0.below hb1;have bB:Below W0.heap.size W0 ((((W1.setCell ⟨W0.heap.size,0,none⟩ (.string z.key)).setCell ⟨W0.heap.size,1,none⟩ (.string z.val)).setCell ⟨W0.heap.size,2,none⟩ (.int .i64 z.seq)).setCell ⟨W0.heap.size,3,none⟩ (.bool z.gone)):=zbv bA (nR _) _ _ _ _ _ _ _ _;have hA1:(fun W=>EntAt W b (off+k*4) x∧W.cell? ⟨bq,oq+jn,none⟩=some (.int .i64 q)) W1:=⟨hH.1.below bA,(bA.cell cl).trans hH.2⟩;have hA3:(fun W=>EntAt W b (off+k*4) x∧W.cell? ⟨bq,oq+jn,none⟩=some (.int .i64 q)) ((((W1.setCell ⟨W0.heap.size,0,none⟩ (.string z.key)).setCell ⟨W0.heap.size,1,none⟩ (.string z.val)).setCell ⟨W0.heap.size,2,none⟩ (.int .i64 z.seq)).setCell ⟨W0.heap.size,3,none⟩ (.bool z.gone)):=⟨hH.1.below bB,(bB.cell cl).trans hH.2⟩;refine hK.out _ _ hA1 (fun h1=>?_);clear hK K;try simp only[Act.put,sA,sZ,sS]
       refine kA 11 40 h1 ?_;refine kA 12 52 h1 ?_;refine kA 13 53 h1 ?_;obtain⟨z0,z1,z2,z3,f0,f1,f2,f3⟩:=hz1.facts;refine rdy 15 (fun K hK=>?_);go_simp;refine hK.out _ _ hA3 (fun h3=>?_);clear hK K;try simp only[Act.put,sA,sZ,sS]
       refine kA 16 10 h3 ?_;refine dne ?_;have qx:=zmS hz1.1 z;have qE:=hA3.1;replace qo:=qo.below bB;replace qb:=qb.trans (bB.mono qb.size);clear h0 h1 h3 hA0 hA1 hA3 hH hb1 bA bB bZ hz0 hz1 qr0 qr cl z0 z1 z2 z3 f0 f1 f2 f3;generalize ((((W1.setCell ⟨W0.heap.size,0,none⟩ (.string z.key)).setCell ⟨W0.heap.size,1,none⟩ (.string z.val)).setCell ⟨W0.heap.size,2,none⟩ (.int .i64 z.seq)).setCell ⟨W0.heap.size,3,none⟩ (.bool z.gone))=W4 at qo qb qx qE ⊢;generalize W0.heap.size=B3 at qx ⊢;clear W1 W0;revert qx;revert qE;revert qb;revert qo;revert B3;revert W4;refine ?tailq;intro W4 B3 qo qb qE qx;obtain⟨r,hrq⟩:∃ r:Bool,(z.seq==x.seq)=r:=⟨_,rfl⟩;have HRQ:Hid (decide (z.seq=x.seq)=r):=(by unfold Hid;rw[← hrq];rfl);rw[HRQ.out] at HKB2;clear HRQ;go_wp2_with fail
       cases kb with
       | true =>
        refine brg (S:=fun _=>True) trivial (fun hM=>?_);refine kA 0 54 hM ?_;refine kA 1 55 hM ?_;refine kS 2 56 hM ?_;refine kS 3 57 hM ?_;refine kS 4 58 hM ?_;refine kS 5 59 hM ?_;refine kS 6 60 hM ?_;refine kS 7 61 hM ?_;refine kS 8 62 hM ?_;refine kS 9 63 hM ?_;refine kS 10 64 hM ?_;refine kS 11 65 hM ?_;refine kS 12 66 hM ?_;refine kA 13 67 hM ?_;refine kA 14 7 hM ?_;refine dne ?_;go_wp2;go_roundw
        case rel=>exact⟨jn+1,true,by omega,by go_num,rfl,by unfold Hid;rw[HKB2.out];rfl,qo,qb.drew⟩
        case measure=>simp[intOf];omega
       | false =>
        cases s with
        | false =>
         refine brg (S:=fun _=>True) trivial (fun hM=>?_);refine kA 0 54 hM ?_;refine kA 1 55 hM ?_;refine kA 2 56 hM ?_;refine kA 3 57 hM ?_;refine kS 4 58 hM ?_;refine kS 5 59 hM ?_;refine kS 6 60 hM ?_;refine kS 7 61 hM ?_;refine kS 8 62 hM ?_;refine kS 9 63 hM ?_;refine kS 10 64 hM ?_;refine kS 11 65 hM ?_;refine kA 12 66 hM ?_;refine kA 13 67 hM ?_;refine kA 14 7 hM ?_;refine dne ?_;go_wp2;go_roundw
         case rel=>exact⟨jn+1,false,by omega,by go_num,rfl,by unfold Hid;rw[HKB2.out];rfl,qo,qb.drew⟩
         case measure=>simp[intOf];omega
        | true =>
         refine brg (S:=fun W=>EntAt W b (off+k*4) x∧EntAt W B3 0 z) ⟨qE,qx⟩ (fun hM=>?_);refine kA 0 54 hM ?_;refine kA 1 55 hM ?_;refine kA 2 56 hM ?_;refine kA 3 57 hM ?_;refine kA 4 58 hM ?_;refine kA 5 59 hM ?_;refine kA 6 60 hM ?_;refine kA 7 61 hM ?_;refine kA 8 62 hM ?_;refine kA 9 63 hM ?_;refine kA 10 64 hM ?_;refine kA 11 65 hM ?_;refine kA 12 66 hM ?_;refine kA 13 67 hM ?_;refine kA 14 7 hM ?_;refine dne ?_;go_wp2;go_roundw
         case rel=>exact⟨jn+1,r,by omega,by go_num,rfl,by unfold Hid;rw[HKB2.out];rfl,qo,qb.drew⟩
         case measure=>simp[intOf];omega
      ·skip
       have HKE:Hid (kb=kept es qs k):=by
        unfold Hid;rw[HKB.out,zol,HN0.out,List.take_of_length_le (by rw[← HMM.out];omega)]
       have hjl2:¬ (jn:Int)<(mm:Int):=(by omega);clear HKB HN0;have hc2:=(hr.below hb2).at HNN.out k (by rw[← HNN.out];exact hlt);obtain⟨b',off',hb',hck⟩:=hc2;cases hb'
       rw[← HX.out] at hck;obtain⟨c0,c1,c2,c3⟩:=id hck;cases kb with
       | true =>
        have HS:Hid (seTo es qs (k+1)=seTo es qs k++[x]):=(by unfold Hid;rw[(zkG es qs k).1 HKE.out.symm,HX.out]);have hsl:=zf0 es qs k;go_wp2_with (at_builtin;(refine zp rfl _ _ rfl w.heap.size _ _ (seTo es qs k) [x] rfl rfl (ho2.below (ze _ _)) (zda (zau _ _ _)) (by simp;omega) (by simp;have:=hb2.size;omega) ?_))
        intro v5 w5 ho5 hg5;have b5:Below w.heap.size w w5:=(hb2.alloc hb2.size _).grown hg5 (by simp;have:=hb2.size;omega) (fun j hj=>(oL ho2 j hj).1);rw[← HS.out] at ho5;clear hg5 ho2 hb2 c0 c1 c2 c3 hck hsl;go_wp2;go_roundg gg
        case rel=>exact⟨k+1,by omega,by go_num,ho5,b5⟩
        case measure=>omega
       | false =>
        have HS:Hid (seTo es qs (k+1)=seTo es qs k):=(zkG es qs k).2 HKE.out.symm;rw[← HS.out] at ho2;go_wp2;go_roundg gg
        case rel=>exact⟨k+1,by omega,by go_num,ho2,hb2⟩
        case measure=>omega
  ·skip
   have hke:¬ (k:Int)<(nn:Int):=(by omega);have HKE:Hid (k=es.length):=(by unfold Hid;rw[← HNN.out];omega);go_wp2;go_ret;exact⟨_,rfl,by unfold zbs;rw[← HKE.out];exact ho,hb⟩
end Go.Proofs.YtjlnchhgkfnldaaGreat
