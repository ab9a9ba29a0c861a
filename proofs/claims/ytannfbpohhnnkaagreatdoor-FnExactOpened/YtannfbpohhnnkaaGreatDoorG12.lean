import Derived.Test.YtannfbpohhnnkaaGreatDoorG11
import Derived.Deep.RegionHeld3
namespace Go.Proofs.YtannfbpohhnnkaaGreatDoor
set_option maxHeartbeats 16000000
set_option maxRecDepth 100000
open Go.RowKit
theorem zj1:∀ (bs:List ByteArray) (acc es:List Ent),allF bs acc=some es→∃ t,es=acc++t
 | [],acc,es,h=>by rw[allF] at h;cases h;exact⟨[],by simp⟩
 | b::r,acc,es,h=>by
  rw[allF] at h;split at h
  ·obtain⟨t,ht⟩:=zj1 r _ _ h;exact⟨_,by rw[ht,List.append_assoc]⟩
  ·cases h
theorem allL_true{T:Tbl}(h:(allL T).2=true):okL (allL T).1=true∧(allL T).1≠[]:=by
 unfold allL at h ⊢;split at h
 ·cases h
 ·rename_i hb;rw[if_neg hb];split at h
  ·cases h
  ·rename_i es hes;refine⟨h,?_⟩;simp only;intro hn;subst hn;obtain⟨b,r,hbr⟩:∃ b r,T.blocks=b::r:=by
    cases hT:T.blocks with
    | nil=>rw[hT] at hb;simp at hb
    | cons b r=>exact⟨b,r,rfl⟩
   rw[hbr,allF] at hes;split at hes
   ·rename_i hq;obtain⟨t,ht⟩:=zj1 r _ _ hes;rw[List.nil_append] at ht;have:=congrArg List.length ht;rw[List.length_append,List.length_nil] at this;omega
   ·cases hes
theorem zgG{es:List Ent}(h:okL es=true):∀ x∈es,Fits x:=fun x hx=>by
 have:=zaE (zdx h x hx);exact⟨by omega,by omega,by omega,by omega⟩
theorem zhc(T:Tbl)(vb vk:Value)(w:World)(hi:RdI w vb T.bits)(hr:RdS w vk T.blocks)(hz:∀ s∈T.blocks,s.size≤1000000000) :
 Calls Tryz.prog 136 #[.agg #[.string T.first,.string T.last,vb,vk]] w fun e w'=>e=.returned (.bool (zA T))∧Below w.heap.size w w':=by
 have ht0:=zcA w T vb vk 118;have b0:=za w (.cells #[.string T.first,.string T.last,vb,vk] 118);have HALL:=zjY T vb vk _ (hr.below b0) hz;obtain⟨R,hR⟩:∃ R,R=zA T:=⟨_,rfl⟩;rw[← hR];obtain⟨F,hF⟩:∃ F,F=allL T:=⟨_,rfl⟩;have HT:=@allL_true T;unfold zA at hR;rw[← hF] at hR HALL HT;have HR:Hid (R=(F.2&&decide (T.first=(nth F.1 0).key)&&decide (T.last=(nth F.1 (F.1.length-1)).key)&&decide (T.bits=bitsL F.1))):=hR;have HA:Hid (Calls _ _ _ _ _):=HALL;have HT2:Hid (F.2=true→okL F.1=true∧F.1≠[]):=HT;clear hF hR HALL HT;obtain⟨es,is⟩:=F;simp only at HR HT2;obtain⟨d0,d1,d2,d3⟩:=id ht0;go_enter Tryz.func136,Tryz.ntmps136
 go_wp2_with fail
 refine HA.out.mono ?_;rintro e w1 ⟨u,rfl,ho1,hb1⟩;simp only at ho1 ⊢;have ht1:=ht0.below hb1;have b1:=b0.trans (hb1.mono b0.size);have hi1:=hi.below b1;clear HA ht0 b0 hb1 d0 d1 d2 d3;cases is with
 | false =>
  have RES:Hid (R=false):=by unfold Hid;rw[HR.out];rfl
  go_wp2_with fail
  refine wp_region_noPanic ?_;refine wp_region_held_drew (S:=fun _=>True) (by kernel_rfl) trivial (fun hH=>?_);refine kA 0 10 hH ?_;refine kA 1 11 hH ?_;refine kS 2 12 hH ?_;refine kS 3 13 hH ?_;refine kS 4 14 hH ?_;refine kS 5 15 hH ?_;refine kS 6 16 hH ?_;refine kS 7 17 hH ?_;refine kS 8 18 hH ?_;refine kA 9 19 hH ?_;refine kA 10 20 hH ?_;refine kS 11 21 hH ?_;refine kS 12 22 hH ?_;refine kS 13 23 hH ?_;refine kS 14 24 hH ?_;refine kS 15 25 hH ?_;refine kS 16 26 hH ?_;refine kS 17 27 hH ?_;refine kS 18 28 hH ?_;refine kS 19 29 hH ?_;refine kS 20 30 hH ?_;refine kA 21 31 hH ?_;refine kA 22 32 hH ?_;refine kS 23 33 hH ?_;refine kS 24 34 hH ?_;refine kS 25 35 hH ?_;refine kS 26 36 hH ?_;refine kS 27 37 hH ?_;refine kA 28 38 hH ?_;refine kA 29 2 hH ?_;refine dne ?_;go_wp2;go_ret;exact⟨by have h:=RES.out;subst h;rfl,b1.drew⟩
 | true =>
  obtain⟨hok,hne⟩:=HT2.out rfl;have HFT:Hid (∀ x∈es,Fits x):=zgG hok;have HKS:Hid (∀ e∈es,e.key.size≤1000000000):=fun e he=>by have:=zaE (zdx hok e he);omega
  have hl3:=zZ hok;have hlp:0<es.length:=List.length_pos_iff.2 hne;obtain⟨aU,cU,hvU,hU1,hU2,_⟩:=id ho1.rd;subst hvU;obtain⟨b,off,rfl,hc0⟩:=ho1.rd.at rfl 0 hlp;obtain⟨b',off',hb',hcl⟩:=ho1.rd.at rfl (es.length-1) (by omega);cases hb'
  obtain⟨m,hm⟩:∃ m,m=es.length-1:=⟨_,rfl⟩;rw[← hm] at hcl HR;rw[Nat.zero_mul,Nat.add_zero] at hc0;obtain⟨e0,he0⟩:∃ e0,e0=nth es 0:=⟨_,rfl⟩;obtain⟨el,hel⟩:∃ el,el=nth es m:=⟨_,rfl⟩;rw[← he0] at hc0 HR;rw[← hel] at hcl HR;have HR2:Hid (R=(decide (T.first=e0.key)&&decide (T.last=el.key)&&decide (T.bits=bitsL es))):=by unfold Hid;rw[HR.out];simp
  obtain⟨nn,hnn⟩:∃ nn,nn=es.length:=⟨_,rfl⟩;have HCB:Hid (∀ W,OwnE W (w.alloc (.cells #[.string T.first,.string T.last,vb,vk] 118)).heap.size (.slice (some ⟨b,off,none⟩) nn cU) es→Calls Tryz.prog 133 #[.slice (some ⟨b,off,none⟩) nn cU] W fun e w'=>∃ u,e=.returned u∧OwnI w' W.heap.size u (bitsL es)∧Below W.heap.size W w'):=fun W h=>by rw[hnn] at h ⊢;exact zh8 _ es W h.rd HKS.out (by omega)
  rw[← hnn] at ho1 ⊢;have hnm:(nn:Int)-1=(m:Int):=by omega
  have hwm:IntKind.i64.wrap (m:Int)=(m:Int):=by rw[IntKind.wrap_i64];omega
  have hmn:m<nn:=by omega
  have hn0:0<nn:=by omega
  have hn3:nn≤300:=by omega
  clear HR HT2 hok hne hnn hm he0 hel hl3 hlp hU1;obtain⟨t0,t1,t2,t3⟩:=id ht1;have KB1:=zcb T.first e0.key;have KB2:=zcb T.last el.key;cases hk1:kEq T.first e0.key with
  | false =>
   rw[hk1] at KB1;have RES:Hid (R=false):=by unfold Hid;rw[HR2.out];unfold kEq at hk1;rw[hk1];rfl
   go_wp2_with fail
   refine wp_region_noPanic ?_;refine wp_region_held_drew (S:=fun w'=>(w'.cell? ⟨w.heap.size,0,none⟩=some (.string T.first)∧w'.cell? ⟨w.heap.size,1,none⟩=some (.string T.last)∧w'.cell? ⟨w.heap.size,2,none⟩=some vb)∧EntAt w' b off e0∧EntAt w' b (off+m*4) el) (by kernel_rfl) ⟨⟨t0,t1,t2⟩,hc0,hcl⟩ (fun hH=>?_);refine kA 0 10 hH ?_;refine kA 1 11 hH ?_;refine kA 2 12 hH ?_;refine kA 3 13 hH ?_;refine kA 4 14 hH ?_;refine kA 5 15 hH ?_;refine kA 6 16 hH ?_;refine kA 7 17 hH ?_;refine kA 8 18 hH ?_;refine kA 9 19 hH ?_;refine kA 10 20 hH ?_;refine kS 11 21 hH ?_;refine kS 12 22 hH ?_;refine kS 13 23 hH ?_;refine kS 14 24 hH ?_;refine kS 15 25 hH ?_;refine kS 16 26 hH ?_;refine kS 17 27 hH ?_;refine kS 18 28 hH ?_;refine kS 19 29 hH ?_;refine kS 20 30 hH ?_;refine kA 21 31 hH ?_;refine kA 22 32 hH ?_;refine kS 23 33 hH ?_;refine kS 24 34 hH ?_;refine kS 25 35 hH ?_;refine kS 26 36 hH ?_;refine kS 27 37 hH ?_;refine kA 28 38 hH ?_;refine kA 29 2 hH ?_;refine dne ?_;go_wp2;go_ret;exact⟨by have h:=RES.out;subst h;rfl,b1.drew⟩
  | true =>
   rw[hk1] at KB1;cases hk2:kEq T.last el.key with
   | false =>
    rw[hk2] at KB2;have RES:Hid (R=false):=by unfold Hid;rw[HR2.out];unfold kEq at hk2;rw[hk2];simp
    go_wp2_with fail
    refine wp_region_noPanic ?_;refine wp_region_held_drew (S:=fun w'=>(w'.cell? ⟨w.heap.size,0,none⟩=some (.string T.first)∧w'.cell? ⟨w.heap.size,1,none⟩=some (.string T.last)∧w'.cell? ⟨w.heap.size,2,none⟩=some vb)∧EntAt w' b off e0∧EntAt w' b (off+m*4) el) (by kernel_rfl) ⟨⟨t0,t1,t2⟩,hc0,hcl⟩ (fun hH=>?_);refine kA 0 10 hH ?_;refine kA 1 11 hH ?_;refine kA 2 12 hH ?_;refine kA 3 13 hH ?_;refine kA 4 14 hH ?_;refine kA 5 15 hH ?_;refine kA 6 16 hH ?_;refine kA 7 17 hH ?_;refine kA 8 18 hH ?_;refine kA 9 19 hH ?_;refine kA 10 20 hH ?_;refine kA 11 21 hH ?_;refine kA 12 22 hH ?_;refine kA 13 23 hH ?_;refine kA 14 24 hH ?_;refine kA 15 25 hH ?_;refine kA 16 26 hH ?_;refine kA 17 27 hH ?_;refine kA 18 28 hH ?_;refine kA 19 29 hH ?_;refine kA 20 30 hH ?_;refine kA 21 31 hH ?_;refine kA 22 32 hH ?_;refine kS 23 33 hH ?_;refine kS 24 34 hH ?_;refine kS 25 35 hH ?_;refine kS 26 36 hH ?_;refine kS 27 37 hH ?_;refine kA 28 38 hH ?_;refine kA 29 2 hH ?_;refine dne ?_;go_wp2;go_ret;exact⟨by have h:=RES.out;subst h;rfl,b1.drew⟩
   | true =>
    rw[hk2] at KB2;have RES:Hid (R=decide (T.bits=bitsL es)):=by unfold Hid;rw[HR2.out];unfold kEq at hk1 hk2;rw[hk1,hk2];simp
    go_wp2_with fail
    refine wp_region_noPanic ?_;refine wp_region_held_drew (S:=fun w'=>(w'.cell? ⟨w.heap.size,0,none⟩=some (.string T.first)∧w'.cell? ⟨w.heap.size,1,none⟩=some (.string T.last)∧w'.cell? ⟨w.heap.size,2,none⟩=some vb)∧EntAt w' b off e0∧EntAt w' b (off+m*4) el) (by kernel_rfl) ⟨⟨t0,t1,t2⟩,hc0,hcl⟩ (fun hH=>?_);have qo:OwnE w1.drew _ _ es:=ho1.drewN 1;have qb:=b1.drew;have qi:RdI w1.drew vb T.bits:=hi1.drewN 1;clear ho1 b1 hi1 ht1 t0 t1 t2 t3 hc0 hcl;revert qo;revert qb;revert qi;revert hH;generalize w1.drew=W0;intro hH qi qb qo;refine kA 0 10 hH ?_;refine kA 1 11 hH ?_;refine kA 2 12 hH ?_;refine kA 3 13 hH ?_;refine kA 4 14 hH ?_;refine kA 5 15 hH ?_;refine kA 6 16 hH ?_;refine kA 7 17 hH ?_;refine kA 8 18 hH ?_;refine kA 9 19 hH ?_;refine kA 10 20 hH ?_;refine kA 11 21 hH ?_;refine kA 12 22 hH ?_;refine kA 13 23 hH ?_;refine kA 14 24 hH ?_;refine kA 15 25 hH ?_;refine kA 16 26 hH ?_;refine kA 17 27 hH ?_;refine kA 18 28 hH ?_;refine kA 19 29 hH ?_;refine kA 20 30 hH ?_;refine kA 21 31 hH ?_;refine kA 22 32 hH ?_;refine kA 23 33 hH ?_;refine kA 24 34 hH ?_;refine kA 25 35 hH ?_;refine rdy 26 (fun K hK=>?_);go_simp;refine(HCB.out _ qo).mono ?_;rintro e w3 ⟨ub,rfl,hub,hb3⟩;have hbc:=(bcell hb3).1
    have hH3:(fun w'=>(w'.cell? ⟨w.heap.size,0,none⟩=some (.string T.first)∧w'.cell? ⟨w.heap.size,1,none⟩=some (.string T.last)∧w'.cell? ⟨w.heap.size,2,none⟩=some vb)∧EntAt w' b off e0∧EntAt w' b (off+m*4) el) w3:=⟨⟨(hbc _ _ (World.block_lt_of_cell? W0 _ hH.1.1)).trans hH.1.1,(hbc _ _ (World.block_lt_of_cell? W0 _ hH.1.2.1)).trans hH.1.2.1,(hbc _ _ (World.block_lt_of_cell? W0 _ hH.1.2.2)).trans hH.1.2.2⟩,hH.2.1.below hb3,hH.2.2.below hb3⟩;replace qi:=qi.below hb3;replace qb:=qb.trans (hb3.mono qb.size);refine hK.out _ _ hH3 (fun h4=>?_);clear hK K hH hH3 hb3 hbc;try simp only[Act.put,sA,sZ,sS]
    refine rdy 27 (fun K hK=>?_);go_simp;refine(znH vb ub T.bits (bitsL es) _ qi hub.rd).mono ?_;rw[← RES.out];rintro e w4 ⟨rfl,n4,rfl⟩;refine hK.out _ _ h4 (fun h5=>?_);clear hK K h4;try simp only[Act.put,sA,sZ,sS]
    refine kA 28 38 h5 ?_;refine kA 29 2 h5 ?_;refine dne ?_;go_wp2;go_ret;exact⟨rfl,below_drewN qb n4⟩
open Go.RowKit
theorem zlN{T:Tbl}(h:zA T=false):zp T=[]:=by unfold zp;rw[if_neg (by simp[h])]
theorem zkc{T:Tbl}(h:zA T=true):zp T=(allL T).1:=by unfold zp;rw[if_pos h]
theorem zdG(T:Tbl)(vb vk:Value)(w:World)(hi:RdI w vb T.bits)(hr:RdS w vk T.blocks)(hz:∀ s∈T.blocks,s.size≤1000000000) :
 Calls Tryz.prog 94 #[.agg #[.string T.first,.string T.last,vb,vk]] w fun e w'=>∃ u,e=.returned u∧OwnE w' w.heap.size u (zp T)∧Below w.heap.size w w':=by
 have ht0:=zcA w T vb vk 118;have b0:=za w (.cells #[.string T.first,.string T.last,vb,vk] 118);have HALL:=zjY T vb vk _ (hr.below b0) hz;have HA:Hid (Calls _ _ _ _ _):=HALL;have HOK:Hid (∀ W,RdI W vb T.bits→RdS W vk T.blocks→Calls Tryz.prog 136 #[.agg #[.string T.first,.string T.last,vb,vk]] W fun e w'=>e=.returned (.bool (zA T))∧Below W.heap.size W w'):=fun W h1 h2=>zhc T vb vk W h1 h2 hz
 have HE1:Hid (zA T=false→zp T=[]):=zlN;have HE2:Hid (zA T=true→zp T=(allL T).1):=zkc;clear HALL;generalize zp T=E at HE1 HE2 ⊢;generalize zA T=ok at HOK HE1 HE2;generalize allL T=F at HA HE2;obtain⟨es,is⟩:=F;simp only at HE2;obtain⟨d0,d1,d2,d3⟩:=id ht0;go_enter Tryz.func94,Tryz.ntmps94
 go_wp2_with fail
 refine HA.out.mono ?_;rintro e w1 ⟨u,rfl,ho1,hb1⟩;simp only at ho1 ⊢;have ht1:=ht0.below hb1;have b1:=b0.trans (hb1.mono b0.size);have hs0:=b0.size;clear HA ht0 b0 hb1 d0 d1 d2 d3;obtain⟨d0,d1,d2,d3⟩:=id ht1;go_wp2_with fail
 refine(HOK.out _ (hi.below b1) (hr.below b1)).mono ?_;rintro e w2 ⟨rfl,hb2⟩;have ho2:=ho1.below hb2;have b2:=b1.trans (hb2.mono b1.size);cases ok with
 | false =>
  have HE:Hid (E=[]):=HE1.out rfl;go_wp2;go_ret;exact⟨_,rfl,by rw[HE.out];exact(zt w2).mono b2.size,b2.alloc b2.size _⟩
 | true =>
  have HE:Hid (E=es):=HE2.out rfl;go_wp2;go_ret;exact⟨_,rfl,by rw[HE.out];exact ho2.mono hs0,b2⟩
open Go.RowKit
theorem made_EV(n:Nat):(madeCells #[.string ⟨#[]⟩,.string ⟨#[]⟩,.int .i64 0,.bool false] (n*4)).toList=EV (List.replicate n zeroE):=by
 apply List.ext_getElem?;intro j;by_cases hj:j<n*4
 ·have h1:j / 4<n:=by omega
  have h2:=zmd (List.replicate n zeroE) (j / 4) (by rw[List.length_replicate];exact h1) (j % 4) (by omega);rw[show j / 4*4+j % 4=j by omega] at h2;rw[h2,zE (by rw[List.length_replicate];exact h1),List.getElem_replicate];have h3:j % 4=0∨j % 4=1∨j % 4=2∨j % 4=3:=by omega
  rcases h3 with h | h | h | h<;>simp[madeCells,hj,h,EC,zeroE]
 ·rw[List.getElem?_eq_none (by rw[Array.length_toList,size_madeCells];omega),List.getElem?_eq_none (by rw[zan,List.length_replicate];omega)]
theorem zmj:∀ (es:List Ent) (k:Nat),k<es.length→∀ (j:Nat),j<4→∀ (u:Value) (e':Ent),(EC (nth es k)).set j u=EC e'→(EV es).set (k*4+j) u=EV (es.set k e')
 | [],k,h,_,_,_,_,_=>by simp at h
 | a::r,0,_,j,hj,u,e',h=>by
  rw[zbs] at h;rw[zfH,Nat.zero_mul,Nat.zero_add,List.set_append_left _ _ (by simp[EC];exact hj),h,List.set_cons_zero,zfH]
 | a::r,k+1,hk,j,hj,u,e',h=>by
  rw[zgw] at h;rw[zfH,List.set_append_right _ _ (by simp[EC];omega),List.set_cons_succ,zfH,← zmj r k (by simpa using hk) j hj u e' h];congr 2
  simp[EC];omega
theorem zdS{w:World}{base g cap n:Nat}{es:List Ent}(ho:w.ownsRow base 94 4 (.slice (some ⟨g,0,none⟩) n cap) n (EV es)){k j:Nat}(hk:k<es.length)(hj:j<4){u:Value}{e':Ent}(h:(EC (nth es k)).set j u=EC e') :
 (w.setCell ⟨g,k*4+j,none⟩ u).ownsRow base 94 4 (.slice (some ⟨g,0,none⟩) n cap) n (EV (es.set k e')):=by
 have:=(ho.stored (k*4+j) u).1;rwa [zmj es k hk j hj u e' h] at this
theorem zc8{es:List Ent}{k:Nat}(hk:k<es.length)(e:Ent):nth (es.set k e) k=e:=by
 rw[zE (by rw[List.length_set];exact hk),List.getElem_set_self]
theorem zjR(x:Ent)(w:World) :
 Calls Tryz.prog 113 #[.agg #[.string x.key,.string x.val,.int .i64 x.seq,.bool x.gone],.agg #[.string x.key,.string x.val,.int .i64 x.seq,.bool x.gone]] w fun e w'=>e=.returned (.bool true)∧Below w.heap.size w w':=by
 have h1:(x.seq != x.seq)=false:=by simp
 have h2:(x.gone != x.gone)=false:=by simp
 go_enter Tryz.func113,Tryz.ntmps113
 go_wp2;go_ret;exact⟨rfl,zbp _ _ _⟩
theorem zl2(va vb:Value)(es:List Ent)(w:World)(ha:RdE w va es)(hb:RdE w vb es) :
 Calls Tryz.prog 74 #[va,vb] w fun e w'=>e=.returned (.bool true)∧Below w.heap.size w w':=by
 obtain⟨aa,ca,hva,hla,hma,_⟩:=id ha;obtain⟨ab,cb,hvb,hlb,hmb,_⟩:=id hb;subst hva;subst hvb;unfold maxLen at hma hmb;have hne:((es.length:Int) != (es.length:Int))=false:=by simp
 go_enter Tryz.func74,Tryz.ntmps74
 go_wp2;go_loopw [5] (fun i wr=>∃ k:Nat,k≤es.length∧i=.int .i64 k∧Below w.heap.size w wr) (fun i _=>es.length-(intOf i).toNat)
 case atStart=>exact⟨0,Nat.zero_le _,rfl,Below.refl _ _⟩
 case round =>
  obtain⟨k,hk,rfl,hbw⟩:=hrel;by_cases hlt:k<es.length
  ·obtain⟨b1,o1,rfl,hc1⟩:=(ha.below hbw).at rfl k hlt;obtain⟨b2,o2,rfl,hc2⟩:=(hb.below hbw).at rfl k hlt;obtain⟨x,hx⟩:∃ x,x=nth es k:=⟨_,rfl⟩;rw[← hx] at hc1 hc2;clear hx;go_wp2_with fail
   refine wp_region_noPanic ?_;refine wp_region_held_drew (S:=fun w'=>EntAt w' b1 (o1+k*4) x∧EntAt w' b2 (o2+k*4) x) (by kernel_rfl) ⟨hc1,hc2⟩ (fun hH=>?_);refine kA 0 17 hH ?_;refine kA 1 18 hH ?_;refine kA 2 19 hH ?_;refine kA 3 20 hH ?_;refine kA 4 21 hH ?_;refine kA 5 22 hH ?_;refine kA 6 23 hH ?_;refine kA 7 24 hH ?_;refine rdy 8 (fun K hK=>?_);go_simp;refine(zjR x _).mono ?_;rintro e w1 ⟨rfl,hb1⟩;refine hK.out _ _ ⟨hH.1.below hb1,hH.2.below hb1⟩ (fun hA=>?_);clear hK K;try simp only[Act.put,sA,sZ,sS]
   refine kA 9 26 hA ?_;refine dne ?_;have bz:=hbw.drew.trans (hb1.mono hbw.size);clear hH hA hc1 hc2;go_wp2;go_roundw
   case rel=>exact⟨k+1,by omega,by go_num,bz⟩
   case measure=>simp[intOf];omega
  ·go_wp2;go_ret;exact⟨rfl,hbw⟩
end Go.Proofs.YtannfbpohhnnkaaGreatDoor
