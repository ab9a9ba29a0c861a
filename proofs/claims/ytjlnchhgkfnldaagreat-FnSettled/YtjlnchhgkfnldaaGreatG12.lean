import Derived.Test.YtjlnchhgkfnldaaGreatG11
import Derived.Deep.RegionHeld3
import Derived.Laws.CopyOwn
namespace Go.Proofs.YtjlnchhgkfnldaaGreat
set_option maxHeartbeats 16000000
set_option maxRecDepth 100000
open Go.RowKit
theorem zi1:∀ (bs:List ByteArray) (acc es:List Ent),allF bs acc=some es→∃ t,es=acc++t
 | [],acc,es,h=>by rw[allF] at h;cases h;exact⟨[],by simp⟩
 | b::r,acc,es,h=>by
  rw[allF] at h;split at h
  ·obtain⟨t,ht⟩:=zi1 r _ _ h;exact⟨_,by rw[ht,List.append_assoc]⟩
  ·cases h
theorem allL_true{T:Tbl}(h:(allL T).2=true):okL (allL T).1=true∧(allL T).1≠[]:=by
 unfold allL at h ⊢;split at h
 ·cases h
 ·rename_i hb;rw[if_neg hb];split at h
  ·cases h
  ·rename_i es hes;refine⟨h,?_⟩;simp only;intro hn;subst hn;obtain⟨b,r,hbr⟩:∃ b r,T.blocks=b::r:=by
    cases hT:T.blocks with
    | nil=>rw[hT] at hb;simp at hb
    | cons b r=>exact⟨b,r,rfl⟩
   rw[hbr,allF] at hes;split at hes
   ·rename_i hq;obtain⟨t,ht⟩:=zi1 r _ _ hes;rw[List.nil_append] at ht;have:=congrArg List.length ht;rw[lA,List.length_nil] at this;omega
   ·cases hes
theorem zgY{es:List Ent}(h:okL es=true):∀ x∈es,Fits x:=fun x hx=>by
 have:=zaQ (zdn h x hx);exact⟨by omega,by omega,by omega,by omega⟩
theorem zf7(T:Tbl)(vb vk:Value)(w:World)(hi:RdI w vb T.bits)(hr:RdS w vk T.blocks)(hz:∀ s∈T.blocks,s.size≤1000000000) :
 Calls Tryz.prog 115 #[.agg #[.string T.first,.string T.last,vb,vk]] w fun e w'=>e=.returned (.bool (zT T))∧Below w.heap.size w w':=by
 have ht0:=zeI w T vb vk 56;have b0:=ze w (.cells #[.string T.first,.string T.last,vb,vk] 56);have HALL:=zjI T vb vk _ (hr.below b0) hz;obtain⟨R,hR⟩:∃ R,R=zT T:=⟨_,rfl⟩;rw[← hR];obtain⟨F,hF⟩:∃ F,F=allL T:=⟨_,rfl⟩;have HT:=@allL_true T;unfold zT at hR;rw[← hF] at hR HALL HT;have HR:Hid (R=(F.2&&decide (T.first=(nth F.1 0).key)&&decide (T.last=(nth F.1 (F.1.length-1)).key)&&decide (T.bits=bitsL F.1))):=hR;have HA:Hid (Calls _ _ _ _ _):=HALL;have HT2:Hid (F.2=true→okL F.1=true∧F.1≠[]):=HT;clear hF hR HALL HT;obtain⟨es,is⟩:=F;simp only at HR HT2;obtain⟨d0,d1,d2,d3⟩:=id ht0;go_enter Tryz.func115,Tryz.ntmps115
 go_wp2_with fail
 refine HA.out.mono ?_;rintro e w1 ⟨u,rfl,ho1,hb1⟩;simp only at ho1 ⊢;have ht1:=ht0.below hb1;have b1:=b0.trans (hb1.mono b0.size);have hi1:=hi.below b1;clear HA ht0 b0 hb1 d0 d1 d2 d3;cases is with
 | false =>
  have RES:Hid (R=false):=by unfold Hid;rw[HR.out];rfl
  go_wp2_with fail
  refine brg (S:=fun _=>True) trivial (fun hH=>?_);refine kA 0 10 hH ?_;refine kA 1 11 hH ?_;refine kS 2 12 hH ?_;refine kS 3 13 hH ?_;refine kS 4 14 hH ?_;refine kS 5 15 hH ?_;refine kS 6 16 hH ?_;refine kS 7 17 hH ?_;refine kS 8 18 hH ?_;refine kA 9 19 hH ?_;refine kA 10 20 hH ?_;refine kS 11 21 hH ?_;refine kS 12 22 hH ?_;refine kS 13 23 hH ?_;refine kS 14 24 hH ?_;refine kS 15 25 hH ?_;refine kS 16 26 hH ?_;refine kS 17 27 hH ?_;refine kS 18 28 hH ?_;refine kS 19 29 hH ?_;refine kS 20 30 hH ?_;refine kA 21 31 hH ?_;refine kA 22 32 hH ?_;refine kS 23 33 hH ?_;refine kS 24 34 hH ?_;refine kS 25 35 hH ?_;refine kS 26 36 hH ?_;refine kS 27 37 hH ?_;refine kA 28 38 hH ?_;refine kA 29 2 hH ?_;refine dne ?_;go_wp2;go_ret;exact⟨by have h:=RES.out;subst h;rfl,b1.drew⟩
 | true =>
  obtain⟨hok,hne⟩:=HT2.out rfl;have HFT:Hid (∀ x∈es,Fits x):=zgY hok;have HKS:Hid (∀ e∈es,e.key.size≤1000000000):=fun e he=>by have:=zaQ (zdn hok e he);omega
  have hl3:=zad hok;have hlp:0<es.length:=List.length_pos_iff.2 hne;obtain⟨aU,cU,hvU,hU1,hU2,_⟩:=id ho1.rd;subst hvU;obtain⟨b,off,rfl,hc0⟩:=ho1.rd.at rfl 0 hlp;obtain⟨b',off',hb',hcl⟩:=ho1.rd.at rfl (es.length-1) (by omega);cases hb'
  obtain⟨m,hm⟩:∃ m,m=es.length-1:=⟨_,rfl⟩;rw[← hm] at hcl HR;rw[Nat.zero_mul,Nat.add_zero] at hc0;obtain⟨e0,he0⟩:∃ e0,e0=nth es 0:=⟨_,rfl⟩;obtain⟨el,hel⟩:∃ el,el=nth es m:=⟨_,rfl⟩;rw[← he0] at hc0 HR;rw[← hel] at hcl HR;have HR2:Hid (R=(decide (T.first=e0.key)&&decide (T.last=el.key)&&decide (T.bits=bitsL es))):=by unfold Hid;rw[HR.out];simp
  obtain⟨nn,hnn⟩:∃ nn,nn=es.length:=⟨_,rfl⟩;have HCB:Hid (∀ W,OwnE W (w.alloc (.cells #[.string T.first,.string T.last,vb,vk] 56)).heap.size (.slice (some ⟨b,off,none⟩) nn cU) es→Calls Tryz.prog 111 #[.slice (some ⟨b,off,none⟩) nn cU] W fun e w'=>∃ u,e=.returned u∧OwnI w' W.heap.size u (bitsL es)∧Below W.heap.size W w'):=fun W h=>by rw[hnn] at h ⊢;exact zhs _ es W h.rd HKS.out (by omega)
  rw[← hnn] at ho1 ⊢;have hnm:(nn:Int)-1=(m:Int):=by omega
  have hwm:IntKind.i64.wrap (m:Int)=(m:Int):=by rw[IntKind.wrap_i64];omega
  have hmn:m<nn:=by omega
  have hn0:0<nn:=by omega
  have hn3:nn≤300:=by omega
  clear HR HT2 hok hne hnn hm he0 hel hl3 hlp hU1;obtain⟨t0,t1,t2,t3⟩:=id ht1;have KB1:=zbE T.first e0.key;have KB2:=zbE T.last el.key;cases hk1:kEq T.first e0.key with
  | false =>
   rw[hk1] at KB1;have RES:Hid (R=false):=(by unfold Hid;rw[HR2.out];unfold kEq at hk1;rw[hk1];rfl);go_wp2_with fail
   refine brg (S:=fun w'=>(w'.cell? ⟨w.heap.size,0,none⟩=some (.string T.first)∧w'.cell? ⟨w.heap.size,1,none⟩=some (.string T.last)∧w'.cell? ⟨w.heap.size,2,none⟩=some vb)∧EntAt w' b off e0∧EntAt w' b (off+m*4) el) ⟨⟨t0,t1,t2⟩,hc0,hcl⟩ (fun hH=>?_);refine kA 0 10 hH ?_;refine kA 1 11 hH ?_;refine kA 2 12 hH ?_;refine kA 3 13 hH ?_;refine kA 4 14 hH ?_;refine kA 5 15 hH ?_;refine kA 6 16 hH ?_;refine kA 7 17 hH ?_;refine kA 8 18 hH ?_;refine kA 9 19 hH ?_;refine kA 10 20 hH ?_;refine kS 11 21 hH ?_;refine kS 12 22 hH ?_;refine kS 13 23 hH ?_;refine kS 14 24 hH ?_;refine kS 15 25 hH ?_;refine kS 16 26 hH ?_;refine kS 17 27 hH ?_;refine kS 18 28 hH ?_;refine kS 19 29 hH ?_;refine kS 20 30 hH ?_;refine kA 21 31 hH ?_;refine kA 22 32 hH ?_;refine kS 23 33 hH ?_;refine kS 24 34 hH ?_;refine kS 25 35 hH ?_;refine kS 26 36 hH ?_;refine kS 27 37 hH ?_;refine kA 28 38 hH ?_;refine kA 29 2 hH ?_;refine dne ?_;go_wp2;go_ret;exact⟨by have h:=RES.out;subst h;rfl,b1.drew⟩
  | true =>
   rw[hk1] at KB1;cases hk2:kEq T.last el.key with
   | false =>
    rw[hk2] at KB2;have RES:Hid (R=false):=(by unfold Hid;rw[HR2.out];unfold kEq at hk2;rw[hk2];simp);go_wp2_with fail
    refine brg (S:=fun w'=>(w'.cell? ⟨w.heap.size,0,none⟩=some (.string T.first)∧w'.cell? ⟨w.heap.size,1,none⟩=some (.string T.last)∧w'.cell? ⟨w.heap.size,2,none⟩=some vb)∧EntAt w' b off e0∧EntAt w' b (off+m*4) el) ⟨⟨t0,t1,t2⟩,hc0,hcl⟩ (fun hH=>?_);refine kA 0 10 hH ?_;refine kA 1 11 hH ?_;refine kA 2 12 hH ?_;refine kA 3 13 hH ?_;refine kA 4 14 hH ?_;refine kA 5 15 hH ?_;refine kA 6 16 hH ?_;refine kA 7 17 hH ?_;refine kA 8 18 hH ?_;refine kA 9 19 hH ?_;refine kA 10 20 hH ?_;refine kA 11 21 hH ?_;refine kA 12 22 hH ?_;refine kA 13 23 hH ?_;refine kA 14 24 hH ?_;refine kA 15 25 hH ?_;refine kA 16 26 hH ?_;refine kA 17 27 hH ?_;refine kA 18 28 hH ?_;refine kA 19 29 hH ?_;refine kA 20 30 hH ?_;refine kA 21 31 hH ?_;refine kA 22 32 hH ?_;refine kS 23 33 hH ?_;refine kS 24 34 hH ?_;refine kS 25 35 hH ?_;refine kS 26 36 hH ?_;refine kS 27 37 hH ?_;refine kA 28 38 hH ?_;refine kA 29 2 hH ?_;refine dne ?_;go_wp2;go_ret;exact⟨by have h:=RES.out;subst h;rfl,b1.drew⟩
   | true =>
    rw[hk2] at KB2;have RES:Hid (R=decide (T.bits=bitsL es)):=(by unfold Hid;rw[HR2.out];unfold kEq at hk1 hk2;rw[hk1,hk2];simp);go_wp2_with fail
    refine brg (S:=fun w'=>(w'.cell? ⟨w.heap.size,0,none⟩=some (.string T.first)∧w'.cell? ⟨w.heap.size,1,none⟩=some (.string T.last)∧w'.cell? ⟨w.heap.size,2,none⟩=some vb)∧EntAt w' b off e0∧EntAt w' b (off+m*4) el) ⟨⟨t0,t1,t2⟩,hc0,hcl⟩ (fun hH=>?_);have qo:OwnE w1.drew _ _ es:=ho1.drewN 1;have qb:=b1.drew;have qi:RdI w1.drew vb T.bits:=hi1.drewN 1;clear ho1 b1 hi1 ht1 t0 t1 t2 t3 hc0 hcl;revert qo;revert qb;revert qi;revert hH;generalize w1.drew=W0;intro hH qi qb qo;refine kA 0 10 hH ?_;refine kA 1 11 hH ?_;refine kA 2 12 hH ?_;refine kA 3 13 hH ?_;refine kA 4 14 hH ?_;refine kA 5 15 hH ?_;refine kA 6 16 hH ?_;refine kA 7 17 hH ?_;refine kA 8 18 hH ?_;refine kA 9 19 hH ?_;refine kA 10 20 hH ?_;refine kA 11 21 hH ?_;refine kA 12 22 hH ?_;refine kA 13 23 hH ?_;refine kA 14 24 hH ?_;refine kA 15 25 hH ?_;refine kA 16 26 hH ?_;refine kA 17 27 hH ?_;refine kA 18 28 hH ?_;refine kA 19 29 hH ?_;refine kA 20 30 hH ?_;refine kA 21 31 hH ?_;refine kA 22 32 hH ?_;refine kA 23 33 hH ?_;refine kA 24 34 hH ?_;refine kA 25 35 hH ?_;refine rdy 26 (fun K hK=>?_);go_simp;refine(HCB.out _ qo).mono ?_;rintro e w3 ⟨ub,rfl,hub,hb3⟩;have hbc:=(bcell hb3).1
    have hH3:(fun w'=>(w'.cell? ⟨w.heap.size,0,none⟩=some (.string T.first)∧w'.cell? ⟨w.heap.size,1,none⟩=some (.string T.last)∧w'.cell? ⟨w.heap.size,2,none⟩=some vb)∧EntAt w' b off e0∧EntAt w' b (off+m*4) el) w3:=⟨⟨(hbc _ _ (World.block_lt_of_cell? W0 _ hH.1.1)).trans hH.1.1,(hbc _ _ (World.block_lt_of_cell? W0 _ hH.1.2.1)).trans hH.1.2.1,(hbc _ _ (World.block_lt_of_cell? W0 _ hH.1.2.2)).trans hH.1.2.2⟩,hH.2.1.below hb3,hH.2.2.below hb3⟩;replace qi:=qi.below hb3;replace qb:=qb.trans (hb3.mono qb.size);refine hK.out _ _ hH3 (fun h4=>?_);clear hK K hH hH3 hb3 hbc;try simp only[Act.put,sA,sZ,sS]
    refine rdy 27 (fun K hK=>?_);go_simp;refine(zm2 vb ub T.bits (bitsL es) _ qi hub.rd).mono ?_;rw[← RES.out];rintro e w4 ⟨rfl,n4,rfl⟩;refine hK.out _ _ h4 (fun h5=>?_);clear hK K h4;try simp only[Act.put,sA,sZ,sS]
    refine kA 28 38 h5 ?_;refine kA 29 2 h5 ?_;refine dne ?_;go_wp2;go_ret;exact⟨rfl,below_drewN qb n4⟩
open Go.RowKit
theorem zk9{T:Tbl}(h:zT T=false):zu T=[]:=by unfold zu;rw[if_neg (by simp[h])]
theorem zkd{T:Tbl}(h:zT T=true):zu T=(allL T).1:=by unfold zu;rw[if_pos h]
theorem zbx(T:Tbl)(vb vk:Value)(w:World)(hi:RdI w vb T.bits)(hr:RdS w vk T.blocks)(hz:∀ s∈T.blocks,s.size≤1000000000) :
 Calls Tryz.prog 82 #[.agg #[.string T.first,.string T.last,vb,vk]] w fun e w'=>∃ u,e=.returned u∧OwnE w' w.heap.size u (zu T)∧Below w.heap.size w w':=by
 have ht0:=zeI w T vb vk 56;have b0:=ze w (.cells #[.string T.first,.string T.last,vb,vk] 56);have HALL:=zjI T vb vk _ (hr.below b0) hz;have HA:Hid (Calls _ _ _ _ _):=HALL;have HOK:Hid (∀ W,RdI W vb T.bits→RdS W vk T.blocks→Calls Tryz.prog 115 #[.agg #[.string T.first,.string T.last,vb,vk]] W fun e w'=>e=.returned (.bool (zT T))∧Below W.heap.size W w'):=fun W h1 h2=>zf7 T vb vk W h1 h2 hz
 have HE1:Hid (zT T=false→zu T=[]):=zk9;have HE2:Hid (zT T=true→zu T=(allL T).1):=zkd;clear HALL;generalize zu T=E at HE1 HE2 ⊢;generalize zT T=ok at HOK HE1 HE2;generalize allL T=F at HA HE2;obtain⟨es,is⟩:=F;simp only at HE2;obtain⟨d0,d1,d2,d3⟩:=id ht0;go_enter Tryz.func82,Tryz.ntmps82
 go_wp2_with fail
 refine HA.out.mono ?_;rintro e w1 ⟨u,rfl,ho1,hb1⟩;simp only at ho1 ⊢;have ht1:=ht0.below hb1;have b1:=b0.trans (hb1.mono b0.size);have hs0:=b0.size;clear HA ht0 b0 hb1 d0 d1 d2 d3;obtain⟨d0,d1,d2,d3⟩:=id ht1;go_wp2_with fail
 refine(HOK.out _ (hi.below b1) (hr.below b1)).mono ?_;rintro e w2 ⟨rfl,hb2⟩;have ho2:=ho1.below hb2;have b2:=b1.trans (hb2.mono b1.size);cases ok with
 | false =>
  have HE:Hid (E=[]):=HE1.out rfl;go_wp2;go_ret;exact⟨_,rfl,by rw[HE.out];exact(zL w2).mono b2.size,b2.alloc b2.size _⟩
 | true =>
  have HE:Hid (E=es):=HE2.out rfl;go_wp2;go_ret;exact⟨_,rfl,by rw[HE.out];exact ho2.mono hs0,b2⟩
open Go.RowKit
theorem made_EV(n:Nat):(madeCells #[.string ⟨#[]⟩,.string ⟨#[]⟩,.int .i64 0,.bool false] (n*4)).toList=EV (List.replicate n zeroE):=by
 apply List.ext_getElem?;intro j;by_cases hj:j<n*4
 ·have h1:j / 4<n:=by omega
  have h2:=zls (List.replicate n zeroE) (j / 4) (by rw[List.length_replicate];exact h1) (j % 4) (by omega);rw[show j / 4*4+j % 4=j by omega] at h2;rw[h2,zU (by rw[List.length_replicate];exact h1),List.getElem_replicate];have h3:j % 4=0∨j % 4=1∨j % 4=2∨j % 4=3:=by omega
  rcases h3 with h | h | h | h<;>simp[madeCells,hj,h,EC,zeroE]
 ·rw[List.getElem?_eq_none (by rw[Array.length_toList,size_madeCells];omega),List.getElem?_eq_none (by rw[zaF,List.length_replicate];omega)]
open Go.RowKit
theorem Tryz.info24:(Tryz.prog.info? 24).map (fun i=>(i.zero,i.size,i.bytes))=some (some (.slice none 0 0),1,24):=by kernel_rfl
theorem zhu{B:Nat}{a w:World}(h:Below B a w)(n:Nat):Below B a (w.drewN n):=⟨h.os,h.tape,h.output,h.size,h.block⟩
def Pieces(w:World)(v:Value)(ps:List (Value×List Ent)):Prop :=
 (v=.slice none 0 0∧ps=[])∨∃ b off cap,v=.slice (some ⟨b,off,none⟩) ps.length cap∧ps.length≤cap∧cap≤maxLen ∧
  ∀ i (h:i<ps.length),w.cell? ⟨b,off+i,none⟩=some (ps[i].1)∧RdE w ps[i].1 ps[i].2
theorem zh4(ty:TypeId){w:World}{g off dLen dCap:Nat}{dp:Option Addr}{u:Value}{zs:List Ent}{cur:List Value}(hg:w.heap[g]? = some (.cells cur.toArray 40 (0,0)))(hr:RdE w u zs)
 (hd:0<zs.length→dp=some ⟨g,off,none⟩) (hn:zs.length≤dLen) (hfit:off+zs.length*4≤cur.length) :
 ∃ w',(Builtin.copy_ #[24,24] ty #[.slice dp dLen dCap,u]).run Tryz.prog w=.ok (goInt zs.length) w'∧w'.heap[g]? = some (.cells (splice cur off (EV zs)).toArray 40 (0,0))∧w.grownBy w' (some g):=by
 obtain⟨i0,hi,hz0,hz1,hz2⟩:=info_parts Tryz.info40;obtain⟨a,cap,rfl,h1,h2,h0,h3⟩:=hr;have hmin:Nat.min zs.length dLen=zs.length:=Nat.min_eq_left hn;by_cases hz:zs.length=0
 ·obtain rfl:zs=[]:=List.eq_nil_of_length_eq_zero hz;refine⟨w,?_,by simpa [splice,EV] using hg,⟨rfl,rfl,rfl,nR _,fun _ _ _=>rfl⟩⟩;cases dp<;>cases a<;>simp[Builtin.copy_,run_underlying Tryz.underlying24,Builtin.lenOf,Builtin.firstCells,sizeOf,typeInfo,hi,storeCells,loadCells,loadCellsFrom]
 ·rcases h3 with rfl | ⟨b,o,rfl,hc⟩
  ·simp at hz
  obtain rfl:=hd (by omega);have hcells:=zfG hc;have hl:=run_loadCells_list (P:=Tryz.prog) w ⟨b,o,none⟩ (EV zs) hcells;have hst:=run_storeCells_at Tryz.prog g off 40 (EV zs) 0 cur.toArray w hg (by rw[zaF];simpa using hfit) (zhq zs);refine⟨_,?_,setRow_heap w g cur.toArray _ _ _ hg,⟨rfl,rfl,rfl,by simp[World.setRow],fun k _ hk=>setRow_other w g k _ (fun e=>hk (by simp[e]))⟩⟩;rw[zaF] at hl;simp[Builtin.copy_,run_underlying Tryz.underlying24,Builtin.lenOf,Builtin.firstCells,sizeOf,typeInfo,hi,hz1,hmin,hl,hst,splice]
theorem zdk{w:World}{ops:Array Oper}{rest:List Oper}{o:Oper}{a:Act}{Q:Exit→Act→World→Prop}(hgd:o.guard=none)(d s:Operand)
 (ho:o.op=.call { callee:=.builtin .copy,args:=#[d,s],argTypes:=#[24,24] }) (dp:Option Addr) (dLen dCap:Nat) (u:Value) (hd:a.eval d=.slice dp dLen dCap) (hs:a.eval s=u)
 (g off:Nat) (cur:List Value) (zs:List Ent) (hg:w.heap[g]? = some (.cells cur.toArray 40 (0,0))) (hr:RdE w u zs) (hdp:0<zs.length→dp=some ⟨g,off,none⟩) (hn:zs.length≤dLen) (hfit:off+zs.length*4≤cur.length)
 (h:∀ w',Hid (w'.heap[g]? = some (.cells (splice cur off (EV zs)).toArray 40 (0,0)))→w.grownBy w' (some g)→wpList Tryz.prog ops Q rest (a.put o.dst (goInt zs.length)) w'):wpList Tryz.prog ops Q (o::rest) a w:=by
 refine wpList_plain hgd fun K hK=>?_
 obtain⟨w',hrun,r1,r2⟩:=zh4 o.type (dCap:=dCap) hg hr hdp hn hfit;unfold Oper.wp;simp[execOp,ho,resolve,invoke,builtin,hd,hs,hrun,Result.andThen];exact hK _ _ (h w' r1 r2)
theorem zf9(ds zs rs:List Ent)(h:zs.length≤rs.length):splice (EV (ds++rs)) (ds.length*4) (EV zs)=EV (ds++zs++rs.drop zs.length):=by
 have hl:(EV ds).length=ds.length*4:=zaF ds;have hd:EV rs=EV (rs.take zs.length)++EV (rs.drop zs.length):=by rw[← zcQ,List.take_append_drop]
 have ht:(EV (rs.take zs.length)).length=zs.length*4:=by rw[zaF,List.length_take];omega
 unfold splice;rw[zcQ,List.take_append_of_le_length (by omega),List.take_of_length_le (by omega),zaF,List.drop_append,List.drop_eq_nil_of_le (by omega),List.nil_append,hl,
  show ds.length*4+zs.length*4-ds.length*4=zs.length*4 by omega,hd,List.drop_append,List.drop_eq_nil_of_le (by omega),List.nil_append,ht,Nat.sub_self,List.drop_zero,zcQ,zcQ,List.append_assoc]
def joinE(ps:List (Value×List Ent)):List Ent:=ps.flatMap (·.2)
theorem znp(ps:List (Value×List Ent))(k:Nat)(h:k<ps.length):joinE (ps.take (k+1))=joinE (ps.take k)++ps[k].2:=by
 unfold joinE;rw[List.take_succ_eq_append_getElem h,List.flatMap_append];simp
theorem zl7(ps:List (Value×List Ent))(k:Nat):(joinE (ps.take k)).length≤(joinE ps).length:=by
 have:joinE ps=joinE (ps.take k)++joinE (ps.drop k):=by unfold joinE;rw[← List.flatMap_append,List.take_append_drop]
 rw[this,lA];omega
theorem zkt{w:World}{B g n:Nat}{es:List Ent}(hn:n=es.length)(hB:B≤g)(hm:n≤maxLen)(hg:w.heap[g]? = some (.cells (EV es).toArray 40 (0,0))):OwnE w B (.slice (some ⟨g,0,none⟩) n n) es:=by
 subst hn;refine⟨by rw[zaF],.inr ⟨g,es.length,_,rfl,hB,hg,nR _,hm,by simp[zaF],?_⟩⟩;rw[List.take_of_length_le (by simp[zaF])]
theorem zkH{w:World}{B g n:Nat}{es:List Ent}(hn:n=es.length)(h:w.ownsRow B 40 4 (.slice (some ⟨g,0,none⟩) n n) n (EV es)):w.heap[g]? = some (.cells (EV es).toArray 40 (0,0)):=by
 subst hn;rcases h.2 with ⟨h0,_⟩ | ⟨g',cap,cur,hv,hb,hg,hc,hm,hs,ht⟩
 ·cases h0
 ·simp only[Value.slice.injEq,Option.some.injEq,Addr.mk.injEq,and_true] at hv;obtain⟨rfl,_,rfl⟩:=hv;rw[hg,← ht,List.take_of_length_le (by rw[Array.length_toList];omega)]
theorem Pieces.below{w w':World}{v:Value}{ps:List (Value×List Ent)}(h:Pieces w v ps)(hb:Below w.heap.size w w'):Pieces w' v ps:=by
 rcases h with h | ⟨b,off,cap,hv,h1,h2,hc⟩
 ·exact .inl h
 ·exact .inr ⟨b,off,cap,hv,h1,h2,fun i hi=>⟨by rw[hb.cell (World.block_lt_of_cell? w _ (hc i hi).1)];exact(hc i hi).1,(hc i hi).2.below hb⟩⟩
theorem rdE_mid{w:World}{b off n cap i j:Nat}{es:List Ent}(h:RdE w (.slice (some ⟨b,off,none⟩) n cap) es)(hij:i≤j)(hj:j≤es.length):RdE w (.slice (some ⟨b,off+i*4,none⟩) (j-i) (j-i)) ((es.take j).drop i):=by
 obtain⟨a',cap',hv,h1,h2,h0,h3⟩:=h;simp only[Value.slice.injEq] at hv;obtain⟨rfl,_,rfl⟩:=hv;have hl:((es.take j).drop i).length=j-i:=by rw[List.length_drop,List.length_take];omega
 refine⟨_,_,by rw[hl],by omega,by omega,(fun h=>by cases h),?_⟩;rcases h3 with rfl | ⟨b',off',ha,hc⟩
 ·exact .inl (by simp)
 ·cases ha
  refine .inr ⟨b,off+i*4,rfl,fun k hk=>?_⟩;rw[hl] at hk;rw[zfU (by rw[List.length_take];omega),zid (by omega) (by omega),show off+i*4+k*4=off+(i+k)*4 by omega];exact hc (i+k) (by omega)
theorem znL(v:Value)(es:List Ent)(i j:Nat)(w:World)(hr:RdE w v es)(hij:i≤j)(hj:j≤es.length) :
 Calls Tryz.prog 78 #[v,.int .i64 i,.int .i64 j] w fun e w'=>∃ u,e=.returned u∧(∀ W,RdE W v es→RdE W u ((es.take j).drop i))∧w'=w:=by
 obtain⟨a,cap,hv,hl,hm,h0,h3⟩:=id hr;unfold maxLen at hm;subst hv;have hjc:j≤cap:=by omega
 rcases h3 with he | ⟨b,off,ha,hc⟩
 ·subst he;have hj0:j=0:=by simpa using hj
  subst hj0;have hi0:i=0:=by omega
  subst hi0;cases a with
  | none =>
   have hc0:=h0 rfl;subst hc0;go_enter Tryz.func78,Tryz.ntmps78
   go_wp2;go_ret;exact⟨_,rfl,fun W _=>rdE_nil W,rfl⟩
  | some ad =>
   go_enter Tryz.func78,Tryz.ntmps78
   go_wp2;go_ret;exact⟨_,rfl,fun W _=>zeL (fun h=>by cases h) (Nat.zero_le _) rfl,rfl⟩
 ·subst ha;go_enter Tryz.func78,Tryz.ntmps78
  go_wp2;all_goals go_ret
  ·exact⟨_,rfl,fun W _=>zeL (fun h=>by cases h) (Nat.zero_le _) rfl,rfl⟩
  ·exact⟨_,rfl,fun W hW=>rdE_mid hW hij hj,rfl⟩
theorem zfg(v:Value)(ps:List (Value×List Ent))(w:World)(hp:Pieces w v ps)(hl:(joinE ps).length≤1000000)(hpl:ps.length≤1000000) :
 Calls Tryz.prog 59 #[v] w fun e w'=>∃ u,e=.returned u∧OwnE w' w.heap.size u (joinE ps)∧Below w.heap.size w w':=by
 obtain⟨i0,hi,hz0,hz1,hz2⟩:=info_parts Tryz.info40;obtain⟨a,cap,hv,hla,hma⟩:∃ a cap,v=.slice a ps.length cap∧ps.length≤cap∧cap≤maxLen:=by
  rcases hp with ⟨rfl,rfl⟩ | ⟨b,off,cap,rfl,h1,h2,_⟩
  ·exact⟨none,0,rfl,nR _,Nat.zero_le _⟩
  ·exact⟨_,cap,rfl,h1,h2⟩
 unfold maxLen at hma;subst hv;obtain⟨N,hN⟩:∃ N,N=(joinE ps).length:=⟨_,rfl⟩;have HN:Hid (N=(joinE ps).length):=hN;have hNl:N≤1000000:=by omega
 clear hN;have at':∀ k,k<ps.length→∀ w',Below w.heap.size w w'→∃ b off u zs,a=some ⟨b,off,none⟩∧w'.cell? ⟨b,off+k,none⟩=some u∧RdE w' u zs∧joinE (ps.take (k+1))=joinE (ps.take k)++zs∧∃ aa cc,u=.slice aa zs.length cc:=by
  intro k hk w' hb;rcases hp.below hb with ⟨h,he⟩ | ⟨b,off,cap',hv,_,_,hc⟩
  ·subst he;simp at hk
  ·simp only[Value.slice.injEq] at hv;obtain⟨rfl,_,_⟩:=hv;obtain⟨aa,cc,hu,_⟩:=id (hc k hk).2;exact⟨b,off,_,_,rfl,(hc k hk).1,(hc k hk).2,znp ps k hk,aa,cc,hu⟩
 have AT:Hid (∀ k,k<ps.length→∀ w',Below w.heap.size w w'→∃ b off u zs,a=some ⟨b,off,none⟩∧w'.cell? ⟨b,off+k,none⟩=some u∧RdE w' u zs∧joinE (ps.take (k+1))=joinE (ps.take k)++zs∧∃ aa cc,u=.slice aa zs.length cc):=at';clear at' hp;go_enter Tryz.func59,Tryz.ntmps59
 go_wp2;go_loop [3,12] (fun s i=>∃ k m:Nat,k≤ps.length∧i=.int .i64 k∧s=.int .i64 m∧m≤1000000∧Hid (m=(joinE (ps.take k)).length)) (fun _ i=>ps.length-(intOf i).toNat)
 case atStart=>exact⟨0,0,Nat.zero_le _,rfl,rfl,by omega,by simp[Hid,joinE]⟩
 case round =>
  obtain⟨k,m,hk,rfl,rfl,hml,HM⟩:=hrel;by_cases hlt:k<ps.length
  ·skip
   obtain⟨b,off,u,zs,rfl,hc,hru,hj,aa,cc,rfl⟩:=AT.out k hlt w (Below.refl _ _);have hle:=zl7 ps (k+1);have HM2:Hid (m+zs.length=(joinE (ps.take (k+1))).length):=(by unfold Hid;rw[hj,lA,← HM.out]);have hzl:m+zs.length≤1000000:=(by have:=HM2.out;omega);clear hj hle;go_wp2;go_round
   case rel=>exact⟨k+1,m+zs.length,by omega,by go_num,by go_num,hzl,HM2⟩
   case measure=>simp[intOf];omega
  ·skip
   have hke:k=ps.length:=(by omega);have hmN:m=N:=(by rw[HM.out,HN.out,hke,List.take_length]);subst hmN;clear hke;go_wp2_with (at_make;(refine wpList_make_full _ rfl _ _ 24 rfl w.heap.size 40 i0 _ 4 Tryz.underlying24 hi hz0 hz1 .i64 .i64 (m:Int) (m:Int) m rfl rfl rfl rfl ?c1 ?c2 ?c3 ?_))
   case c1=>first | omega | (rw[hz2];omega)
   case c2=>unfold maxLen;omega
   intro w1 ho1 hg1;rw[made_EV] at ho1;have hb1:Below w.heap.size w w1:=(Below.refl _ _).grown hg1 (nR _) (fun k hk=>by cases hk);have hh1:=zkH (by rw[List.length_replicate]) ho1;clear hg1 ho1;go_wp2;go_loopw [7,25] (fun s i wr=>∃ k t:Nat,k≤ps.length∧i=.int .i64 k∧s=.int .i64 t∧t≤m∧Hid (t=(joinE (ps.take k)).length)∧Hid (wr.heap[w.heap.size]? = some (.cells (EV (joinE (ps.take k)++List.replicate (m-t) zeroE)).toArray 40 (0,0)))∧Below w.heap.size w wr) (fun _ i _=>ps.length-(intOf i).toNat)
   case atStart=>exact⟨0,0,Nat.zero_le _,rfl,rfl,Nat.zero_le _,by simp[Hid,joinE],by simpa [Hid,joinE] using hh1,hb1⟩
   case round =>
    obtain⟨k,t,hk,rfl,rfl,htm,HT,HH,hb⟩:=hrel;clear hh1 hb1;by_cases hlt:k<ps.length
    ·obtain⟨b,off,u,zs,rfl,hc,hru,hj,aa,cc,rfl⟩:=AT.out k hlt wr hb;have hle:=zl7 ps (k+1);have HT2:Hid (t+zs.length=(joinE (ps.take (k+1))).length):=(by unfold Hid;rw[hj,lA,← HT.out]);have htz:t+zs.length≤m:=(by have:=HT2.out;have:=HN.out;omega);have HJ:Hid (joinE (ps.take (k+1))=joinE (ps.take k)++zs):=hj;clear hj hle;by_cases hmt:m=t
     ·subst hmt;have REST:Hid (splice (EV (joinE (ps.take k)++List.replicate (m-m) zeroE)) (m*4) (EV zs)=EV (joinE (ps.take (k+1))++List.replicate (m-(m+zs.length)) zeroE)):=by
       unfold Hid;have hh:=zf9 (joinE (ps.take k)) zs (List.replicate (m-m) zeroE) (by rw[List.length_replicate];omega);rw[← HT.out] at hh;rw[hh,HJ.out,List.drop_replicate,Nat.sub_sub]
      obtain⟨C,hC⟩:∃ C,C=EV (joinE (ps.take k)++List.replicate (m-m) zeroE):=⟨_,rfl⟩;rw[← hC] at REST;have HH':=HH.out;rw[← hC] at HH';have hcl:C.length=m*4:=by
       rw[hC];rw[zaF,lA,List.length_replicate,← HT.out];omega
      have HCL:Hid (C.length=m*4):=hcl;have HHH:Hid (wr.heap[w.heap.size]? = _):=HH';clear hC hcl HH' HH;go_wp2_with ((refine zdk rfl (.tmp 32) (.tmp 33) rfl _ _ _ _ rfl rfl w.heap.size (m*4) C zs ?d1 ?d2 ?d3 ?d4 ?d5 ?_))
      case d1=>exact HHH.out
      case d2=>exact hru
      case d3=>intro h;omega
      case d4=>omega
      case d5=>rw[HCL.out];omega
      intro w2 hh2 hg2;rw[REST.out] at hh2;have bz:=hb.grown hg2 hb.size (fun k hk=>by cases hk;exact nR _);clear REST HCL HHH hb hg2 hru hc;go_wp2;go_roundw
      case rel=>exact⟨k+1,m+zs.length,by omega,by go_num,by first | go_num | simp[goInt],htz,HT2,hh2,bz⟩
      case measure=>simp[intOf];omega
     ·skip
      have REST:Hid (splice (EV (joinE (ps.take k)++List.replicate (m-t) zeroE)) (t*4) (EV zs)=EV (joinE (ps.take (k+1))++List.replicate (m-(t+zs.length)) zeroE)):=by
       unfold Hid;have hh:=zf9 (joinE (ps.take k)) zs (List.replicate (m-t) zeroE) (by rw[List.length_replicate];omega);rw[← HT.out] at hh;rw[hh,HJ.out,List.drop_replicate,Nat.sub_sub]
      obtain⟨C,hC⟩:∃ C,C=EV (joinE (ps.take k)++List.replicate (m-t) zeroE):=⟨_,rfl⟩;rw[← hC] at REST;have HH':=HH.out;rw[← hC] at HH';have hcl:C.length=m*4:=by
       rw[hC];rw[zaF,lA,List.length_replicate,← HT.out];omega
      have HCL:Hid (C.length=m*4):=hcl;have HHH:Hid (wr.heap[w.heap.size]? = _):=HH';clear hC hcl HH' HH;go_wp2_with ((refine zdk rfl (.tmp 32) (.tmp 33) rfl _ _ _ _ rfl rfl w.heap.size (t*4) C zs ?d1 ?d2 ?d3 ?d4 ?d5 ?_))
      case d1=>exact HHH.out
      case d2=>exact hru
      case d4=>omega
      case d5=>rw[HCL.out];omega
      intro w2 hh2 hg2;rw[REST.out] at hh2;have bz:=hb.grown hg2 hb.size (fun k hk=>by cases hk;exact nR _);clear REST HCL HHH hb hg2 hru hc;go_wp2;go_roundw
      case rel=>exact⟨k+1,t+zs.length,by omega,by go_num,by first | go_num | simp[goInt],htz,HT2,hh2,bz⟩
      case measure=>simp[intOf];omega
    ·have hke:k=ps.length:=(by omega);have htN:t=m:=(by rw[HT.out,HN.out,hke,List.take_length]);subst htN;have R1:OwnE wr w.heap.size (.slice (some ⟨w.heap.size,0,none⟩) t t) (joinE ps):=by
      refine zkt HN.out (nR _) (by unfold maxLen;omega) ?_;have h:=HH.out;rw[hke,List.take_length,Nat.sub_self,List.replicate_zero,List.append_nil] at h;exact h
     clear hke HH;go_wp2;go_ret;exact⟨_,rfl,R1,hb⟩
open Go.RowKit
theorem zbJ(W:World)(x:Ent)(t:TypeId):EntAt (W.alloc (.cells #[.string x.key,.string x.val,.int .i64 x.seq,.bool x.gone] t)) W.heap.size 0 x :=
 ⟨by simp[World.cell?_alloc_at],by simp[World.cell?_alloc_at],by simp[World.cell?_alloc_at],by simp[World.cell?_alloc_at]⟩
theorem zda{w:World}{b:Nat}{x:Ent}(h:EntAt w b 0 x):RdE w (.slice (some ⟨b,0,none⟩) 1 1) [x] :=
 ⟨_,1,rfl,nR _,by decide,(fun h=>by cases h),.inr ⟨b,0,rfl,fun i hi=>by
  have:i=0:=by simpa using hi
  subst this;exact h⟩⟩
theorem zpo{es:List Ent}{q:Int}{i:Nat}(h:(nth es i).seq≤q):lastK es q (i+1)=(nth es i).key:=by rw[lastK,if_pos h]
theorem lastK_no{es:List Ent}{q:Int}{i:Nat}(h:¬ (nth es i).seq≤q):lastK es q (i+1)=lastK es q i:=by rw[lastK,if_neg h]
theorem zkZ(v:Value)(es:List Ent)(q:Int)(w:World)(hr:RdE w v es)(hok:okL es=true) :
 Calls Tryz.prog 90 #[v,.int .i64 q] w fun e w'=>∃ u,e=.returned u∧OwnE w' w.heap.size u (shTo es q es.length)∧Below w.heap.size w w':=by
 obtain⟨a,cap,hv,hl,hm,_⟩:=id hr;unfold maxLen at hm;subst hv;have hlen:=zad hok;go_enter Tryz.func90,Tryz.ntmps90
 go_wp2;go_loopw [5,6,7] (fun o ky i wr=>∃ (k:Nat) (K:ByteArray),k≤es.length∧i=.int .i64 k∧ky=.string K∧Hid (K=lastK es q k)∧OwnE wr w.heap.size o (shTo es q k)∧Below w.heap.size w wr) (fun _ _ i _=>es.length-(intOf i).toNat)
 case atStart=>exact⟨0,_,Nat.zero_le _,rfl,rfl,rfl,zX w,ze _ _⟩
 case round =>
  obtain⟨k,K,hk,rfl,rfl,HK,ho,hb⟩:=hrel;by_cases hlt:k<es.length
  ·obtain⟨b,off,rfl,hc⟩:=(hr.below hb).at rfl k hlt;obtain⟨y,hy⟩:∃ y,y=nth es k:=⟨_,rfl⟩;rw[← hy] at hc;have HY:Hid (y=nth es k):=hy;clear hy;obtain⟨c0,c1,c2,c3⟩:=hc;have hsl:=ze6 es q k;by_cases hq:y.seq≤q
   ·have KB:=zbE y.key K;have HI:=zoa hok q k hlt (by rw[← HY.out];exact hq);rw[← HY.out,← HK.out] at HI;have HK2:Hid (y.key=lastK es q (k+1)):=(by unfold Hid;rw[zpo (by rw[← HY.out];exact hq),← HY.out]);cases hke:kEq y.key K with
    | true =>
     rw[hke] at KB HI;have hsh:shTo es q (k+1)=shTo es q k:=zfb (by unfold shAt;rw[HI];rfl);have HO:Hid (OwnE wr w.heap.size u5 (shTo es q (k+1))):=(by unfold Hid;rw[hsh];exact ho);have HK3:Hid (K=lastK es q (k+1)):=(by unfold Hid;rw[← HK2.out];unfold kEq at hke;exact(of_decide_eq_true hke).symm);clear hsh HI ho;go_wp2;go_roundw
     case rel=>exact⟨k+1,_,by omega,by go_num,rfl,HK3,HO.out,hb⟩
     case measure=>simp[intOf];omega
    | false =>
     rw[hke] at KB HI;cases hgn:y.gone with
     | true =>
      have hsh:shTo es q (k+1)=shTo es q k:=zfb (by unfold shAt;rw[← HY.out,hgn];simp);have HO:Hid (OwnE wr w.heap.size u5 (shTo es q (k+1))):=(by unfold Hid;rw[hsh];exact ho);rw[hgn] at c3;clear hsh HI ho;go_wp2;go_roundw
      case rel=>exact⟨k+1,_,by omega,by go_num,rfl,HK2,HO.out,hb⟩
      case measure=>simp[intOf];omega
     | false =>
      have hsh:shTo es q (k+1)=shTo es q k++[y]:=(by rw[zii (by unfold shAt;rw[HI,← HY.out,hgn];rfl),← HY.out]);have HSH:Hid (shTo es q (k+1)=shTo es q k++[y]):=hsh;rw[hgn] at c3;have hyy:Hid (y=⟨y.key,y.val,y.seq,false⟩):=(by unfold Hid;rw[← hgn]);have hs:=hb.size;clear hsh HI;go_wp2_with (at_builtin;(refine zp rfl _ _ rfl w.heap.size _ _ (shTo es q k) [y] rfl rfl ?c1 ?c2 ?c3 ?c4 ?_))
      case c1=>exact ho.below (ze _ _)
      case c2=>rw[hyy.out];exact zda (zbJ _ ⟨y.key,y.val,y.seq,false⟩ _)
      case c3=>simp;omega
      case c4=>simp;omega
      intro v2 w2 ho2 hg2;have bz2:Below w.heap.size w w2:=(hb.alloc hb.size _).grown hg2 (by simp;omega) (fun k hk=>(oL ho k hk).1);have HO:Hid (OwnE w2 w.heap.size v2 (shTo es q (k+1))):=(by unfold Hid;rw[HSH.out];exact ho2);clear ho ho2 hg2 hb;go_wp2;go_roundw
      case rel=>exact⟨k+1,_,by omega,by go_num,rfl,HK2,HO.out,bz2⟩
      case measure=>simp[intOf];omega
   ·skip
    have hq2:q<y.seq:=(by omega);have hsh:shTo es q (k+1)=shTo es q k:=zfb (by unfold shAt zah;rw[← HY.out];simp[hq]);have HO:Hid (OwnE wr w.heap.size u5 (shTo es q (k+1))):=(by unfold Hid;rw[hsh];exact ho);have HK3:Hid (K=lastK es q (k+1)):=(by unfold Hid;rw[lastK_no (by rw[← HY.out];exact hq)];exact HK.out);clear hsh ho hq;go_wp2;go_roundw
    case rel=>exact⟨k+1,_,by omega,by go_num,rfl,HK3,HO.out,hb⟩
    case measure=>simp[intOf];omega
  ·have hke:k=es.length:=(by omega);subst hke;go_wp2;go_ret;exact⟨_,rfl,ho,hb⟩
def zbq(w:World)(ys:List Ent)(e:Ending)(w':World):Prop :=
 ∃ u,e=.returned u∧OwnE w' w.heap.size u ys∧Below w.heap.size w w'
end Go.Proofs.YtjlnchhgkfnldaaGreat
