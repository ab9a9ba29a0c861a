import Derived.Test.YtannfbpohhnnkaaGreatDoorG12
import Derived.Laws.CopyOwn
namespace Go.Proofs.YtannfbpohhnnkaaGreatDoor
set_option maxHeartbeats 16000000
set_option maxRecDepth 100000
open Go.RowKit
theorem Tryz.info31:(Tryz.prog.info? 31).map (fun i=>(i.zero,i.size,i.bytes))=some (some (.slice none 0 0),1,24):=by kernel_rfl
theorem zqo{B:Nat}{a w:World}(h:Below B a w)(n:Nat):Below B a (w.drewN n):=⟨h.os,h.tape,h.output,h.size,h.block⟩
def Pieces(w:World)(v:Value)(ps:List (Value×List Ent)):Prop :=
 (v=.slice none 0 0∧ps=[])∨∃ b off cap,v=.slice (some ⟨b,off,none⟩) ps.length cap∧ps.length≤cap∧cap≤maxLen ∧
  ∀ i (h:i<ps.length),w.cell? ⟨b,off+i,none⟩=some (ps[i].1)∧RdE w ps[i].1 ps[i].2
theorem ziY(ty:TypeId){w:World}{g off dLen dCap:Nat}{dp:Option Addr}{u:Value}{zs:List Ent}{cur:List Value}(hg:w.heap[g]? = some (.cells cur.toArray 94 (0,0)))(hr:RdE w u zs)
 (hd:0<zs.length→dp=some ⟨g,off,none⟩) (hn:zs.length≤dLen) (hfit:off+zs.length*4≤cur.length) :
 ∃ w',(Builtin.copy_ #[31,31] ty #[.slice dp dLen dCap,u]).run Tryz.prog w=.ok (goInt zs.length) w'∧w'.heap[g]? = some (.cells (splice cur off (EV zs)).toArray 94 (0,0))∧w.grownBy w' (some g):=by
 obtain⟨i0,hi,hz0,hz1,hz2⟩:=info_parts Tryz.info94;obtain⟨a,cap,rfl,h1,h2,h0,h3⟩:=hr;have hmin:Nat.min zs.length dLen=zs.length:=Nat.min_eq_left hn;by_cases hz:zs.length=0
 ·obtain rfl:zs=[]:=List.eq_nil_of_length_eq_zero hz;refine⟨w,?_,by simpa [splice,EV] using hg,⟨rfl,rfl,rfl,Nat.le_refl _,fun _ _ _=>rfl⟩⟩;cases dp<;>cases a<;>simp[Builtin.copy_,run_underlying Tryz.underlying31,Builtin.lenOf,Builtin.firstCells,sizeOf,typeInfo,hi,storeCells,loadCells,loadCellsFrom]
 ·rcases h3 with rfl | ⟨b,o,rfl,hc⟩
  ·simp at hz
  obtain rfl:=hd (by omega);have hcells:=zf2 hc;have hl:=run_loadCells_list (P:=Tryz.prog) w ⟨b,o,none⟩ (EV zs) hcells;have hst:=run_storeCells_at Tryz.prog g off 94 (EV zs) 0 cur.toArray w hg (by rw[zan];simpa using hfit) (zis zs);refine⟨_,?_,setRow_heap w g cur.toArray _ _ _ hg,⟨rfl,rfl,rfl,by simp[World.setRow],fun k _ hk=>setRow_other w g k _ (fun e=>hk (by simp[e]))⟩⟩;rw[zan] at hl;simp[Builtin.copy_,run_underlying Tryz.underlying31,Builtin.lenOf,Builtin.firstCells,sizeOf,typeInfo,hi,hz1,hmin,hl,hst,splice]
theorem zc5{w:World}{ops:Array Oper}{rest:List Oper}{o:Oper}{a:Act}{Q:Exit→Act→World→Prop}(hgd:o.guard=none)(d s:Operand)
 (ho:o.op=.call { callee:=.builtin .copy,args:=#[d,s],argTypes:=#[31,31] }) (dp:Option Addr) (dLen dCap:Nat) (u:Value) (hd:a.eval d=.slice dp dLen dCap) (hs:a.eval s=u)
 (g off:Nat) (cur:List Value) (zs:List Ent) (hg:w.heap[g]? = some (.cells cur.toArray 94 (0,0))) (hr:RdE w u zs) (hdp:0<zs.length→dp=some ⟨g,off,none⟩) (hn:zs.length≤dLen) (hfit:off+zs.length*4≤cur.length)
 (h:∀ w',Hid (w'.heap[g]? = some (.cells (splice cur off (EV zs)).toArray 94 (0,0)))→w.grownBy w' (some g)→wpList Tryz.prog ops Q rest (a.put o.dst (goInt zs.length)) w'):wpList Tryz.prog ops Q (o::rest) a w:=by
 refine wpList_plain hgd fun K hK=>?_
 obtain⟨w',hrun,r1,r2⟩:=ziY o.type (dCap:=dCap) hg hr hdp hn hfit;unfold Oper.wp;simp[execOp,ho,resolve,invoke,builtin,hd,hs,hrun,Result.andThen];exact hK _ _ (h w' r1 r2)
theorem zhu(ds zs rs:List Ent)(h:zs.length≤rs.length):splice (EV (ds++rs)) (ds.length*4) (EV zs)=EV (ds++zs++rs.drop zs.length):=by
 have hl:(EV ds).length=ds.length*4:=zan ds;have hd:EV rs=EV (rs.take zs.length)++EV (rs.drop zs.length):=by rw[← zdH,List.take_append_drop]
 have ht:(EV (rs.take zs.length)).length=zs.length*4:=by rw[zan,List.length_take];omega
 unfold splice;rw[zdH,List.take_append_of_le_length (by omega),List.take_of_length_le (by omega),zan,List.drop_append,List.drop_eq_nil_of_le (by omega),List.nil_append,hl,
  show ds.length*4+zs.length*4-ds.length*4=zs.length*4 by omega,hd,List.drop_append,List.drop_eq_nil_of_le (by omega),List.nil_append,ht,Nat.sub_self,List.drop_zero,zdH,zdH,List.append_assoc]
def joinE(ps:List (Value×List Ent)):List Ent:=ps.flatMap (·.2)
theorem znS(ps:List (Value×List Ent))(k:Nat)(h:k<ps.length):joinE (ps.take (k+1))=joinE (ps.take k)++ps[k].2:=by
 unfold joinE;rw[List.take_succ_eq_append_getElem h,List.flatMap_append];simp
theorem zmh(ps:List (Value×List Ent))(k:Nat):(joinE (ps.take k)).length≤(joinE ps).length:=by
 have:joinE ps=joinE (ps.take k)++joinE (ps.drop k):=by unfold joinE;rw[← List.flatMap_append,List.take_append_drop]
 rw[this,List.length_append];omega
theorem zl6{w:World}{B g n:Nat}{es:List Ent}(hn:n=es.length)(hB:B≤g)(hm:n≤maxLen)(hg:w.heap[g]? = some (.cells (EV es).toArray 94 (0,0))):OwnE w B (.slice (some ⟨g,0,none⟩) n n) es:=by
 subst hn;refine⟨by rw[zan],.inr ⟨g,es.length,_,rfl,hB,hg,Nat.le_refl _,hm,by simp[zan],?_⟩⟩;rw[List.take_of_length_le (by simp[zan])]
theorem zlj{w:World}{B g n:Nat}{es:List Ent}(hn:n=es.length)(h:w.ownsRow B 94 4 (.slice (some ⟨g,0,none⟩) n n) n (EV es)):w.heap[g]? = some (.cells (EV es).toArray 94 (0,0)):=by
 subst hn;rcases h.2 with ⟨h0,_⟩ | ⟨g',cap,cur,hv,hb,hg,hc,hm,hs,ht⟩
 ·cases h0
 ·simp only[Value.slice.injEq,Option.some.injEq,Addr.mk.injEq,and_true] at hv;obtain⟨rfl,_,rfl⟩:=hv;rw[hg,← ht,List.take_of_length_le (by rw[Array.length_toList];omega)]
theorem Pieces.below{w w':World}{v:Value}{ps:List (Value×List Ent)}(h:Pieces w v ps)(hb:Below w.heap.size w w'):Pieces w' v ps:=by
 rcases h with h | ⟨b,off,cap,hv,h1,h2,hc⟩
 ·exact .inl h
 ·exact .inr ⟨b,off,cap,hv,h1,h2,fun i hi=>⟨by rw[hb.cell (World.block_lt_of_cell? w _ (hc i hi).1)];exact(hc i hi).1,(hc i hi).2.below hb⟩⟩
theorem rdE_mid{w:World}{b off n cap i j:Nat}{es:List Ent}(h:RdE w (.slice (some ⟨b,off,none⟩) n cap) es)(hij:i≤j)(hj:j≤es.length):RdE w (.slice (some ⟨b,off+i*4,none⟩) (j-i) (j-i)) ((es.take j).drop i):=by
 obtain⟨a',cap',hv,h1,h2,h0,h3⟩:=h;simp only[Value.slice.injEq] at hv;obtain⟨rfl,_,rfl⟩:=hv;have hl:((es.take j).drop i).length=j-i:=by rw[List.length_drop,List.length_take];omega
 refine⟨_,_,by rw[hl],by omega,by omega,(fun h=>by cases h),?_⟩;rcases h3 with rfl | ⟨b',off',ha,hc⟩
 ·exact .inl (by simp)
 ·cases ha
  refine .inr ⟨b,off+i*4,rfl,fun k hk=>?_⟩;rw[hl] at hk;rw[zgv (by rw[List.length_take];omega),ziM (by omega) (by omega),show off+i*4+k*4=off+(i+k)*4 by omega];exact hc (i+k) (by omega)
theorem zpD(v:Value)(es:List Ent)(i j:Nat)(w:World)(hr:RdE w v es)(hij:i≤j)(hj:j≤es.length) :
 Calls Tryz.prog 197 #[v,.int .i64 i,.int .i64 j] w fun e w'=>∃ u,e=.returned u∧(∀ W,RdE W v es→RdE W u ((es.take j).drop i))∧w'=w:=by
 obtain⟨a,cap,hv,hl,hm,h0,h3⟩:=id hr;unfold maxLen at hm;subst hv;have hjc:j≤cap:=by omega
 rcases h3 with he | ⟨b,off,ha,hc⟩
 ·subst he;have hj0:j=0:=by simpa using hj
  subst hj0;have hi0:i=0:=by omega
  subst hi0;cases a with
  | none =>
   have hc0:=h0 rfl;subst hc0;go_enter Tryz.func197,Tryz.ntmps197
   go_wp2;go_ret;exact⟨_,rfl,fun W _=>rdE_nil W,rfl⟩
  | some ad =>
   go_enter Tryz.func197,Tryz.ntmps197
   go_wp2;go_ret;exact⟨_,rfl,fun W _=>zfc (fun h=>by cases h) (Nat.zero_le _) rfl,rfl⟩
 ·subst ha;go_enter Tryz.func197,Tryz.ntmps197
  go_wp2;all_goals go_ret
  ·exact⟨_,rfl,fun W _=>zfc (fun h=>by cases h) (Nat.zero_le _) rfl,rfl⟩
  ·exact⟨_,rfl,fun W hW=>rdE_mid hW hij hj,rfl⟩
theorem zfh(v:Value)(ps:List (Value×List Ent))(w:World)(hp:Pieces w v ps)(hl:(joinE ps).length≤1000000)(hpl:ps.length≤1000000) :
 Calls Tryz.prog 118 #[v] w fun e w'=>∃ u,e=.returned u∧OwnE w' w.heap.size u (joinE ps)∧Below w.heap.size w w':=by
 obtain⟨i0,hi,hz0,hz1,hz2⟩:=info_parts Tryz.info94;obtain⟨a,cap,hv,hla,hma⟩:∃ a cap,v=.slice a ps.length cap∧ps.length≤cap∧cap≤maxLen:=by
  rcases hp with ⟨rfl,rfl⟩ | ⟨b,off,cap,rfl,h1,h2,_⟩
  ·exact⟨none,0,rfl,Nat.le_refl _,Nat.zero_le _⟩
  ·exact⟨_,cap,rfl,h1,h2⟩
 unfold maxLen at hma;subst hv;obtain⟨N,hN⟩:∃ N,N=(joinE ps).length:=⟨_,rfl⟩;have HN:Hid (N=(joinE ps).length):=hN;have hNl:N≤1000000:=by omega
 clear hN;have at':∀ k,k<ps.length→∀ w',Below w.heap.size w w'→∃ b off u zs,a=some ⟨b,off,none⟩∧w'.cell? ⟨b,off+k,none⟩=some u∧RdE w' u zs∧joinE (ps.take (k+1))=joinE (ps.take k)++zs∧∃ aa cc,u=.slice aa zs.length cc:=by
  intro k hk w' hb;rcases hp.below hb with ⟨h,he⟩ | ⟨b,off,cap',hv,_,_,hc⟩
  ·subst he;simp at hk
  ·simp only[Value.slice.injEq] at hv;obtain⟨rfl,_,_⟩:=hv;obtain⟨aa,cc,hu,_⟩:=id (hc k hk).2;exact⟨b,off,_,_,rfl,(hc k hk).1,(hc k hk).2,znS ps k hk,aa,cc,hu⟩
 have AT:Hid (∀ k,k<ps.length→∀ w',Below w.heap.size w w'→∃ b off u zs,a=some ⟨b,off,none⟩∧w'.cell? ⟨b,off+k,none⟩=some u∧RdE w' u zs∧joinE (ps.take (k+1))=joinE (ps.take k)++zs∧∃ aa cc,u=.slice aa zs.length cc):=at';clear at' hp;go_enter Tryz.func118,Tryz.ntmps118
 go_wp2;go_loop [3,12] (fun s i=>∃ k m:Nat,k≤ps.length∧i=.int .i64 k∧s=.int .i64 m∧m≤1000000∧Hid (m=(joinE (ps.take k)).length)) (fun _ i=>ps.length-(intOf i).toNat)
 case atStart=>exact⟨0,0,Nat.zero_le _,rfl,rfl,by omega,by simp[Hid,joinE]⟩
 case round =>
  obtain⟨k,m,hk,rfl,rfl,hml,HM⟩:=hrel;by_cases hlt:k<ps.length
  ·skip
   obtain⟨b,off,u,zs,rfl,hc,hru,hj,aa,cc,rfl⟩:=AT.out k hlt w (Below.refl _ _);have hle:=zmh ps (k+1);have HM2:Hid (m+zs.length=(joinE (ps.take (k+1))).length):=by unfold Hid;rw[hj,List.length_append,← HM.out]
   have hzl:m+zs.length≤1000000:=by have:=HM2.out;omega
   clear hj hle;go_wp2;go_round
   case rel=>exact⟨k+1,m+zs.length,by omega,by go_num,by go_num,hzl,HM2⟩
   case measure=>simp[intOf];omega
  ·skip
   have hke:k=ps.length:=by omega
   have hmN:m=N:=by rw[HM.out,HN.out,hke,List.take_length]
   subst hmN;clear hke;go_wp2_with (at_make;(refine wpList_make_full _ rfl _ _ 31 rfl w.heap.size 94 i0 _ 4 Tryz.underlying31 hi hz0 hz1 .i64 .i64 (m:Int) (m:Int) m rfl rfl rfl rfl ?c1 ?c2 ?c3 ?_))
   case c1=>first | omega | (rw[hz2];omega)
   case c2=>unfold maxLen;omega
   intro w1 ho1 hg1;rw[made_EV] at ho1;have hb1:Below w.heap.size w w1:=(Below.refl _ _).grown hg1 (Nat.le_refl _) (fun k hk=>by cases hk);have hh1:=zlj (by rw[List.length_replicate]) ho1;clear hg1 ho1;go_wp2;go_loopw [7,25] (fun s i wr=>∃ k t:Nat,k≤ps.length∧i=.int .i64 k∧s=.int .i64 t∧t≤m∧Hid (t=(joinE (ps.take k)).length)∧Hid (wr.heap[w.heap.size]? = some (.cells (EV (joinE (ps.take k)++List.replicate (m-t) zeroE)).toArray 94 (0,0)))∧Below w.heap.size w wr) (fun _ i _=>ps.length-(intOf i).toNat)
   case atStart=>exact⟨0,0,Nat.zero_le _,rfl,rfl,Nat.zero_le _,by simp[Hid,joinE],by simpa [Hid,joinE] using hh1,hb1⟩
   case round =>
    obtain⟨k,t,hk,rfl,rfl,htm,HT,HH,hb⟩:=hrel;clear hh1 hb1;by_cases hlt:k<ps.length
    ·obtain⟨b,off,u,zs,rfl,hc,hru,hj,aa,cc,rfl⟩:=AT.out k hlt wr hb;have hle:=zmh ps (k+1);have HT2:Hid (t+zs.length=(joinE (ps.take (k+1))).length):=by unfold Hid;rw[hj,List.length_append,← HT.out]
     have htz:t+zs.length≤m:=by have:=HT2.out;have:=HN.out;omega
     have HJ:Hid (joinE (ps.take (k+1))=joinE (ps.take k)++zs):=hj;clear hj hle;by_cases hmt:m=t
     ·subst hmt;have REST:Hid (splice (EV (joinE (ps.take k)++List.replicate (m-m) zeroE)) (m*4) (EV zs)=EV (joinE (ps.take (k+1))++List.replicate (m-(m+zs.length)) zeroE)):=by
       unfold Hid;have hh:=zhu (joinE (ps.take k)) zs (List.replicate (m-m) zeroE) (by rw[List.length_replicate];omega);rw[← HT.out] at hh;rw[hh,HJ.out,List.drop_replicate,Nat.sub_sub]
      obtain⟨C,hC⟩:∃ C,C=EV (joinE (ps.take k)++List.replicate (m-m) zeroE):=⟨_,rfl⟩;rw[← hC] at REST;have HH':=HH.out;rw[← hC] at HH';have hcl:C.length=m*4:=by
       rw[hC];rw[zan,List.length_append,List.length_replicate,← HT.out];omega
      have HCL:Hid (C.length=m*4):=hcl;have HHH:Hid (wr.heap[w.heap.size]? = _):=HH';clear hC hcl HH' HH;go_wp2_with ((refine zc5 rfl (.tmp 32) (.tmp 33) rfl _ _ _ _ rfl rfl w.heap.size (m*4) C zs ?d1 ?d2 ?d3 ?d4 ?d5 ?_))
      case d1=>exact HHH.out
      case d2=>exact hru
      case d3=>intro h;omega
      case d4=>omega
      case d5=>rw[HCL.out];omega
      intro w2 hh2 hg2;rw[REST.out] at hh2;have bz:=hb.grown hg2 hb.size (fun k hk=>by cases hk;exact Nat.le_refl _);clear REST HCL HHH hb hg2 hru hc;go_wp2;go_roundw
      case rel=>exact⟨k+1,m+zs.length,by omega,by go_num,by first | go_num | simp[goInt],htz,HT2,hh2,bz⟩
      case measure=>simp[intOf];omega
     ·skip
      have REST:Hid (splice (EV (joinE (ps.take k)++List.replicate (m-t) zeroE)) (t*4) (EV zs)=EV (joinE (ps.take (k+1))++List.replicate (m-(t+zs.length)) zeroE)):=by
       unfold Hid;have hh:=zhu (joinE (ps.take k)) zs (List.replicate (m-t) zeroE) (by rw[List.length_replicate];omega);rw[← HT.out] at hh;rw[hh,HJ.out,List.drop_replicate,Nat.sub_sub]
      obtain⟨C,hC⟩:∃ C,C=EV (joinE (ps.take k)++List.replicate (m-t) zeroE):=⟨_,rfl⟩;rw[← hC] at REST;have HH':=HH.out;rw[← hC] at HH';have hcl:C.length=m*4:=by
       rw[hC];rw[zan,List.length_append,List.length_replicate,← HT.out];omega
      have HCL:Hid (C.length=m*4):=hcl;have HHH:Hid (wr.heap[w.heap.size]? = _):=HH';clear hC hcl HH' HH;go_wp2_with ((refine zc5 rfl (.tmp 32) (.tmp 33) rfl _ _ _ _ rfl rfl w.heap.size (t*4) C zs ?d1 ?d2 ?d3 ?d4 ?d5 ?_))
      case d1=>exact HHH.out
      case d2=>exact hru
      case d4=>omega
      case d5=>rw[HCL.out];omega
      intro w2 hh2 hg2;rw[REST.out] at hh2;have bz:=hb.grown hg2 hb.size (fun k hk=>by cases hk;exact Nat.le_refl _);clear REST HCL HHH hb hg2 hru hc;go_wp2;go_roundw
      case rel=>exact⟨k+1,t+zs.length,by omega,by go_num,by first | go_num | simp[goInt],htz,HT2,hh2,bz⟩
      case measure=>simp[intOf];omega
    ·have hke:k=ps.length:=by omega
     have htN:t=m:=by rw[HT.out,HN.out,hke,List.take_length]
     subst htN;have R1:OwnE wr w.heap.size (.slice (some ⟨w.heap.size,0,none⟩) t t) (joinE ps):=by
      refine zl6 HN.out (Nat.le_refl _) (by unfold maxLen;omega) ?_;have h:=HH.out;rw[hke,List.take_length,Nat.sub_self,List.replicate_zero,List.append_nil] at h;exact h
     clear hke HH;go_wp2;go_ret;exact⟨_,rfl,R1,hb⟩
open Go.RowKit
theorem zfj(W:World)(x:Ent)(t:TypeId):EntAt (W.alloc (.cells #[.string x.key,.string x.val,.int .i64 x.seq,.bool x.gone] t)) W.heap.size 0 x :=
 ⟨by simp[World.cell?_alloc_at],by simp[World.cell?_alloc_at],by simp[World.cell?_alloc_at],by simp[World.cell?_alloc_at]⟩
theorem rdE_oneS{w:World}{b:Nat}{x:Ent}(h:EntAt w b 0 x):RdE w (.slice (some ⟨b,0,none⟩) 1 1) [x] :=
 ⟨_,1,rfl,Nat.le_refl _,by decide,(fun h=>by cases h),.inr ⟨b,0,rfl,fun i hi=>by
  have:i=0:=by simpa using hi
  subst this;exact h⟩⟩
def zdI(w:World)(ys:List Ent)(e:Ending)(w':World):Prop :=
 ∃ u,e=.returned u∧OwnE w' w.heap.size u ys∧Below w.heap.size w w'
end Go.Proofs.YtannfbpohhnnkaaGreatDoor
