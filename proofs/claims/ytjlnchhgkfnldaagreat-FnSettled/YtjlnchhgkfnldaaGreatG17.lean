import Derived.Test.YtjlnchhgkfnldaaGreatG16
import Derived.Maps.AppendAt
namespace Go.Proofs.YtjlnchhgkfnldaaGreat
set_option maxHeartbeats 16000000
set_option maxRecDepth 100000
open Go.RowKit
theorem InT.mono{w:World}{B B':Nat}{ts:List TV}(h:InT w B ts)(hb:B'≤B):InT w B' ts:=fun t ht=>⟨(h t ht).1.mono hb,(h t ht).2.mono hb⟩
theorem OwnT.mono{w:World}{B B':Nat}{v:Value}{ts:List TV}(h:OwnT w B v ts)(hb:B'≤B):OwnT w B' v ts:=by
 refine⟨h.1,?_⟩;rcases h.2 with h2 | ⟨g,cap,cur,hv,hg,r⟩
 ·exact .inl h2
 ·exact .inr ⟨g,cap,cur,hv,nT hb hg,r⟩
def Off(b:Nat)(ts:List TV):Prop:=∀ t∈ts,∀ k,t.vb.ownBlock=some k→b≠k
theorem InT.ints{w w':World}{B b:Nat}{ts:List TV}{v:Value}(h:InT w B ts){B':Nat}(hv:OwnI w B' v [])(hb:v.ownBlock=some b)(ho:Off b ts)(hg:w.grownBy w' v.ownBlock):InT w' B ts:=fun t ht =>
 ⟨zl (h t ht).1 hg (fun k hk e=>by rw[hb] at e;exact ho t ht k hk (Option.some.inj e)),zl (h t ht).2 hg (fun k hk e=>zh (h t ht).2 hv (by decide) k hk e)⟩
theorem zgp(ty:TypeId){w:World}{base:Nat}{v u:Value}{ys zs:List Int}(hown:OwnI w base v ys)(hr:RdI w u zs)(hl:ys.length+zs.length≤1000000000)(hbase:base≤w.heap.size) :
 ∃ v' w',(Builtin.append_ #[26,26] ty #[v,u]).run Tryz.prog w=.ok v' w'∧OwnI w' base v' (ys++zs)∧w.grownBy w' v.ownBlock∧(v'.ownBlock=v.ownBlock∨v'.ownBlock=some w.heap.size):=by
 obtain⟨i0,hi,hz0,hz1,hz2⟩:=info_parts Tryz.info2;obtain⟨a,cap,rfl,h1,h2,h0,h3⟩:=hr;have row:∀ ad,(∀ j u,(IV zs)[j]? = some u→w.cell? (ad.add j)=some u)→∃ v' w',(Builtin.append_ #[26,26] ty #[v,.slice (some ad) zs.length cap]).run Tryz.prog w=.ok v' w'∧OwnI w' base v' (ys++zs)∧w.grownBy w' v.ownBlock∧(v'.ownBlock=v.ownBlock∨v'.ownBlock=some w.heap.size):=by
  intro ad hc;obtain⟨v',w',hrun,r1,r2,_,r3⟩:=run_append_own_at (P:=Tryz.prog) w base 26 ty 2 i0 _ 1 8 Tryz.underlying26 hi hz0 hz1 hz2 rfl (by decide) v ys.length (IV ys) hown ad zs.length cap (IV zs) (by rw[zeM];omega) hc (zhz zs) (by unfold maxLen;omega) (by omega) hbase;exact⟨v',w',hrun,zkc r1,r2,r3⟩
 cases a with
 | some ad =>
  refine row ad ?_;rcases h3 with rfl | ⟨b,off,ha,hc⟩
  ·intro j u hj;simp[IV] at hj
  ·cases ha
   intro j u hj;have hjl:j<zs.length:=(by have:=(List.getElem?_eq_some_iff.1 hj).1;rwa [zeM] at this);rw[zlt zs j hjl] at hj;cases hj
   rw[Addr.add_lit];exact hc j hjl
 | none =>
  have hc0:=h0 rfl;subst hc0;rcases h3 with rfl | ⟨b,off,ha,hc⟩
  ·refine⟨v,w,run_append_owned_none (P:=Tryz.prog) w base 26 ty 2 i0 1 Tryz.underlying26 hi v ys.length (IV ys) hown,by simpa using hown,⟨rfl,rfl,rfl,nR _,fun _ _ _=>rfl⟩,.inl rfl⟩
  ·cases ha
theorem zaE{w:World}{ops:Array Oper}{o:Oper}{a:Act}{K:Act→World→Prop}{Q:Exit→Act→World→Prop}{E:Prop}(hgd:o.guard=none)(d:Nat)(hd:o.dst=some d)(s x:Operand)
 (ho:o.op=.call { callee:=.builtin .append,args:=#[s,x],argTypes:=#[26,26] }) (base:Nat) (v u:Value) (ys zs:List Int) (hs:a.eval s=v) (hx:a.eval x=u) (hown:OwnI w base v ys) (hr:RdI w u zs) (hl:ys.length+zs.length≤1000000000) (hbase:base≤w.heap.size)
 (h:∀ v' w',OwnI w' base v' (ys++zs)→w.grownBy w' v.ownBlock→(v'.ownBlock=v.ownBlock∨v'.ownBlock=some w.heap.size)→K (a.put (some d) v') w') :
 if Region.wanted o (yielded ops a.tmps)=true then Oper.wp Tryz.prog o a w K Q else E:=by
 have hw:Region.wanted o (yielded ops a.tmps)=true:=by simp[Region.wanted,hgd]
 rw[if_pos hw];obtain⟨v',w',hrun,r1,r2,r3⟩:=zgp o.type hown hr hl hbase;unfold Oper.wp;simp[execOp,ho,resolve,invoke,builtin,hs,hx,hrun,Result.andThen];have h':=h v' w' r1 r2 r3;rw[← hd] at h';exact h'
structure OwnTr (w:World) (B:Nat) (Y:TrX):Prop where
 mem:OwnE w B Y.vm Y.mem
 young:OwnT w B Y.vy Y.ys
 youngs:InT w B Y.ys
 old:OwnT w B Y.vo Y.os
 olds:InT w B Y.os
 snaps:OwnI w B Y.vs Y.snaps
 apart:∀ b,Y.vs.ownBlock=some b→Off b Y.ys∧Off b Y.os
 two:∀ k,Y.vy.ownBlock=some k→Y.vo.ownBlock≠some k
structure SizTr (X:TrX):Prop where
 mem:X.mem.length≤1000000000
 young:X.ys.length≤1000000
 old:X.os.length≤1000000
 snaps:X.snaps.length≤1000000000
 youngs:∀ t∈X.ys,t.T.bits.length≤1000000000∧t.T.blocks.length≤1000000000∧NilOk t.vk
 olds:∀ t∈X.os,t.T.bits.length≤1000000000∧t.T.blocks.length≤1000000000∧NilOk t.vk
def BoxTr(w:World)(b:Nat)(vm vy vo:Value)(q:Int)(vs:Value):Prop:=w.heap[b]? = some (.cells #[vm,vy,vo,.int .i64 q,vs] 28 (0,0))
theorem BoxTr.lt{w:World}{b:Nat}{vm vy vo vs:Value}{q:Int}(h:BoxTr w b vm vy vo q vs):b<w.heap.size:=(Array.getElem?_eq_some_iff.1 h).1
theorem BoxTr.below{w w':World}{b B:Nat}{vm vy vo vs:Value}{q:Int}(h:BoxTr w b vm vy vo q vs)(hb:Below B w w')(hB:b<B):BoxTr w' b vm vy vo q vs:=(hb.block b hB).trans h
theorem BoxTr.facts{w:World}{b:Nat}{vm vy vo vs:Value}{q:Int}(h:BoxTr w b vm vy vo q vs):w.cell? ⟨b,0,none⟩=some vm∧w.cell? ⟨b,1,none⟩=some vy∧w.cell? ⟨b,2,none⟩=some vo∧w.cell? ⟨b,3,none⟩=some (.int .i64 q)∧w.cell? ⟨b,4,none⟩=some vs ∧
 w.frozen? ⟨b,0,none⟩=false∧w.frozen? ⟨b,1,none⟩=false∧w.frozen? ⟨b,2,none⟩=false∧w.frozen? ⟨b,3,none⟩=false∧w.frozen? ⟨b,4,none⟩=false:=by
 unfold BoxTr at h;refine⟨?_,?_,?_,?_,?_,?_,?_,?_,?_,?_⟩<;>simp[World.cell?,World.frozen?,h]
def put5(w:World)(b:Nat)(u0 u1 u2 u3 u4:Value):World:=((((w.setCell ⟨b,0,none⟩ u0).setCell ⟨b,1,none⟩ u1).setCell ⟨b,2,none⟩ u2).setCell ⟨b,3,none⟩ u3).setCell ⟨b,4,none⟩ u4
theorem zt{w:World}{B t s n c:Nat}{v u0 u1 u2 u3 u4:Value}{xs:List Value}(ho:w.ownsRow B t s v n xs)(hc:c<B):(put5 w c u0 u1 u2 u3 u4).ownsRow B t s v n xs:=zaC (zaC (zaC (zaC (zaC ho hc) hc) hc) hc) hc
theorem InT.put5{w:World}{B c:Nat}{u0 u1 u2 u3 u4:Value}{ts:List TV}(h:InT w B ts)(hc:c<B):InT (put5 w c u0 u1 u2 u3 u4) B ts:=fun t ht=>⟨zt (h t ht).1 hc,zt (h t ht).2 hc⟩
theorem zF{w:World}{b:Nat}{vm vy vo vs:Value}{q:Int}(h:BoxTr w b vm vy vo q vs)(u0 u1 u2 u4:Value)(r:Int):BoxTr (put5 w b u0 u1 u2 (.int .i64 r) u4) b u0 u1 u2 r u4:=by
 unfold BoxTr at h ⊢;have h0:=heap_setCell_same w b 0 _ _ u0 h;have h1:=heap_setCell_same _ b 1 _ _ u1 h0;have h2:=heap_setCell_same _ b 2 _ _ u2 h1;have h3:=heap_setCell_same _ b 3 _ _ (.int .i64 r) h2;exact heap_setCell_same _ b 4 _ _ u4 h3
theorem zaU{w:World}{b c:Nat}{X:TrX}{u0 u1 u2 u3 u4:Value}(h:TreAt w b X)(hne:b≠c):TreAt (put5 w c u0 u1 u2 u3 u4) b X :=
 h.of_block ((heap_setCell_other _ ⟨c,4,none⟩ b u4 hne).trans ((heap_setCell_other _ ⟨c,3,none⟩ b u3 hne).trans ((heap_setCell_other _ ⟨c,2,none⟩ b u2 hne).trans ((heap_setCell_other _ ⟨c,1,none⟩ b u1 hne).trans (heap_setCell_other w ⟨c,0,none⟩ b u0 hne)))))
theorem zR{a w:World}{B c:Nat}{u0 u1 u2 u3 u4:Value}(h:Below B a w)(hc:B≤c):Below B a (put5 w c u0 u1 u2 u3 u4):=((((h.setCell hc _).setCell hc _).setCell hc _).setCell hc _).setCell hc _
def zbO(w:World)(X:TrX)(e:Ending)(w':World):Prop :=
 ∃ Y:TrX,e=.returned (.agg #[Y.vm,Y.vy,Y.vo,.int .i64 Y.seq,Y.vs])∧Y.tre=X.tre∧OwnTr w' w.heap.size Y∧Below w.heap.size w w'
theorem zdV(X:TrX)(w:World)(hx:RdTr w X)(hs:SizTr X) :
 Calls Tryz.prog 37 #[.agg #[X.vm,X.vy,X.vo,.int .i64 X.seq,X.vs]] w fun e w'=>zbO w X e w':=by
 have ht0:=zam w X 28;have b0:=ze w (.cells #[X.vm,X.vy,X.vo,.int .i64 X.seq,X.vs] 28);obtain⟨V0,hV0⟩:∃ V0,V0=w.alloc (.cells #[X.vm,X.vy,X.vo,.int .i64 X.seq,X.vs] 28):=⟨_,rfl⟩;have s0:V0.heap.size=w.heap.size+1:=by rw[hV0];simp
 rw[← hV0] at ht0 b0;have b1:=ze V0 (.cells #[.slice none 0 0,.slice none 0 0,.slice none 0 0,.int .i64 0,.slice none 0 0] 28);have hz:BoxTr (V0.alloc (.cells #[.slice none 0 0,.slice none 0 0,.slice none 0 0,.int .i64 0,.slice none 0 0] 28)) (w.heap.size+1) (.slice none 0 0) (.slice none 0 0) (.slice none 0 0) 0 (.slice none 0 0):=by rw[← s0];exact heap_alloc_new V0 _
 have ht1:=ht0.below b1;obtain⟨W0,hW0⟩:∃ W0,W0=V0.alloc (.cells #[.slice none 0 0,.slice none 0 0,.slice none 0 0,.int .i64 0,.slice none 0 0] 28):=⟨_,rfl⟩;have s1:W0.heap.size=w.heap.size+2:=by rw[hW0];simp[s0]
 rw[← hW0] at hz b1 ht1;have bw:Below w.heap.size w W0:=b0.trans (b1.mono (by omega));have hx0:=hx.below bw;have HY:Hid (∀ W,RdTs W X.vy X.ys→Calls Tryz.prog 79 #[X.vy] W fun e w'=>ziz W X.ys e w'):=fun W h=>zfB X.vy X.ys W h hs.young hs.youngs
 have HO:Hid (∀ W,RdTs W X.vo X.os→Calls Tryz.prog 79 #[X.vo] W fun e w'=>ziz W X.os e w'):=fun W h=>zfB X.vo X.os W h hs.old hs.olds
 have hsm:=hs.mem;have hsn:=hs.snaps;clear ht0 b0 b1 s0;go_enter Tryz.func37,Tryz.ntmps37
 go_wp2_with fail
 rw[← hV0,← hW0];clear hV0 hW0;refine brg (S:=fun W=>W.cell? ⟨w.heap.size,0,none⟩=some X.vm∧W.cell? ⟨w.heap.size,1,none⟩=some X.vy∧W.cell? ⟨w.heap.size,2,none⟩=some X.vo∧W.cell? ⟨w.heap.size,3,none⟩=some (.int .i64 X.seq)∧W.cell? ⟨w.heap.size,4,none⟩=some X.vs) ht1 (fun hS=>?_);have qb:Below (w.heap.size+2) W0 W0.drew:=(Below.refl _ _).drew;refine kA 1 4 hS ?_;refine kA 2 5 hS ?_;refine kA 4 7 hS ?_;refine kA 5 8 hS ?_;refine kA 7 10 hS ?_;refine kA 8 11 hS ?_;refine kA 10 13 hS ?_;refine kA 11 14 hS ?_;refine kA 13 16 hS ?_;refine kA 14 17 hS ?_;have hBV:w.heap.size+2≤W0.drew.heap.size:=by show w.heap.size+2≤W0.heap.size;omega
 generalize W0.drew=V at qb hS hBV ⊢;refine wpAnyH_ready (rs:=[0,12]) (by kernel_rfl) (by simp) ?_;refine arc (fun K hK=>?_) ?_
 ·skip
  refine za0 rfl 3 rfl 40 4 (by go_simp;(try rfl)) ?_;intro bE V1 hm qE0 hge hlt;replace qE0:OwnE V1 (w.heap.size+2) (.slice (some ⟨bE,0,none⟩) 0 0) []:=OwnE.mono qE0 hBV;replace qb:=qb.trans (hm.mono hBV);replace hBV:=nT hBV hm.size;clear hge hlt hm;clear hS;have htV:TreAt V1 w.heap.size X:=ht1.of_block (qb.block w.heap.size (by omega));refine hK.out _ _ htV (fun hS2=>?_);clear hK K htV;try simp only[Act.put,sA,sZ,sS]
  refine wpAnyH_ready (rs:=[3,12]) (by kernel_rfl) (by simp) ?_;refine arc (fun K hK=>?_) ?_
  ·skip
   refine zS rfl 6 rfl _ _ rfl (w.heap.size+2) (.slice (some ⟨bE,0,none⟩) 0 0) X.vm [] X.mem rfl rfl qE0 ((hx0.mem).below (by rw[s1];exact qb)) (by simp;omega) hBV ?_;intro vE V3 qE hg;rw[List.nil_append] at qE;replace qb:=qb.grown hg hBV (fun k hk=>(oL qE0 k hk).1);replace hBV:=nT hBV hg.size;clear qE0 hg;clear hS2;have htV:TreAt V3 w.heap.size X:=ht1.of_block (qb.block w.heap.size (by omega));refine hK.out _ _ htV (fun hS4=>?_);clear hK K htV;try simp only[Act.put,sA,sZ,sS]
   refine wpAnyH_ready (rs:=[6,12]) (by kernel_rfl) (by simp) ?_;refine arc (fun K hK=>?_) ?_
   ·skip
    go_simp;refine(HY.out _ ((hx0.young).below (by rw[s1];exact qb))).mono ?_;rintro e V5 ⟨vY,usY,rfl,hYe,qY,qYI,hm⟩;replace qY:=qY.mono hBV;replace qYI:=qYI.mono hBV;replace qE:=qE.below hm;replace qb:=qb.trans (hm.mono hBV);replace hBV:=nT hBV hm.size;clear hm;clear hS4;have htV:TreAt V5 w.heap.size X:=ht1.of_block (qb.block w.heap.size (by omega));refine hK.out _ _ htV (fun hS6=>?_);clear hK K htV;try simp only[Act.put,sA,sZ,sS]
    refine wpAnyH_ready (rs:=[9,12]) (by kernel_rfl) (by simp) ?_;refine arc (fun K hK=>?_) ?_
    ·skip
     go_simp;refine(HO.out _ ((hx0.old).below (by rw[s1];exact qb))).mono ?_;rintro e V7 ⟨vO,usO,rfl,hOe,qO,qOI,hm⟩;have htw:∀ k,vY.ownBlock=some k→vO.ownBlock≠some k:=fun k hk e=>by have:=(oL qY k hk).2;have:=(oL qO k e).1;omega
     replace qO:=qO.mono hBV;replace qOI:=qOI.mono hBV;replace qE:=qE.below hm;replace qY:=qY.below hm;replace qYI:=qYI.below hm;replace qb:=qb.trans (hm.mono hBV);replace hBV:=nT hBV hm.size;clear hm;clear hS6;have htV:TreAt V7 w.heap.size X:=ht1.of_block (qb.block w.heap.size (by omega));refine hK.out _ _ htV (fun hS8=>?_);clear hK K htV;try simp only[Act.put,sA,sZ,sS]
     refine rdy 12 (fun K hK=>?_);refine za0 rfl 15 rfl 2 1 (by go_simp;(try rfl)) ?_;intro b12 V9 hm q12 hge hlt;replace q12:OwnI V9 (w.heap.size+2) (.slice (some ⟨b12,0,none⟩) 0 0) []:=OwnI.mono q12 hBV;have hY12:Off b12 usY:=fun t ht k hk e=>by have:=(oL (qYI t ht).1 k hk).2;omega
     have hO12:Off b12 usO:=fun t ht k hk e=>by have:=(oL (qOI t ht).1 k hk).2;omega
     replace qE:=qE.below hm;replace qY:=qY.below hm;replace qYI:=qYI.below hm;replace qO:=qO.below hm;replace qOI:=qOI.below hm;replace qb:=qb.trans (hm.mono hBV);replace hBV:=nT hBV hm.size;clear hge hlt hm;clear hS8;have htV:TreAt V9 w.heap.size X:=ht1.of_block (qb.block w.heap.size (by omega));refine hK.out _ _ htV (fun hS10=>?_);clear hK K htV;try simp only[Act.put,sA,sZ,sS]
     refine rdy 15 (fun K hK=>?_);refine zaE rfl 18 rfl _ _ rfl (w.heap.size+2) (.slice (some ⟨b12,0,none⟩) 0 0) X.vs [] X.snaps rfl rfl q12 ((hx0.snaps).below (by rw[s1];exact qb)) (by simp;omega) hBV ?_;intro vS V11 qS hg hat;rw[List.nil_append] at qS;have hap:∀ b,vS.ownBlock=some b→Off b usY∧Off b usO:=fun b hb=>by
      rcases hat with hat | hat
      ·rw[hat] at hb;obtain rfl:b12=b:=Option.some.inj hb;exact⟨hY12,hO12⟩
      ·rw[hat] at hb;obtain rfl:=Option.some.inj hb;exact⟨fun t ht k hk e=>by have:=(oL (qYI t ht).1 k hk).2;omega,fun t ht k hk e=>by have:=(oL (qOI t ht).1 k hk).2;omega⟩
     clear hat;replace qE:OwnE V11 (w.heap.size+2) vE X.mem:=zl qE hg (fun k hk e=>zh qE q12 (by decide) k hk e);replace qY:OwnT V11 (w.heap.size+2) vY usY:=zl qY hg (fun k hk e=>zh qY q12 (by decide) k hk e);replace qYI:=qYI.ints q12 rfl hY12 hg;replace qO:OwnT V11 (w.heap.size+2) vO usO:=zl qO hg (fun k hk e=>zh qO q12 (by decide) k hk e);replace qOI:=qOI.ints q12 rfl hO12 hg;replace qb:=qb.grown hg hBV (fun k hk=>(oL q12 k hk).1);replace hBV:=nT hBV hg.size;clear q12 hg;clear hS10;have htV:TreAt V11 w.heap.size X:=ht1.of_block (qb.block w.heap.size (by omega));refine hK.out _ _ htV (fun hS12=>?_);clear hK K htV;try simp only[Act.put,sA,sZ,sS]
     obtain⟨aE,cE,heE,-⟩:=id qE.rd;obtain⟨aY,cY,heY,-⟩:=id (qY.rd qYI);obtain⟨aO,cO,heO,-⟩:=id (qO.rd qOI);obtain⟨aS,cS,heS,-⟩:=id qS.rd;subst heE;subst heY;subst heO;subst heS;refine kA 16 19 hS12 ?_;have hzV:BoxTr V11 (w.heap.size+1) (.slice none 0 0) (.slice none 0 0) (.slice none 0 0) 0 (.slice none 0 0):=hz.below qb (by omega);have htV:TreAt V11 w.heap.size X:=ht1.of_block (qb.block w.heap.size (by omega));obtain⟨y0,y1,y2,y3,y4,g0,g1,g2,g3,g4⟩:=hzV.facts;refine rdy 17 (fun K hK=>?_);go_simp;refine hK.out _ _ (zaU (u0:=.slice aE X.mem.length cE) (u1:=.slice aY usY.length cY) (u2:=.slice aO usO.length cO) (u3:=.int .i64 X.seq) (u4:=.slice aS X.snaps.length cS) htV (by omega)) (fun hSf=>?_);clear hK K;refine dne ?_;have HF:Hid (zbO w X (.returned (.agg #[.slice aE X.mem.length cE,.slice aY usY.length cY,.slice aO usO.length cO,.int .i64 X.seq,.slice aS X.snaps.length cS])) (put5 V11 (w.heap.size+1) (.slice aE X.mem.length cE) (.slice aY usY.length cY) (.slice aO usO.length cO) (.int .i64 X.seq) (.slice aS X.snaps.length cS))):=by
      refine⟨⟨.slice aE X.mem.length cE,.slice aY usY.length cY,.slice aO usO.length cO,.slice aS X.snaps.length cS,X.mem,usY,usO,X.seq,X.snaps⟩,rfl,?_,⟨?_,?_,?_,?_,?_,?_,hap,htw⟩,?_⟩
      ·unfold TrX.tre;simp only;rw[hYe,hOe]
      ·exact OwnE.mono (zt qE (by omega)) (by omega)
      ·exact OwnT.mono (zt qY (by omega)) (by omega)
      ·exact InT.mono (qYI.put5 (by omega)) (by omega)
      ·exact OwnT.mono (zt qO (by omega)) (by omega)
      ·exact InT.mono (qOI.put5 (by omega)) (by omega)
      ·exact OwnI.mono (zt qS (by omega)) (by omega)
      ·exact zR (bw.trans (qb.mono (by omega))) (by omega)
     have hzF:=zF hzV (.slice aE X.mem.length cE) (.slice aY usY.length cY) (.slice aO usO.length cO) (.slice aS X.snaps.length cS) X.seq;obtain⟨f0,f1,f2,f3,f4,-,-,-,-,-⟩:=hzF.facts;clear y0 y1 y2 y3 y4 g0 g1 g2 g3 g4 hzF hSf htV hzV qb hBV;unfold put5 at f0 f1 f2 f3 f4;go_wp2;exact bodyPost_ret (v:=.agg #[.slice aE X.mem.length cE,.slice aY usY.length cY,.slice aO usO.length cO,.int .i64 X.seq,.slice aS X.snaps.length cS]) (by simp[results,Tryz.results37,go_sem,f0,f1,f2,f3,f4]) rfl HF.out
    refine AllReadyH.cons rfl (fun K hK=>?_) AllReadyH.nil;refine za0 rfl 15 rfl 2 1 (by go_simp;(try rfl)) ?_;intro b12 V13 hm q12 hge hlt;replace q12:OwnI V13 (w.heap.size+2) (.slice (some ⟨b12,0,none⟩) 0 0) []:=OwnI.mono q12 hBV;have hY12:Off b12 usY:=fun t ht k hk e=>by have:=(oL (qYI t ht).1 k hk).2;omega
    replace qE:=qE.below hm;replace qY:=qY.below hm;replace qYI:=qYI.below hm;replace qb:=qb.trans (hm.mono hBV);replace hBV:=nT hBV hm.size;clear hge hlt hm;clear hS6;have htV:TreAt V13 w.heap.size X:=ht1.of_block (qb.block w.heap.size (by omega));refine hK.out _ _ htV (fun hS14=>?_);clear hK K htV;try simp only[Act.put,sA,sZ,sS]
    refine rdy 9 (fun K hK=>?_);go_simp;refine(HO.out _ ((hx0.old).below (by rw[s1];exact qb))).mono ?_;rintro e V15 ⟨vO,usO,rfl,hOe,qO,qOI,hm⟩;have htw:∀ k,vY.ownBlock=some k→vO.ownBlock≠some k:=fun k hk e=>by have:=(oL qY k hk).2;have:=(oL qO k e).1;omega
    have hO12:Off b12 usO:=fun t ht k hk e=>by have:=(oL (qOI t ht).1 k hk).1;have:=(oL q12 b12 rfl).2;omega
    replace qO:=qO.mono hBV;replace qOI:=qOI.mono hBV;replace qE:=qE.below hm;replace qY:=qY.below hm;replace qYI:=qYI.below hm;replace q12:=q12.below hm;replace qb:=qb.trans (hm.mono hBV);replace hBV:=nT hBV hm.size;clear hm;clear hS14;have htV:TreAt V15 w.heap.size X:=ht1.of_block (qb.block w.heap.size (by omega));refine hK.out _ _ htV (fun hS16=>?_);clear hK K htV;try simp only[Act.put,sA,sZ,sS]
    refine rdy 15 (fun K hK=>?_);refine zaE rfl 18 rfl _ _ rfl (w.heap.size+2) (.slice (some ⟨b12,0,none⟩) 0 0) X.vs [] X.snaps rfl rfl q12 ((hx0.snaps).below (by rw[s1];exact qb)) (by simp;omega) hBV ?_;intro vS V17 qS hg hat;rw[List.nil_append] at qS;have hap:∀ b,vS.ownBlock=some b→Off b usY∧Off b usO:=fun b hb=>by
     rcases hat with hat | hat
     ·rw[hat] at hb;obtain rfl:b12=b:=Option.some.inj hb;exact⟨hY12,hO12⟩
     ·rw[hat] at hb;obtain rfl:=Option.some.inj hb;exact⟨fun t ht k hk e=>by have:=(oL (qYI t ht).1 k hk).2;omega,fun t ht k hk e=>by have:=(oL (qOI t ht).1 k hk).2;omega⟩
    clear hat;replace qE:OwnE V17 (w.heap.size+2) vE X.mem:=zl qE hg (fun k hk e=>zh qE q12 (by decide) k hk e);replace qY:OwnT V17 (w.heap.size+2) vY usY:=zl qY hg (fun k hk e=>zh qY q12 (by decide) k hk e);replace qYI:=qYI.ints q12 rfl hY12 hg;replace qO:OwnT V17 (w.heap.size+2) vO usO:=zl qO hg (fun k hk e=>zh qO q12 (by decide) k hk e);replace qOI:=qOI.ints q12 rfl hO12 hg;replace qb:=qb.grown hg hBV (fun k hk=>(oL q12 k hk).1);replace hBV:=nT hBV hg.size;clear q12 hg;clear hS16;have htV:TreAt V17 w.heap.size X:=ht1.of_block (qb.block w.heap.size (by omega));refine hK.out _ _ htV (fun hS18=>?_);clear hK K htV;try simp only[Act.put,sA,sZ,sS]
    obtain⟨aE,cE,heE,-⟩:=id qE.rd;obtain⟨aY,cY,heY,-⟩:=id (qY.rd qYI);obtain⟨aO,cO,heO,-⟩:=id (qO.rd qOI);obtain⟨aS,cS,heS,-⟩:=id qS.rd;subst heE;subst heY;subst heO;subst heS;refine kA 16 19 hS18 ?_;have hzV:BoxTr V17 (w.heap.size+1) (.slice none 0 0) (.slice none 0 0) (.slice none 0 0) 0 (.slice none 0 0):=hz.below qb (by omega);have htV:TreAt V17 w.heap.size X:=ht1.of_block (qb.block w.heap.size (by omega));obtain⟨y0,y1,y2,y3,y4,g0,g1,g2,g3,g4⟩:=hzV.facts;refine rdy 17 (fun K hK=>?_);go_simp;refine hK.out _ _ (zaU (u0:=.slice aE X.mem.length cE) (u1:=.slice aY usY.length cY) (u2:=.slice aO usO.length cO) (u3:=.int .i64 X.seq) (u4:=.slice aS X.snaps.length cS) htV (by omega)) (fun hSf=>?_);clear hK K;refine dne ?_;have HF:Hid (zbO w X (.returned (.agg #[.slice aE X.mem.length cE,.slice aY usY.length cY,.slice aO usO.length cO,.int .i64 X.seq,.slice aS X.snaps.length cS])) (put5 V17 (w.heap.size+1) (.slice aE X.mem.length cE) (.slice aY usY.length cY) (.slice aO usO.length cO) (.int .i64 X.seq) (.slice aS X.snaps.length cS))):=by
     refine⟨⟨.slice aE X.mem.length cE,.slice aY usY.length cY,.slice aO usO.length cO,.slice aS X.snaps.length cS,X.mem,usY,usO,X.seq,X.snaps⟩,rfl,?_,⟨?_,?_,?_,?_,?_,?_,hap,htw⟩,?_⟩
     ·unfold TrX.tre;simp only;rw[hYe,hOe]
     ·exact OwnE.mono (zt qE (by omega)) (by omega)
     ·exact OwnT.mono (zt qY (by omega)) (by omega)
     ·exact InT.mono (qYI.put5 (by omega)) (by omega)
     ·exact OwnT.mono (zt qO (by omega)) (by omega)
     ·exact InT.mono (qOI.put5 (by omega)) (by omega)
     ·exact OwnI.mono (zt qS (by omega)) (by omega)
     ·exact zR (bw.trans (qb.mono (by omega))) (by omega)
    have hzF:=zF hzV (.slice aE X.mem.length cE) (.slice aY usY.length cY) (.slice aO usO.length cO) (.slice aS X.snaps.length cS) X.seq;obtain⟨f0,f1,f2,f3,f4,-,-,-,-,-⟩:=hzF.facts;clear y0 y1 y2 y3 y4 g0 g1 g2 g3 g4 hzF hSf htV hzV qb hBV;unfold put5 at f0 f1 f2 f3 f4;go_wp2;exact bodyPost_ret (v:=.agg #[.slice aE X.mem.length cE,.slice aY usY.length cY,.slice aO usO.length cO,.int .i64 X.seq,.slice aS X.snaps.length cS]) (by simp[results,Tryz.results37,go_sem,f0,f1,f2,f3,f4]) rfl HF.out
   refine AllReadyH.cons rfl (fun K hK=>?_) AllReadyH.nil;refine za0 rfl 15 rfl 2 1 (by go_simp;(try rfl)) ?_;intro b12 V19 hm q12 hge hlt;replace q12:OwnI V19 (w.heap.size+2) (.slice (some ⟨b12,0,none⟩) 0 0) []:=OwnI.mono q12 hBV;replace qE:=qE.below hm;replace qb:=qb.trans (hm.mono hBV);replace hBV:=nT hBV hm.size;clear hge hlt hm;clear hS4;have htV:TreAt V19 w.heap.size X:=ht1.of_block (qb.block w.heap.size (by omega));refine hK.out _ _ htV (fun hS20=>?_);clear hK K htV;try simp only[Act.put,sA,sZ,sS]
   refine rdy 6 (fun K hK=>?_);go_simp;refine(HY.out _ ((hx0.young).below (by rw[s1];exact qb))).mono ?_;rintro e V21 ⟨vY,usY,rfl,hYe,qY,qYI,hm⟩;have hY12:Off b12 usY:=fun t ht k hk e=>by have:=(oL (qYI t ht).1 k hk).1;have:=(oL q12 b12 rfl).2;omega
   replace qY:=qY.mono hBV;replace qYI:=qYI.mono hBV;replace qE:=qE.below hm;replace q12:=q12.below hm;replace qb:=qb.trans (hm.mono hBV);replace hBV:=nT hBV hm.size;clear hm;clear hS20;have htV:TreAt V21 w.heap.size X:=ht1.of_block (qb.block w.heap.size (by omega));refine hK.out _ _ htV (fun hS22=>?_);clear hK K htV;try simp only[Act.put,sA,sZ,sS]
   refine rdy 9 (fun K hK=>?_);go_simp;refine(HO.out _ ((hx0.old).below (by rw[s1];exact qb))).mono ?_;rintro e V23 ⟨vO,usO,rfl,hOe,qO,qOI,hm⟩;have htw:∀ k,vY.ownBlock=some k→vO.ownBlock≠some k:=fun k hk e=>by have:=(oL qY k hk).2;have:=(oL qO k e).1;omega
   have hO12:Off b12 usO:=fun t ht k hk e=>by have:=(oL (qOI t ht).1 k hk).1;have:=(oL q12 b12 rfl).2;omega
   replace qO:=qO.mono hBV;replace qOI:=qOI.mono hBV;replace qE:=qE.below hm;replace qY:=qY.below hm;replace qYI:=qYI.below hm;replace q12:=q12.below hm;replace qb:=qb.trans (hm.mono hBV);replace hBV:=nT hBV hm.size;clear hm;clear hS22;have htV:TreAt V23 w.heap.size X:=ht1.of_block (qb.block w.heap.size (by omega));refine hK.out _ _ htV (fun hS24=>?_);clear hK K htV;try simp only[Act.put,sA,sZ,sS]
   refine rdy 15 (fun K hK=>?_);refine zaE rfl 18 rfl _ _ rfl (w.heap.size+2) (.slice (some ⟨b12,0,none⟩) 0 0) X.vs [] X.snaps rfl rfl q12 ((hx0.snaps).below (by rw[s1];exact qb)) (by simp;omega) hBV ?_;intro vS V25 qS hg hat;rw[List.nil_append] at qS;have hap:∀ b,vS.ownBlock=some b→Off b usY∧Off b usO:=fun b hb=>by
    rcases hat with hat | hat
    ·rw[hat] at hb;obtain rfl:b12=b:=Option.some.inj hb;exact⟨hY12,hO12⟩
    ·rw[hat] at hb;obtain rfl:=Option.some.inj hb;exact⟨fun t ht k hk e=>by have:=(oL (qYI t ht).1 k hk).2;omega,fun t ht k hk e=>by have:=(oL (qOI t ht).1 k hk).2;omega⟩
   clear hat;replace qE:OwnE V25 (w.heap.size+2) vE X.mem:=zl qE hg (fun k hk e=>zh qE q12 (by decide) k hk e);replace qY:OwnT V25 (w.heap.size+2) vY usY:=zl qY hg (fun k hk e=>zh qY q12 (by decide) k hk e);replace qYI:=qYI.ints q12 rfl hY12 hg;replace qO:OwnT V25 (w.heap.size+2) vO usO:=zl qO hg (fun k hk e=>zh qO q12 (by decide) k hk e);replace qOI:=qOI.ints q12 rfl hO12 hg;replace qb:=qb.grown hg hBV (fun k hk=>(oL q12 k hk).1);replace hBV:=nT hBV hg.size;clear q12 hg;clear hS24;have htV:TreAt V25 w.heap.size X:=ht1.of_block (qb.block w.heap.size (by omega));refine hK.out _ _ htV (fun hS26=>?_);clear hK K htV;try simp only[Act.put,sA,sZ,sS]
   obtain⟨aE,cE,heE,-⟩:=id qE.rd;obtain⟨aY,cY,heY,-⟩:=id (qY.rd qYI);obtain⟨aO,cO,heO,-⟩:=id (qO.rd qOI);obtain⟨aS,cS,heS,-⟩:=id qS.rd;subst heE;subst heY;subst heO;subst heS;refine kA 16 19 hS26 ?_;have hzV:BoxTr V25 (w.heap.size+1) (.slice none 0 0) (.slice none 0 0) (.slice none 0 0) 0 (.slice none 0 0):=hz.below qb (by omega);have htV:TreAt V25 w.heap.size X:=ht1.of_block (qb.block w.heap.size (by omega));obtain⟨y0,y1,y2,y3,y4,g0,g1,g2,g3,g4⟩:=hzV.facts;refine rdy 17 (fun K hK=>?_);go_simp;refine hK.out _ _ (zaU (u0:=.slice aE X.mem.length cE) (u1:=.slice aY usY.length cY) (u2:=.slice aO usO.length cO) (u3:=.int .i64 X.seq) (u4:=.slice aS X.snaps.length cS) htV (by omega)) (fun hSf=>?_);clear hK K;refine dne ?_;have HF:Hid (zbO w X (.returned (.agg #[.slice aE X.mem.length cE,.slice aY usY.length cY,.slice aO usO.length cO,.int .i64 X.seq,.slice aS X.snaps.length cS])) (put5 V25 (w.heap.size+1) (.slice aE X.mem.length cE) (.slice aY usY.length cY) (.slice aO usO.length cO) (.int .i64 X.seq) (.slice aS X.snaps.length cS))):=by
    refine⟨⟨.slice aE X.mem.length cE,.slice aY usY.length cY,.slice aO usO.length cO,.slice aS X.snaps.length cS,X.mem,usY,usO,X.seq,X.snaps⟩,rfl,?_,⟨?_,?_,?_,?_,?_,?_,hap,htw⟩,?_⟩
    ·unfold TrX.tre;simp only;rw[hYe,hOe]
    ·exact OwnE.mono (zt qE (by omega)) (by omega)
    ·exact OwnT.mono (zt qY (by omega)) (by omega)
    ·exact InT.mono (qYI.put5 (by omega)) (by omega)
    ·exact OwnT.mono (zt qO (by omega)) (by omega)
    ·exact InT.mono (qOI.put5 (by omega)) (by omega)
    ·exact OwnI.mono (zt qS (by omega)) (by omega)
    ·exact zR (bw.trans (qb.mono (by omega))) (by omega)
   have hzF:=zF hzV (.slice aE X.mem.length cE) (.slice aY usY.length cY) (.slice aO usO.length cO) (.slice aS X.snaps.length cS) X.seq;obtain⟨f0,f1,f2,f3,f4,-,-,-,-,-⟩:=hzF.facts;clear y0 y1 y2 y3 y4 g0 g1 g2 g3 g4 hzF hSf htV hzV qb hBV;unfold put5 at f0 f1 f2 f3 f4;go_wp2;exact bodyPost_ret (v:=.agg #[.slice aE X.mem.length cE,.slice aY usY.length cY,.slice aO usO.length cO,.int .i64 X.seq,.slice aS X.snaps.length cS]) (by simp[results,Tryz.results37,go_sem,f0,f1,f2,f3,f4]) rfl HF.out
  refine AllReadyH.cons rfl (fun K hK=>?_) AllReadyH.nil;refine za0 rfl 15 rfl 2 1 (by go_simp;(try rfl)) ?_;intro b12 V27 hm q12 hge hlt;replace q12:OwnI V27 (w.heap.size+2) (.slice (some ⟨b12,0,none⟩) 0 0) []:=OwnI.mono q12 hBV;replace qE0:=qE0.below hm;replace qb:=qb.trans (hm.mono hBV);replace hBV:=nT hBV hm.size;clear hge hlt hm;clear hS2;have htV:TreAt V27 w.heap.size X:=ht1.of_block (qb.block w.heap.size (by omega));refine hK.out _ _ htV (fun hS28=>?_);clear hK K htV;try simp only[Act.put,sA,sZ,sS]
  refine rdy 3 (fun K hK=>?_);refine zS rfl 6 rfl _ _ rfl (w.heap.size+2) (.slice (some ⟨bE,0,none⟩) 0 0) X.vm [] X.mem rfl rfl qE0 ((hx0.mem).below (by rw[s1];exact qb)) (by simp;omega) hBV ?_;intro vE V29 qE hg;rw[List.nil_append] at qE;replace q12:OwnI V29 (w.heap.size+2) (.slice (some ⟨b12,0,none⟩) 0 0) []:=zl q12 hg (fun k hk e=>zh q12 qE0 (by decide) k hk e);replace qb:=qb.grown hg hBV (fun k hk=>(oL qE0 k hk).1);replace hBV:=nT hBV hg.size;clear qE0 hg;clear hS28;have htV:TreAt V29 w.heap.size X:=ht1.of_block (qb.block w.heap.size (by omega));refine hK.out _ _ htV (fun hS30=>?_);clear hK K htV;try simp only[Act.put,sA,sZ,sS]
  refine rdy 6 (fun K hK=>?_);go_simp;refine(HY.out _ ((hx0.young).below (by rw[s1];exact qb))).mono ?_;rintro e V31 ⟨vY,usY,rfl,hYe,qY,qYI,hm⟩;have hY12:Off b12 usY:=fun t ht k hk e=>by have:=(oL (qYI t ht).1 k hk).1;have:=(oL q12 b12 rfl).2;omega
  replace qY:=qY.mono hBV;replace qYI:=qYI.mono hBV;replace qE:=qE.below hm;replace q12:=q12.below hm;replace qb:=qb.trans (hm.mono hBV);replace hBV:=nT hBV hm.size;clear hm;clear hS30;have htV:TreAt V31 w.heap.size X:=ht1.of_block (qb.block w.heap.size (by omega));refine hK.out _ _ htV (fun hS32=>?_);clear hK K htV;try simp only[Act.put,sA,sZ,sS]
  refine rdy 9 (fun K hK=>?_);go_simp;refine(HO.out _ ((hx0.old).below (by rw[s1];exact qb))).mono ?_;rintro e V33 ⟨vO,usO,rfl,hOe,qO,qOI,hm⟩;have htw:∀ k,vY.ownBlock=some k→vO.ownBlock≠some k:=fun k hk e=>by have:=(oL qY k hk).2;have:=(oL qO k e).1;omega
  have hO12:Off b12 usO:=fun t ht k hk e=>by have:=(oL (qOI t ht).1 k hk).1;have:=(oL q12 b12 rfl).2;omega
  replace qO:=qO.mono hBV;replace qOI:=qOI.mono hBV;replace qE:=qE.below hm;replace qY:=qY.below hm;replace qYI:=qYI.below hm;replace q12:=q12.below hm;replace qb:=qb.trans (hm.mono hBV);replace hBV:=nT hBV hm.size;clear hm;clear hS32;have htV:TreAt V33 w.heap.size X:=ht1.of_block (qb.block w.heap.size (by omega));refine hK.out _ _ htV (fun hS34=>?_);clear hK K htV;try simp only[Act.put,sA,sZ,sS]
  refine rdy 15 (fun K hK=>?_);refine zaE rfl 18 rfl _ _ rfl (w.heap.size+2) (.slice (some ⟨b12,0,none⟩) 0 0) X.vs [] X.snaps rfl rfl q12 ((hx0.snaps).below (by rw[s1];exact qb)) (by simp;omega) hBV ?_;intro vS V35 qS hg hat;rw[List.nil_append] at qS;have hap:∀ b,vS.ownBlock=some b→Off b usY∧Off b usO:=fun b hb=>by
   rcases hat with hat | hat
   ·rw[hat] at hb;obtain rfl:b12=b:=Option.some.inj hb;exact⟨hY12,hO12⟩
   ·rw[hat] at hb;obtain rfl:=Option.some.inj hb;exact⟨fun t ht k hk e=>by have:=(oL (qYI t ht).1 k hk).2;omega,fun t ht k hk e=>by have:=(oL (qOI t ht).1 k hk).2;omega⟩
  clear hat;replace qE:OwnE V35 (w.heap.size+2) vE X.mem:=zl qE hg (fun k hk e=>zh qE q12 (by decide) k hk e);replace qY:OwnT V35 (w.heap.size+2) vY usY:=zl qY hg (fun k hk e=>zh qY q12 (by decide) k hk e);replace qYI:=qYI.ints q12 rfl hY12 hg;replace qO:OwnT V35 (w.heap.size+2) vO usO:=zl qO hg (fun k hk e=>zh qO q12 (by decide) k hk e);replace qOI:=qOI.ints q12 rfl hO12 hg;replace qb:=qb.grown hg hBV (fun k hk=>(oL q12 k hk).1);replace hBV:=nT hBV hg.size;clear q12 hg;clear hS34;have htV:TreAt V35 w.heap.size X:=ht1.of_block (qb.block w.heap.size (by omega));refine hK.out _ _ htV (fun hS36=>?_);clear hK K htV;try simp only[Act.put,sA,sZ,sS]
  obtain⟨aE,cE,heE,-⟩:=id qE.rd;obtain⟨aY,cY,heY,-⟩:=id (qY.rd qYI);obtain⟨aO,cO,heO,-⟩:=id (qO.rd qOI);obtain⟨aS,cS,heS,-⟩:=id qS.rd;subst heE;subst heY;subst heO;subst heS;refine kA 16 19 hS36 ?_;have hzV:BoxTr V35 (w.heap.size+1) (.slice none 0 0) (.slice none 0 0) (.slice none 0 0) 0 (.slice none 0 0):=hz.below qb (by omega);have htV:TreAt V35 w.heap.size X:=ht1.of_block (qb.block w.heap.size (by omega));obtain⟨y0,y1,y2,y3,y4,g0,g1,g2,g3,g4⟩:=hzV.facts;refine rdy 17 (fun K hK=>?_);go_simp;refine hK.out _ _ (zaU (u0:=.slice aE X.mem.length cE) (u1:=.slice aY usY.length cY) (u2:=.slice aO usO.length cO) (u3:=.int .i64 X.seq) (u4:=.slice aS X.snaps.length cS) htV (by omega)) (fun hSf=>?_);clear hK K;refine dne ?_;have HF:Hid (zbO w X (.returned (.agg #[.slice aE X.mem.length cE,.slice aY usY.length cY,.slice aO usO.length cO,.int .i64 X.seq,.slice aS X.snaps.length cS])) (put5 V35 (w.heap.size+1) (.slice aE X.mem.length cE) (.slice aY usY.length cY) (.slice aO usO.length cO) (.int .i64 X.seq) (.slice aS X.snaps.length cS))):=by
   refine⟨⟨.slice aE X.mem.length cE,.slice aY usY.length cY,.slice aO usO.length cO,.slice aS X.snaps.length cS,X.mem,usY,usO,X.seq,X.snaps⟩,rfl,?_,⟨?_,?_,?_,?_,?_,?_,hap,htw⟩,?_⟩
   ·unfold TrX.tre;simp only;rw[hYe,hOe]
   ·exact OwnE.mono (zt qE (by omega)) (by omega)
   ·exact OwnT.mono (zt qY (by omega)) (by omega)
   ·exact InT.mono (qYI.put5 (by omega)) (by omega)
   ·exact OwnT.mono (zt qO (by omega)) (by omega)
   ·exact InT.mono (qOI.put5 (by omega)) (by omega)
   ·exact OwnI.mono (zt qS (by omega)) (by omega)
   ·exact zR (bw.trans (qb.mono (by omega))) (by omega)
  have hzF:=zF hzV (.slice aE X.mem.length cE) (.slice aY usY.length cY) (.slice aO usO.length cO) (.slice aS X.snaps.length cS) X.seq;obtain⟨f0,f1,f2,f3,f4,-,-,-,-,-⟩:=hzF.facts;clear y0 y1 y2 y3 y4 g0 g1 g2 g3 g4 hzF hSf htV hzV qb hBV;unfold put5 at f0 f1 f2 f3 f4;go_wp2;exact bodyPost_ret (v:=.agg #[.slice aE X.mem.length cE,.slice aY usY.length cY,.slice aO usO.length cO,.int .i64 X.seq,.slice aS X.snaps.length cS]) (by simp[results,Tryz.results37,go_sem,f0,f1,f2,f3,f4]) rfl HF.out
 refine AllReadyH.cons rfl (fun K hK=>?_) AllReadyH.nil;refine za0 rfl 15 rfl 2 1 (by go_simp;(try rfl)) ?_;intro b12 V37 hm q12 hge hlt;replace q12:OwnI V37 (w.heap.size+2) (.slice (some ⟨b12,0,none⟩) 0 0) []:=OwnI.mono q12 hBV;replace qb:=qb.trans (hm.mono hBV);replace hBV:=nT hBV hm.size;clear hge hlt hm;clear hS;have htV:TreAt V37 w.heap.size X:=ht1.of_block (qb.block w.heap.size (by omega));refine hK.out _ _ htV (fun hS38=>?_);clear hK K htV;try simp only[Act.put,sA,sZ,sS]
 refine rdy 0 (fun K hK=>?_);refine za0 rfl 3 rfl 40 4 (by go_simp;(try rfl)) ?_;intro bE V39 hm qE0 hge hlt;replace qE0:OwnE V39 (w.heap.size+2) (.slice (some ⟨bE,0,none⟩) 0 0) []:=OwnE.mono qE0 hBV;replace q12:=q12.below hm;replace qb:=qb.trans (hm.mono hBV);replace hBV:=nT hBV hm.size;clear hge hlt hm;clear hS38;have htV:TreAt V39 w.heap.size X:=ht1.of_block (qb.block w.heap.size (by omega));refine hK.out _ _ htV (fun hS40=>?_);clear hK K htV;try simp only[Act.put,sA,sZ,sS]
 refine rdy 3 (fun K hK=>?_);refine zS rfl 6 rfl _ _ rfl (w.heap.size+2) (.slice (some ⟨bE,0,none⟩) 0 0) X.vm [] X.mem rfl rfl qE0 ((hx0.mem).below (by rw[s1];exact qb)) (by simp;omega) hBV ?_;intro vE V41 qE hg;rw[List.nil_append] at qE;replace q12:OwnI V41 (w.heap.size+2) (.slice (some ⟨b12,0,none⟩) 0 0) []:=zl q12 hg (fun k hk e=>zh q12 qE0 (by decide) k hk e);replace qb:=qb.grown hg hBV (fun k hk=>(oL qE0 k hk).1);replace hBV:=nT hBV hg.size;clear qE0 hg;clear hS40;have htV:TreAt V41 w.heap.size X:=ht1.of_block (qb.block w.heap.size (by omega));refine hK.out _ _ htV (fun hS42=>?_);clear hK K htV;try simp only[Act.put,sA,sZ,sS]
 refine rdy 6 (fun K hK=>?_);go_simp;refine(HY.out _ ((hx0.young).below (by rw[s1];exact qb))).mono ?_;rintro e V43 ⟨vY,usY,rfl,hYe,qY,qYI,hm⟩;have hY12:Off b12 usY:=fun t ht k hk e=>by have:=(oL (qYI t ht).1 k hk).1;have:=(oL q12 b12 rfl).2;omega
 replace qY:=qY.mono hBV;replace qYI:=qYI.mono hBV;replace qE:=qE.below hm;replace q12:=q12.below hm;replace qb:=qb.trans (hm.mono hBV);replace hBV:=nT hBV hm.size;clear hm;clear hS42;have htV:TreAt V43 w.heap.size X:=ht1.of_block (qb.block w.heap.size (by omega));refine hK.out _ _ htV (fun hS44=>?_);clear hK K htV;try simp only[Act.put,sA,sZ,sS]
 refine rdy 9 (fun K hK=>?_);go_simp;refine(HO.out _ ((hx0.old).below (by rw[s1];exact qb))).mono ?_;rintro e V45 ⟨vO,usO,rfl,hOe,qO,qOI,hm⟩;have htw:∀ k,vY.ownBlock=some k→vO.ownBlock≠some k:=fun k hk e=>by have:=(oL qY k hk).2;have:=(oL qO k e).1;omega
 have hO12:Off b12 usO:=fun t ht k hk e=>by have:=(oL (qOI t ht).1 k hk).1;have:=(oL q12 b12 rfl).2;omega
 replace qO:=qO.mono hBV;replace qOI:=qOI.mono hBV;replace qE:=qE.below hm;replace qY:=qY.below hm;replace qYI:=qYI.below hm;replace q12:=q12.below hm;replace qb:=qb.trans (hm.mono hBV);replace hBV:=nT hBV hm.size;clear hm;clear hS44;have htV:TreAt V45 w.heap.size X:=ht1.of_block (qb.block w.heap.size (by omega));refine hK.out _ _ htV (fun hS46=>?_);clear hK K htV;try simp only[Act.put,sA,sZ,sS]
 refine rdy 15 (fun K hK=>?_);refine zaE rfl 18 rfl _ _ rfl (w.heap.size+2) (.slice (some ⟨b12,0,none⟩) 0 0) X.vs [] X.snaps rfl rfl q12 ((hx0.snaps).below (by rw[s1];exact qb)) (by simp;omega) hBV ?_;intro vS V47 qS hg hat;rw[List.nil_append] at qS;have hap:∀ b,vS.ownBlock=some b→Off b usY∧Off b usO:=fun b hb=>by
  rcases hat with hat | hat
  ·rw[hat] at hb;obtain rfl:b12=b:=Option.some.inj hb;exact⟨hY12,hO12⟩
  ·rw[hat] at hb;obtain rfl:=Option.some.inj hb;exact⟨fun t ht k hk e=>by have:=(oL (qYI t ht).1 k hk).2;omega,fun t ht k hk e=>by have:=(oL (qOI t ht).1 k hk).2;omega⟩
 clear hat;replace qE:OwnE V47 (w.heap.size+2) vE X.mem:=zl qE hg (fun k hk e=>zh qE q12 (by decide) k hk e);replace qY:OwnT V47 (w.heap.size+2) vY usY:=zl qY hg (fun k hk e=>zh qY q12 (by decide) k hk e);replace qYI:=qYI.ints q12 rfl hY12 hg;replace qO:OwnT V47 (w.heap.size+2) vO usO:=zl qO hg (fun k hk e=>zh qO q12 (by decide) k hk e);replace qOI:=qOI.ints q12 rfl hO12 hg;replace qb:=qb.grown hg hBV (fun k hk=>(oL q12 k hk).1);replace hBV:=nT hBV hg.size;clear q12 hg;clear hS46;have htV:TreAt V47 w.heap.size X:=ht1.of_block (qb.block w.heap.size (by omega));refine hK.out _ _ htV (fun hS48=>?_);clear hK K htV;try simp only[Act.put,sA,sZ,sS]
 obtain⟨aE,cE,heE,-⟩:=id qE.rd;obtain⟨aY,cY,heY,-⟩:=id (qY.rd qYI);obtain⟨aO,cO,heO,-⟩:=id (qO.rd qOI);obtain⟨aS,cS,heS,-⟩:=id qS.rd;subst heE;subst heY;subst heO;subst heS;refine kA 16 19 hS48 ?_;have hzV:BoxTr V47 (w.heap.size+1) (.slice none 0 0) (.slice none 0 0) (.slice none 0 0) 0 (.slice none 0 0):=hz.below qb (by omega);have htV:TreAt V47 w.heap.size X:=ht1.of_block (qb.block w.heap.size (by omega));obtain⟨y0,y1,y2,y3,y4,g0,g1,g2,g3,g4⟩:=hzV.facts;refine rdy 17 (fun K hK=>?_);go_simp;refine hK.out _ _ (zaU (u0:=.slice aE X.mem.length cE) (u1:=.slice aY usY.length cY) (u2:=.slice aO usO.length cO) (u3:=.int .i64 X.seq) (u4:=.slice aS X.snaps.length cS) htV (by omega)) (fun hSf=>?_);clear hK K;refine dne ?_;have HF:Hid (zbO w X (.returned (.agg #[.slice aE X.mem.length cE,.slice aY usY.length cY,.slice aO usO.length cO,.int .i64 X.seq,.slice aS X.snaps.length cS])) (put5 V47 (w.heap.size+1) (.slice aE X.mem.length cE) (.slice aY usY.length cY) (.slice aO usO.length cO) (.int .i64 X.seq) (.slice aS X.snaps.length cS))):=by
  refine⟨⟨.slice aE X.mem.length cE,.slice aY usY.length cY,.slice aO usO.length cO,.slice aS X.snaps.length cS,X.mem,usY,usO,X.seq,X.snaps⟩,rfl,?_,⟨?_,?_,?_,?_,?_,?_,hap,htw⟩,?_⟩
  ·unfold TrX.tre;simp only;rw[hYe,hOe]
  ·exact OwnE.mono (zt qE (by omega)) (by omega)
  ·exact OwnT.mono (zt qY (by omega)) (by omega)
  ·exact InT.mono (qYI.put5 (by omega)) (by omega)
  ·exact OwnT.mono (zt qO (by omega)) (by omega)
  ·exact InT.mono (qOI.put5 (by omega)) (by omega)
  ·exact OwnI.mono (zt qS (by omega)) (by omega)
  ·exact zR (bw.trans (qb.mono (by omega))) (by omega)
 have hzF:=zF hzV (.slice aE X.mem.length cE) (.slice aY usY.length cY) (.slice aO usO.length cO) (.slice aS X.snaps.length cS) X.seq;obtain⟨f0,f1,f2,f3,f4,-,-,-,-,-⟩:=hzF.facts;clear y0 y1 y2 y3 y4 g0 g1 g2 g3 g4 hzF hSf htV hzV qb hBV;unfold put5 at f0 f1 f2 f3 f4;go_wp2;exact bodyPost_ret (v:=.agg #[.slice aE X.mem.length cE,.slice aY usY.length cY,.slice aO usO.length cO,.int .i64 X.seq,.slice aS X.snaps.length cS]) (by simp[results,Tryz.results37,go_sem,f0,f1,f2,f3,f4]) rfl HF.out
open Go.RowKit
end Go.Proofs.YtjlnchhgkfnldaaGreat
