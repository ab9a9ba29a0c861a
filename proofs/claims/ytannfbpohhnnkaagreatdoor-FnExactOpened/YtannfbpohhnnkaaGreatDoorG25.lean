import Derived.Test.YtannfbpohhnnkaaGreatDoorG24
namespace Go.Proofs.YtannfbpohhnnkaaGreatDoor
set_option maxHeartbeats 16000000
set_option maxRecDepth 100000
open Go.RowKit
theorem zo8{w:World}{ops:Array Oper}{o:Oper}{a:Act}{K:Act→World→Prop}{Q:Exit→Act→World→Prop}{E:Prop}(hgd:o.guard=none)(d:Nat)(hd:o.dst=some d)(x:Value)(e:TypeId)
 (hrun:(execOp a.eval o).run Tryz.prog w=.ok (.value (.slice (some ⟨w.heap.size,0,none⟩) 1 1)) (w.alloc (.cells #[x] e)))
 (h:K (a.put (some d) (.slice (some ⟨w.heap.size,0,none⟩) 1 1)) (w.alloc (.cells #[x] e))) :
 if Region.wanted o (yielded ops a.tmps)=true then Oper.wp Tryz.prog o a w K Q else E:=by
 have hw:Region.wanted o (yielded ops a.tmps)=true:=by simp[Region.wanted,hgd]
 rw[if_pos hw];rw[← hd] at h;unfold Oper.wp;rw[hrun];exact h
theorem pieces1{W:World}{u:Value}{A:List Ent}(h:RdE W u A):Pieces (W.alloc (.cells #[u] 31)) (.slice (some ⟨W.heap.size,0,none⟩) 1 1) [(u,A)]:=by
 have hb2:=za W (.cells #[u] 31);refine .inr ⟨W.heap.size,0,1,rfl,Nat.le_refl _,by decide,fun i hi=>?_⟩;match i,hi with
 | 0,_=>exact⟨by simp[World.cell?_alloc_at],h.below hb2⟩
structure CpTr (X:TrX):Prop where
 siz:SizTr X
 mem:X.mem.length≤1000000
 vy:NilOk X.vy
 vo:NilOk X.vo
theorem zdR(X:TrX)(w:World)(hx:RdTr w X)(hs:CpTr X) :
 Calls Tryz.prog 79 #[.agg #[X.vm,X.vy,X.vo,.int .i64 X.seq,X.vs]] w fun e w'=>ToTr w X e w':=by
 have HJ:Hid (∀ u W,Pieces W u [(X.vm,X.mem)]→Calls Tryz.prog 118 #[u] W fun e w'=>∃ u,e=.returned u∧OwnE w' W.heap.size u X.mem∧Below W.heap.size W w'):=fun u W h=>by
  have e:joinE [(X.vm,X.mem)]=X.mem:=by simp[joinE]
  have:=zfh u _ W h (by rw[e];exact hs.mem) (by simp);rw[e] at this;exact this
 have HY:Hid (∀ W,RdTs W X.vy X.ys→Calls Tryz.prog 119 #[X.vy] W fun e w'=>zhA W X.ys e w'):=fun W h=>zef X.vy X.ys W h hs.vy hs.siz.young hs.siz.youngs
 have HO:Hid (∀ W,RdTs W X.vo X.os→Calls Tryz.prog 119 #[X.vo] W fun e w'=>zhA W X.os e w'):=fun W h=>zef X.vo X.os W h hs.vo hs.siz.old hs.siz.olds
 have HI:Hid (∀ W,RdI W X.vs X.snaps→Calls Tryz.prog 120 #[X.vs] W fun e w'=>∃ u,e=.returned u∧OwnI w' W.heap.size u X.snaps∧Below W.heap.size W w'):=fun W h=>zcg X.vs X.snaps W h hs.siz.snaps
 clear hs;obtain⟨am,cm,hvm,-⟩:=id hx.mem;obtain⟨mn,hmn⟩:∃ mn,mn=X.mem.length:=⟨_,rfl⟩;rw[← hmn] at hvm;have ht0:=zaI w X 34;have b0:=za w (.cells #[X.vm,X.vy,X.vo,.int .i64 X.seq,X.vs] 34);have HVM:Hid (X.vm=.slice am mn cm):=hvm;rw[hvm] at ht0 b0 ⊢;clear hvm hmn;obtain⟨V0,hV0⟩:∃ V0,V0=w.alloc (.cells #[.slice am mn cm,X.vy,X.vo,.int .i64 X.seq,X.vs] 34):=⟨_,rfl⟩;have s0:V0.heap.size=w.heap.size+1:=by rw[hV0];simp
 rw[← hV0] at ht0 b0;have b1:=za V0 (.cells #[.slice none 0 0,.slice none 0 0,.slice none 0 0,.int .i64 0,.slice none 0 0] 34);have hz:BoxTr (V0.alloc (.cells #[.slice none 0 0,.slice none 0 0,.slice none 0 0,.int .i64 0,.slice none 0 0] 34)) (w.heap.size+1) (.slice none 0 0) (.slice none 0 0) (.slice none 0 0) 0 (.slice none 0 0):=by rw[← s0];exact heap_alloc_new V0 _
 have ht1:=ht0.below b1;obtain⟨W0,hW0⟩:∃ W0,W0=V0.alloc (.cells #[.slice none 0 0,.slice none 0 0,.slice none 0 0,.int .i64 0,.slice none 0 0] 34):=⟨_,rfl⟩;have s1:W0.heap.size=w.heap.size+2:=by rw[hW0];simp[s0]
 rw[← hW0] at hz b1 ht1;have bw:Below w.heap.size w W0:=b0.trans (b1.mono (by omega));have hx0:=hx.below bw;have HSV:Hid (∀ W,TreAt W w.heap.size X→W.cell? ⟨w.heap.size,0,none⟩=some (.slice am mn cm)∧W.cell? ⟨w.heap.size,1,none⟩=some X.vy∧W.cell? ⟨w.heap.size,2,none⟩=some X.vo∧W.cell? ⟨w.heap.size,3,none⟩=some (.int .i64 X.seq)∧W.cell? ⟨w.heap.size,4,none⟩=some X.vs):=fun W h=>⟨by rw[← HVM.out];exact h.1,h.2.1,h.2.2.1,h.2.2.2.1,h.2.2.2.2⟩
 clear ht0 b0 b1 s0;go_enter Tryz.func79,Tryz.ntmps79
 go_wp2_with fail
 rw[← hV0,← hW0];clear hV0 hW0;refine wp_region_noPanic ?_;refine wp_region_held_drew (S:=fun W=>W.cell? ⟨w.heap.size,0,none⟩=some (.slice am mn cm)∧W.cell? ⟨w.heap.size,1,none⟩=some X.vy∧W.cell? ⟨w.heap.size,2,none⟩=some X.vo∧W.cell? ⟨w.heap.size,3,none⟩=some (.int .i64 X.seq)∧W.cell? ⟨w.heap.size,4,none⟩=some X.vs) (by kernel_rfl) (HSV.out _ ht1) (fun hS=>?_);have qb:Below (w.heap.size+2) W0 W0.drew:=(Below.refl _ _).drew;refine kA 0 3 hS ?_;refine kA 1 4 hS ?_;refine kA 4 7 hS ?_;refine kA 5 8 hS ?_;refine kA 7 10 hS ?_;refine kA 8 11 hS ?_;refine kA 10 13 hS ?_;refine kA 11 14 hS ?_;refine kA 12 15 hS ?_;refine kA 13 16 hS ?_;have hBV:w.heap.size+2≤W0.drew.heap.size:=by show w.heap.size+2≤W0.heap.size;omega
 generalize W0.drew=V at qb hS hBV ⊢;refine rdy 2 (fun K hK=>?_);refine zo8 rfl 5 rfl (.slice am mn cm) 31 (by go_simp;(try rfl)) ?_;have hp1:Pieces (V.alloc (.cells #[.slice am mn cm] 31)) (.slice (some ⟨V.heap.size,0,none⟩) 1 1) [(X.vm,X.mem)]:=by
  have h:=(hx0.mem).below (show Below W0.heap.size W0 V by rw[s1];exact qb);rw[HVM.out] at h ⊢;exact pieces1 h
 have bb1:=za V (.cells #[.slice am mn cm] 31);replace qb:=qb.trans (bb1.mono hBV);replace hBV:=Nat.le_trans hBV bb1.size;clear hS bb1;have htV:TreAt _ w.heap.size X:=ht1.of_block (qb.block w.heap.size (by omega));refine hK.out _ _ (HSV.out _ htV) (fun hS2=>?_);clear hK K htV;try simp only[Act.put,sA,sZ,sS]
 generalize V.alloc (.cells #[.slice am mn cm] 31)=V1 at qb hBV hp1 hS2 ⊢;refine rdy 3 (fun K hK=>?_);go_simp;refine(HJ.out _ _ hp1).mono ?_;rintro e V3 ⟨vE,rfl,qE,hm⟩;replace qE:OwnE V3 (w.heap.size+2) vE X.mem:=OwnE.mono qE hBV;have LE:∀ k∈oneB vE,k<V3.heap.size:=fun k hk=>(World.ownsRow.lt qE k (mem_oneB.1 hk)).2
 replace qb:=qb.trans (hm.mono hBV);replace hBV:=Nat.le_trans hBV hm.size;clear hm hS2 hp1;have htV:TreAt V3 w.heap.size X:=ht1.of_block (qb.block w.heap.size (by omega));refine hK.out _ _ (HSV.out _ htV) (fun hS4=>?_);clear hK K htV;try simp only[Act.put,sA,sZ,sS]
 refine rdy 6 (fun K hK=>?_);go_simp;refine(HY.out _ ((hx0.young).below (by rw[s1];exact qb))).mono ?_;rintro e V5 ⟨vY,usY,rfl,hYe,qY,hm⟩;have LY:∀ k∈oneB vY++tblks usY,V3.heap.size≤k∧k<V5.heap.size:=fun k hk=>qY.bound hk
 have s35:=hm.size;replace qY:=qY.mono hBV;replace qE:=qE.below hm;replace qb:=qb.trans (hm.mono hBV);replace hBV:=Nat.le_trans hBV hm.size;clear hm hS4;have htV:TreAt V5 w.heap.size X:=ht1.of_block (qb.block w.heap.size (by omega));refine hK.out _ _ (HSV.out _ htV) (fun hS6=>?_);clear hK K htV;try simp only[Act.put,sA,sZ,sS]
 refine rdy 9 (fun K hK=>?_);go_simp;refine(HO.out _ ((hx0.old).below (by rw[s1];exact qb))).mono ?_;rintro e V7 ⟨vO,usO,rfl,hOe,qO,hm⟩;have LO:∀ k∈oneB vO++tblks usO,V5.heap.size≤k∧k<V7.heap.size:=fun k hk=>qO.bound hk
 have s57:=hm.size;replace qO:=qO.mono hBV;replace qE:=qE.below hm;replace qY:=qY.below hm;replace qb:=qb.trans (hm.mono hBV);replace hBV:=Nat.le_trans hBV hm.size;clear hm hS6;have htV:TreAt V7 w.heap.size X:=ht1.of_block (qb.block w.heap.size (by omega));refine hK.out _ _ (HSV.out _ htV) (fun hS8=>?_);clear hK K htV;try simp only[Act.put,sA,sZ,sS]
 refine rdy 14 (fun K hK=>?_);go_simp;refine(HI.out _ ((hx0.snaps).below (by rw[s1];exact qb))).mono ?_;rintro e V9 ⟨vS,rfl,qS,hm⟩;have LS:∀ k∈oneB vS,V7.heap.size≤k:=fun k hk=>(World.ownsRow.lt qS k (mem_oneB.1 hk)).1
 replace qS:OwnI V9 (w.heap.size+2) vS X.snaps:=OwnI.mono qS hBV;replace qE:=qE.below hm;replace qY:=qY.below hm;replace qO:=qO.below hm;replace qb:=qb.trans (hm.mono hBV);replace hBV:=Nat.le_trans hBV hm.size;clear hm hS8;have htV:TreAt V9 w.heap.size X:=ht1.of_block (qb.block w.heap.size (by omega));refine hK.out _ _ (HSV.out _ htV) (fun hS10=>?_);clear hK K htV;try simp only[Act.put,sA,sZ,sS]
 obtain⟨aE,cE,heE,-⟩:=id qE.rd;obtain⟨aY,cY,heY,-⟩:=id qY.rd;obtain⟨aO,cO,heO,-⟩:=id qO.rd;obtain⟨aS,cS,heS,-⟩:=id qS.rd;subst heE;subst heY;subst heO;subst heS;refine kA 15 18 hS10 ?_;have hzV:BoxTr V9 (w.heap.size+1) (.slice none 0 0) (.slice none 0 0) (.slice none 0 0) 0 (.slice none 0 0):=hz.below qb (by omega);have htV:TreAt V9 w.heap.size X:=ht1.of_block (qb.block w.heap.size (by omega));obtain⟨y0,y1,y2,y3,y4,g0,g1,g2,g3,g4⟩:=hzV.facts;refine rdy 16 (fun K hK=>?_);go_simp;refine hK.out _ _ (HSV.out _ (zbF (u0:=.slice aE X.mem.length cE) (u1:=.slice aY usY.length cY) (u2:=.slice aO usO.length cO) (u3:=.int .i64 X.seq) (u4:=.slice aS X.snaps.length cS) htV (by omega))) (fun hSf=>?_);clear hK K;refine dne ?_;have HF:Hid (ToTr w X (.returned (.agg #[.slice aE X.mem.length cE,.slice aY usY.length cY,.slice aO usO.length cO,.int .i64 X.seq,.slice aS X.snaps.length cS])) (put5 V9 (w.heap.size+1) (.slice aE X.mem.length cE) (.slice aY usY.length cY) (.slice aO usO.length cO) (.int .i64 X.seq) (.slice aS X.snaps.length cS))):=by
  have h1:=qY.put5 (c:=w.heap.size+1) (u0:=.slice aE X.mem.length cE) (u1:=.slice aY usY.length cY) (u2:=.slice aO usO.length cO) (u3:=.int .i64 X.seq) (u4:=.slice aS X.snaps.length cS) (by omega);have h2:=qO.put5 (c:=w.heap.size+1) (u0:=.slice aE X.mem.length cE) (u1:=.slice aY usY.length cY) (u2:=.slice aO usO.length cO) (u3:=.int .i64 X.seq) (u4:=.slice aS X.snaps.length cS) (by omega);refine⟨⟨.slice aE X.mem.length cE,.slice aY usY.length cY,.slice aO usO.length cO,.slice aS X.snaps.length cS,X.mem,usY,usO,X.seq,X.snaps⟩,rfl,?_,⟨OwnE.mono (zu qE (by omega)) (by omega),h1.row.mono (by omega),h1.ins.mono (by omega),h2.row.mono (by omega),h2.ins.mono (by omega),OwnI.mono (zu qS (by omega)) (by omega),?_⟩,zL (bw.trans (qb.mono (by omega))) (by omega)⟩
  ·unfold TrX.tre;simp only[hYe,hOe]
  ·unfold trB;refine zk3 (m:=V3.heap.size) (zX _) (zk3 (m:=V5.heap.size) qY.nod (zk3 (m:=V7.heap.size) qO.nod (zX _) (fun k hk=>(LO k hk).2) LS) (fun k hk=>(LY k hk).2) (zfL (fun k hk=>(LO k hk).1) (fun k hk=>Nat.le_trans s57 (LS k hk)))) LE (zfL (fun k hk=>(LY k hk).1) (zfL (fun k hk=>Nat.le_trans s35 (LO k hk).1) (fun k hk=>Nat.le_trans s35 (Nat.le_trans s57 (LS k hk)))))
 have hzF:=zH hzV (.slice aE X.mem.length cE) (.slice aY usY.length cY) (.slice aO usO.length cO) (.slice aS X.snaps.length cS) X.seq;obtain⟨f0,f1,f2,f3,f4,-,-,-,-,-⟩:=hzF.facts;clear y0 y1 y2 y3 y4 g0 g1 g2 g3 g4 hzF hSf htV hzV qb hBV;unfold put5 at f0 f1 f2 f3 f4;go_wp2;exact bodyPost_ret (v:=.agg #[.slice aE X.mem.length cE,.slice aY usY.length cY,.slice aO usO.length cO,.int .i64 X.seq,.slice aS X.snaps.length cS]) (by simp[results,Tryz.results79,go_sem,f0,f1,f2,f3,f4]) rfl HF.out
end Go.Proofs.YtannfbpohhnnkaaGreatDoor
namespace Go.Proofs.YtannfbpohhnnkaaGreatDoor
set_option maxHeartbeats 16000000
set_option maxRecDepth 100000
open Go.RowKit
theorem zeN(i d:Nat){P:Program}{ops:Array Oper}{Q:Exit→Act→World→Prop}{md:Region.Mode}{S:World→Prop}{oi:Oper}{v:Value}{fuel:Nat}{listed:Array Bool}{a a':Act}{w:World}(hS:S w)(h:wpAnyH P md ops (NoPanic Q) S fuel (listed.setIfInBounds i true) a' w)(hi:ops[i]? = some oi:=by rfl)(hd:oi.dst=some d:=by rfl)(hs:Region.noSelect ops=true:=by kernel_rfl)(hf:Region.free md ops listed i=true:=by kernel_rfl)(hr:(Region.ready md ops listed).contains i=true:=by kernel_rfl)(hw:Region.wanted oi (yielded ops a.tmps)=true:=by kernel_rfl)(hy:∀ w,S w→(execOp a.eval oi).run P w=.ok (.value v) w:=by intro w hS;(try dsimp only[EntAt,TabAt,Nat.zero_add] at hS);go_simp;(try with_reducible rfl))(ha:a.put (some d) v=a':=by (try simp only[Act.put,sA,sZ,sS]);(try rfl)):wpAnyH P md ops (NoPanic Q) S (fuel+1) listed a w:=takeH hi hd hs hf hr (fun _ _ _ h=>h) (Or.inl ⟨hw,hy⟩) hS (ha ▸ h)
theorem zhy(va vb:Value)(us qs:List TV)(w:World)(ha:RdTs w va us)(hb:RdTs w vb qs)(hs:us.map (·.T)=qs.map (·.T)) :
 Calls Tryz.prog 75 #[va,vb] w fun e w'=>e=.returned (.bool true)∧Below w.heap.size w w':=by
 obtain⟨aa,ca,hva,hla,hma,-⟩:=id ha;obtain⟨ab,cb,hvb,hlb,hmb,-⟩:=id hb;have hl:qs.length=us.length:=by have:=congrArg List.length hs;simpa using this.symm
 rw[hl] at hvb hlb;obtain⟨nn,hnn⟩:∃ nn,nn=us.length:=⟨_,rfl⟩;rw[← hnn] at hva hla hvb hlb hl;have HNU:Hid (nn=us.length):=hnn;have HNQ:Hid (qs.length=nn):=hl;have HS:Hid (∀ k,k<nn→(nthT qs k).T=(nthT us k).T):=fun k hk=>by
  have h1:k<us.length:=by omega
  have h2:k<qs.length:=by omega
  have:=congrArg (fun l:List Tbl=>l[k]?) hs;simp only[List.getElem?_map,List.getElem?_eq_getElem h1,List.getElem?_eq_getElem h2,Option.map_some,Option.some.injEq] at this;rw[zak h1,zak h2,this]
 unfold maxLen at hma hmb;subst hva;subst hvb;have hne:((nn:Int) != (nn:Int))=false:=by simp
 clear hnn hl hs;go_enter Tryz.func75,Tryz.ntmps75
 go_wp2;go_loopw [5] (fun i wr=>∃ k:Nat,k≤nn∧i=.int .i64 k∧Below w.heap.size w wr) (fun i _=>nn-(intOf i).toNat)
 case atStart=>exact⟨0,Nat.zero_le _,rfl,Below.refl _ _⟩
 case round =>
  obtain⟨k,hk,rfl,hbw⟩:=hrel;by_cases hlt:k<nn
  ·obtain⟨b1,o1,rfl,hc1,hi1,hk1⟩:=(ha.below hbw).at k (by rw[← HNU.out];exact hlt);obtain⟨b2,o2,rfl,hc2,hi2,hk2⟩:=(hb.below hbw).at k (by rw[HNQ.out];exact hlt);have hT:=HS.out k hlt;rw[hT] at hi2 hk2;have hkc1:k<ca:=by omega
   have hkc2:k<cb:=by omega
   unfold TabAt at hc2;rw[hT] at hc2;clear hT;generalize (nthT qs k).vb=vb2 at hc2 hi2;generalize (nthT qs k).vk=vk2 at hc2 hk2;generalize nthT us k=t at hc1 hi1 hk1 hc2 hi2 hk2;obtain⟨T,vb1,vk1⟩:=t;unfold TabAt at hc1;simp only at hc1 hi1 hk1 hc2 hi2 hk2;go_wp2_with fail
   refine wp_region_noPanic ?_;refine wp_region_held_drew (S:=fun w'=>(w'.cell? ⟨b1,o1+k*4,none⟩=some (.string T.first)∧w'.cell? ⟨b1,o1+k*4+1,none⟩=some (.string T.last)∧w'.cell? ⟨b1,o1+k*4+2,none⟩=some vb1∧w'.cell? ⟨b1,o1+k*4+3,none⟩=some vk1)∧w'.cell? ⟨b2,o2+k*4,none⟩=some (.string T.first)∧w'.cell? ⟨b2,o2+k*4+1,none⟩=some (.string T.last)∧w'.cell? ⟨b2,o2+k*4+2,none⟩=some vb2∧w'.cell? ⟨b2,o2+k*4+3,none⟩=some vk2) (by kernel_rfl) ⟨hc1,hc2⟩ (fun hH=>?_);refine zeN 0 17 hH ?_;refine zeN 1 18 hH ?_;refine zeN 2 19 hH ?_;refine zeN 3 20 hH ?_;refine zeN 4 21 hH ?_;refine zeN 5 22 hH ?_;refine zeN 6 23 hH ?_;refine zeN 7 24 hH ?_;refine rdy 8 (fun K hK=>?_);go_simp;refine(zjA T vb1 vk1 vb2 vk2 _ (hi1.below (Below.refl _ _).drew) (hk1.below (Below.refl _ _).drew) (hi2.below (Below.refl _ _).drew) (hk2.below (Below.refl _ _).drew)).mono ?_;rintro e w1 ⟨rfl,hb1⟩;have hon:∀ a u,wr.drew.cell? a=some u→w1.cell? a=some u:=fun a u h=>(hb1.cell (World.block_lt_of_cell? _ _ h)).trans h
   refine hK.out _ _ ⟨⟨hon _ _ hH.1.1,hon _ _ hH.1.2.1,hon _ _ hH.1.2.2.1,hon _ _ hH.1.2.2.2⟩,hon _ _ hH.2.1,hon _ _ hH.2.2.1,hon _ _ hH.2.2.2.1,hon _ _ hH.2.2.2.2⟩ (fun hA=>?_);clear hK K;try simp only[Act.put,sA,sZ,sS]
   refine zeN 9 26 hA ?_;refine dne ?_;have bz:=hbw.drew.trans (hb1.mono hbw.size);clear hH hA hc1 hc2 hon;go_wp2;go_roundw
   case rel=>exact⟨k+1,by omega,by go_num,bz⟩
   case measure=>simp[intOf];omega
  ·have hke:k=nn:=by omega
   subst hke;go_wp2;go_ret;exact⟨rfl,hbw⟩
theorem zk1(Y Z:TrX)(w:World)(hy:RdTr w Y)(hz:RdTr w Z)(h:Y.tre=Z.tre) :
 Calls Tryz.prog 39 #[.agg #[Y.vm,Y.vy,Y.vo,.int .i64 Y.seq,Y.vs],.agg #[Z.vm,Z.vy,Z.vo,.int .i64 Z.seq,Z.vs]] w fun e w'=>e=.returned (.bool true)∧Below w.heap.size w w':=by
 have hmem:Y.mem=Z.mem:=congrArg Tre.mem h;have hyo:Y.ys.map (·.T)=Z.ys.map (·.T):=congrArg Tre.young h;have hol:Y.os.map (·.T)=Z.os.map (·.T):=congrArg Tre.old h;have hsq:Y.seq=Z.seq:=congrArg Tre.seq h;have hsn:Y.snaps=Z.snaps:=congrArg Tre.snaps h;have HM:Hid (∀ W,RdTr W Y→RdTr W Z→Calls Tryz.prog 74 #[Y.vm,Z.vm] W fun e w'=>e=.returned (.bool true)∧Below W.heap.size W w'):=fun W h1 h2=>zl2 _ _ Y.mem W h1.mem (by rw[hmem];exact h2.mem)
 have HY:Hid (∀ W,RdTr W Y→RdTr W Z→Calls Tryz.prog 75 #[Y.vy,Z.vy] W fun e w'=>e=.returned (.bool true)∧Below W.heap.size W w'):=fun W h1 h2=>zhy _ _ _ _ W h1.young h2.young hyo
 have HO:Hid (∀ W,RdTr W Y→RdTr W Z→Calls Tryz.prog 75 #[Y.vo,Z.vo] W fun e w'=>e=.returned (.bool true)∧Below W.heap.size W w'):=fun W h1 h2=>zhy _ _ _ _ W h1.old h2.old hol
 have HS:Hid (∀ W,RdTr W Y→RdTr W Z→Calls Tryz.prog 76 #[Y.vs,Z.vs] W fun e w'=>e=.returned (.bool true)∧∃ n,w'=W.drewN n):=fun W h1 h2=>zho _ _ Y.snaps W h1.snaps (by rw[hsn];exact h2.snaps)
 clear hmem hyo hol hsn h;rw[hsq];clear hsq;obtain⟨vm,vy,vo,vs,mem,ys,os,seq,snaps⟩:=Y;obtain⟨zm,zy,zo,zs,mem2,ys2,os2,seq2,snaps2⟩:=Z;simp only at HM HY HO HS ⊢;have t0:=zaI w ⟨vm,vy,vo,vs,mem,ys,os,seq2,snaps⟩ 34;have b0:=za w (.cells #[vm,vy,vo,.int .i64 seq2,vs] 34);simp only at t0;obtain⟨W0,hW0⟩:∃ W0,W0=w.alloc (.cells #[vm,vy,vo,.int .i64 seq2,vs] 34):=⟨_,rfl⟩;have s0:W0.heap.size=w.heap.size+1:=by rw[hW0];simp
 rw[← hW0] at t0 b0;have u1:=zaI W0 ⟨zm,zy,zo,zs,mem2,ys2,os2,seq2,snaps2⟩ 34;have b1:=za W0 (.cells #[zm,zy,zo,.int .i64 seq2,zs] 34);simp only at u1;obtain⟨W1,hW1⟩:∃ W1,W1=W0.alloc (.cells #[zm,zy,zo,.int .i64 seq2,zs] 34):=⟨_,rfl⟩;rw[← hW1] at u1 b1;rw[s0] at u1;have t1:=t0.below b1;have bw1:Below w.heap.size w W1:=b0.trans (b1.mono (by omega));have HW1:Hid ((w.alloc (.cells #[vm,vy,vo,.int .i64 seq2,vs] 34)).alloc (.cells #[zm,zy,zo,.int .i64 seq2,zs] 34)=W1):=by unfold Hid;rw[hW1,hW0]
 obtain⟨d0,d1,d2,d3,d4⟩:=id t1;obtain⟨e0,e1,e2,e3,e4⟩:=id u1;simp only at d0 d1 d2 d3 d4 e0 e1 e2 e3 e4;rw[hW1,hW0] at d0 d1 d2 d3 d4 e0 e1 e2 e3 e4;have hq:(seq2 != seq2)=false:=by simp
 clear t0 b0 b1 hW0 hW1 s0;go_enter Tryz.func39,Tryz.ntmps39
 go_wp2_with fail
 rw[HW1.out];refine(HM.out _ (hy.below bw1) (hz.below bw1)).mono ?_;rintro e w2 ⟨rfl,hb2⟩;have t2:=t1.below hb2;have u2:=u1.below hb2;have b2:=bw1.trans (hb2.mono bw1.size);clear d0 d1 d2 d3 d4 e0 e1 e2 e3 e4 t1 u1 bw1 hb2 HM HW1;obtain⟨d0,d1,d2,d3,d4⟩:=id t2;obtain⟨e0,e1,e2,e3,e4⟩:=id u2;simp only at d0 d1 d2 d3 d4 e0 e1 e2 e3 e4;go_wp2_with fail
 refine(HY.out _ (hy.below b2) (hz.below b2)).mono ?_;rintro e w3 ⟨rfl,hb3⟩;have t3:=t2.below hb3;have u3:=u2.below hb3;have b3:=b2.trans (hb3.mono b2.size);clear d0 d1 d2 d3 d4 e0 e1 e2 e3 e4 t2 u2 b2 hb3 HY;obtain⟨d0,d1,d2,d3,d4⟩:=id t3;obtain⟨e0,e1,e2,e3,e4⟩:=id u3;simp only at d0 d1 d2 d3 d4 e0 e1 e2 e3 e4;go_wp2_with fail
 refine(HO.out _ (hy.below b3) (hz.below b3)).mono ?_;rintro e w4 ⟨rfl,hb4⟩;have t4:=t3.below hb4;have u4:=u3.below hb4;have b4:=b3.trans (hb4.mono b3.size);clear d0 d1 d2 d3 d4 e0 e1 e2 e3 e4 t3 u3 b3 hb4 HO;obtain⟨d0,d1,d2,d3,d4⟩:=id t4;obtain⟨e0,e1,e2,e3,e4⟩:=id u4;simp only at d0 d1 d2 d3 d4 e0 e1 e2 e3 e4;go_wp2_with fail
 refine(HS.out _ (hy.below b4) (hz.below b4)).mono ?_;rintro e w5 ⟨rfl,n5,rfl⟩;have b5:=below_drewN b4 n5;clear d0 d1 d2 d3 d4 e0 e1 e2 e3 e4 HS;go_wp2;go_ret;exact⟨rfl,b5⟩
theorem RdTr.slices{w:World}{X:TrX}(h:RdTr w X):∃ (am ay ao an:Option Addr) (mn yn on nn cm cy co cn:Nat),X.vm=.slice am mn cm∧X.vy=.slice ay yn cy∧X.vo=.slice ao on co∧X.vs=.slice an nn cn:=by
 obtain⟨am,cm,hm,-⟩:=h.mem;obtain⟨ay,cy,hy,-⟩:=h.young;obtain⟨ao,co,ho,-⟩:=h.old;obtain⟨an,cn,hn,-⟩:=h.snaps;exact⟨am,ay,ao,an,_,_,_,_,cm,cy,co,cn,hm,hy,ho,hn⟩
open Go.RowKit
def blk(t:TV):List Nat:=oneB t.vb++oneB t.vk
theorem zcs(a:TV)(r:List TV):tblks (a::r)=blk a++tblks r:=by simp[tblks,blk]
theorem zbo{ts:List TV}{t:TV}(h:t∈ts){k:Nat}(hk:k∈blk t):k∈tblks ts:=List.mem_flatMap.2 ⟨t,h,hk⟩
theorem zg8:∀ {ts:List TV},(tblks ts).Nodup→ts.Pairwise (fun p q=>∀ k∈blk p,k ∉ blk q)
 | [],_=>List.Pairwise.nil
 | a::r,h=>by
  rw[zcs,List.nodup_append] at h;rw[List.pairwise_cons];exact⟨fun q hq k hk hk2=>h.2.2 k hk k (zbo hq hk2) rfl,zg8 h.2.1⟩
theorem zmY{ts:List TV}(h:(tblks ts).Nodup){i j:Nat}(hi:i<ts.length)(hj:j<ts.length)(hne:i≠j){k:Nat}(h1:k∈blk (nthT ts i)):k ∉ blk (nthT ts j):=by
 have hp:=List.pairwise_iff_getElem.1 (zg8 h);rw[zak hi] at h1;rw[zak hj];rcases Nat.lt_or_gt_of_ne hne with hl | hl
 ·exact hp i j hi hj hl k h1
 ·exact fun h2=>hp j i hj hi hl k h2 h1
theorem zeK{ts:List TV}{i:Nat}{t:TV}(hi:i<ts.length)(h1:t.vb=(nthT ts i).vb)(h2:t.vk=(nthT ts i).vk):tblks (ts.set i t)=tblks ts:=by
 induction ts generalizing i with
 | nil=>simp at hi
 | cons a r ih =>
  cases i with
  | zero =>
   rw[zgI] at h1 h2;rw[List.set_cons_zero,zcs,zcs];unfold blk;rw[h1,h2]
  | succ n =>
   rw[zhq] at h1 h2;rw[List.set_cons_succ,zcs,zcs,ih (by simpa using hi) h1 h2]
theorem zga{ts:List TV}{i:Nat}{t:TV}(hi:i<ts.length)(h:TC t=TC (nthT ts i)):TVs (ts.set i t)=TVs ts:=by
 induction ts generalizing i with
 | nil=>simp at hi
 | cons a r ih =>
  cases i with
  | zero=>rw[zgI] at h;rw[List.set_cons_zero,zaP,zaP,h]
  | succ n=>rw[zhq] at h;rw[List.set_cons_succ,zaP,zaP,ih (by simpa using hi) h]
theorem zi8{ts:List TV}{i j:Nat}{t:TV}(_:i<ts.length)(hj:j<ts.length):nthT (ts.set i t) j=if i=j then t else nthT ts j:=by
 rw[zak (by rw[List.length_set];exact hj),List.getElem_set,zak hj]
theorem inT_at{w:World}{B:Nat}{ts:List TV}:InT w B ts↔∀ i,i<ts.length→OwnI w B (nthT ts i).vb (nthT ts i).T.bits∧OwnS w B (nthT ts i).vk (nthT ts i).T.blocks:=by
 constructor
 ·intro h i hi;exact h (nthT ts i) (by rw[zak hi];exact List.getElem_mem hi)
 ·intro h t ht;obtain⟨i,hi,rfl⟩:=List.getElem_of_mem ht;rw[← zak hi];exact h i hi
theorem zmS{w:World}{B g n cap i j:Nat}{us:List TV}{s:ByteArray}{t:TV}(ho:OwnTs w B (.slice (some ⟨g,0,none⟩) n cap) us)(hn:n=us.length)(hi:i<us.length)(hj:j<2)(h:(TC (nthT us i)).set j (.string s)=TC t)(h1:t.vb=(nthT us i).vb)(h2:t.vk=(nthT us i).vk)(h3:t.T.bits=(nthT us i).T.bits)(h4:t.T.blocks=(nthT us i).T.blocks) :
 OwnTs (w.setCell ⟨g,i*4+j,none⟩ (.string s)) B (.slice (some ⟨g,0,none⟩) n cap) (us.set i t):=by
 have hrow:w.ownsRow B 118 4 (.slice (some ⟨g,0,none⟩) n cap) n (TVs us):=by have:=ho.row;unfold OwnT at this;rw[← hn] at this;exact this
 have R:=zfk hrow hi (show j<4 by omega) h;refine⟨?_,?_,by rw[zeK hi h1 h2];exact ho.nod⟩
 ·unfold OwnT;rw[List.length_set,← hn];exact R
 ·rw[inT_at];intro k hk;rw[List.length_set] at hk;have hin:=(inT_at.1 ho.ins) k hk;have gne:∀ {t' s' m:Nat} {v:Value} {xs:List Value},w.ownsRow B t' s' v m xs→t'≠118→∀ q,v.ownBlock=some q→g≠q:=fun hr ht q hq e=>zh hr hrow ht q hq (by rw[← e];rfl)
  have e1:OwnI (w.setCell ⟨g,i*4+j,none⟩ (.string s)) B (nthT us k).vb (nthT us k).T.bits:=zg hin.1 (gne hin.1 (by decide));have e2:OwnS (w.setCell ⟨g,i*4+j,none⟩ (.string s)) B (nthT us k).vk (nthT us k).T.blocks:=zg hin.2 (gne hin.2 (by decide));rw[zi8 hi hk];split
  ·rename_i e;subst e;rw[h1,h2,h3,h4];exact⟨e1,e2⟩
  ·exact⟨e1,e2⟩
theorem zm4{v:Value}{ts:List TV}(h:(oneB v++tblks ts).Nodup):(tblks ts).Nodup:=(List.nodup_append.1 h).2.1
theorem TC_inj{t u:TV}(h:TC t=TC u):t.vb=u.vb∧t.vk=u.vk:=by
 simp only[TC,List.cons.injEq,and_true] at h;exact⟨h.2.2.1,h.2.2.2⟩
theorem ts_bits{w w2:World}{B i:Nat}{v:Value}{us:List TV}{t:TV}(ho:OwnTs w B v us)(hi:i<us.length)(e1:TC t=TC (nthT us i))(e2:t.T.blocks=(nthT us i).T.blocks)(hnew:OwnI w2 B t.vb t.T.bits)(hg:w.grownBy w2 t.vb.ownBlock) :
 OwnTs w2 B v (us.set i t):=by
 have hin:=inT_at.1 ho.ins;obtain⟨v1,v2⟩:=TC_inj e1;rw[v1] at hg;refine⟨?_,?_,by rw[zeK hi v1 v2];exact ho.nod⟩
 ·unfold OwnT;rw[List.length_set,zga hi e1];exact zj ho.row hg (fun q hq e=>zh ho.row (hin i hi).1 (by decide) q hq e)
 ·rw[inT_at];intro k hk;rw[List.length_set] at hk;rw[zi8 hi hk];split
  ·rw[v2,e2];exact⟨hnew,zj (hin i hi).2 hg (fun q hq e=>zh (hin i hi).2 (hin i hi).1 (by decide) q hq e)⟩
  ·rename_i hne;refine⟨zj (hin k hk).1 hg (fun q hq e=>?_),zj (hin k hk).2 hg (fun q hq e=>zh (hin k hk).2 (hin i hi).1 (by decide) q hq e)⟩;exact zmY (zm4 ho.nod) hi hk hne (List.mem_append_left _ (mem_oneB.2 e)) (List.mem_append_left _ (mem_oneB.2 hq))
theorem zoF{w w2:World}{B i:Nat}{v:Value}{us:List TV}{t:TV}(ho:OwnTs w B v us)(hi:i<us.length)(e1:TC t=TC (nthT us i))(e2:t.T.bits=(nthT us i).T.bits)(hnew:OwnS w2 B t.vk t.T.blocks)(hg:w.grownBy w2 t.vk.ownBlock) :
 OwnTs w2 B v (us.set i t):=by
 have hin:=inT_at.1 ho.ins;obtain⟨v1,v2⟩:=TC_inj e1;rw[v2] at hg;refine⟨?_,?_,by rw[zeK hi v1 v2];exact ho.nod⟩
 ·unfold OwnT;rw[List.length_set,zga hi e1];exact zj ho.row hg (fun q hq e=>zh ho.row (hin i hi).2 (by decide) q hq e)
 ·rw[inT_at];intro k hk;rw[List.length_set] at hk;rw[zi8 hi hk];split
  ·rw[v1,e2];exact⟨zj (hin i hi).1 hg (fun q hq e=>zh (hin i hi).1 (hin i hi).2 (by decide) q hq e),hnew⟩
  ·rename_i hne;refine⟨zj (hin k hk).1 hg (fun q hq e=>zh (hin k hk).1 (hin i hi).2 (by decide) q hq e),zj (hin k hk).2 hg (fun q hq e=>?_)⟩;exact zmY (zm4 ho.nod) hi hk hne (List.mem_append_right _ (mem_oneB.2 e)) (List.mem_append_right _ (mem_oneB.2 hq))
def cntT(ts:List TV):Nat:=(ts.map (fun t=>2+t.T.bits.length+t.T.blocks.length)).sum
def mkT(k:Nat)(t:TV):TV:=⟨⟨mk k,mk (k+1),zae (k+2) t.T.bits.length,zaJ (k+2+t.T.bits.length) t.T.blocks.length⟩,t.vb,t.vk⟩
def tmkTo(k:Nat)(ts:List TV)(i:Nat):List TV:=(List.range i).map (fun j=>mkT (k+cntT (ts.take j)) (nthT ts j))
theorem zcm(k:Nat)(ts:List TV)(i:Nat):(tmkTo k ts i).length=i:=by simp[tmkTo]
theorem zjM{ts:List TV}{k:Nat}(hk:k<ts.length):cntT (ts.take (k+1))=cntT (ts.take k)+(2+(nthT ts k).T.bits.length+(nthT ts k).T.blocks.length):=by
 unfold cntT;rw[zhb hk,List.map_append,List.sum_append];simp
theorem zq9{ts:List TV}{k:Nat}:cntT (ts.take k)≤cntT ts:=by
 have h:ts=ts.take k++ts.drop k:=(List.take_append_drop k ts).symm;have h2:cntT ts=cntT (ts.take k)+cntT (ts.drop k):=by
  unfold cntT;rw[← List.sum_append,← List.map_append,List.take_append_drop]
 omega
theorem zlU{k:Nat}{ts:List TV}{i:Nat}(hi:i<ts.length):nthT (tmkTo k ts i++ts.drop i) i=nthT ts i:=by
 have hl:=zcm k ts i;rw[zak (by rw[List.length_append,hl,List.length_drop];omega),List.getElem_append_right (by rw[hl];exact Nat.le_refl _),zak hi];simp[hl]
theorem zoQ{k:Nat}{ts:List TV}{i:Nat}(hi:i≤ts.length):(tmkTo k ts i++ts.drop i).length=ts.length:=by
 rw[List.length_append,zcm,List.length_drop];omega
theorem zmM{k:Nat}{ts:List TV}{i:Nat}(hi:i<ts.length):(tmkTo k ts i++ts.drop i).set i (mkT (k+cntT (ts.take i)) (nthT ts i))=tmkTo k ts (i+1)++ts.drop (i+1):=by
 have hl:=zcm k ts i;rw[List.set_append_right _ _ (by rw[hl];exact Nat.le_refl _),hl,Nat.sub_self,List.drop_eq_getElem_cons hi,List.set_cons_zero];unfold tmkTo;rw[List.range_succ,List.map_append,List.append_assoc];rfl
theorem imark_at(v:Value)(bs:List Int)(base:Nat)(x:Int)(k:Nat)(w:World)(hx:x=(k:Int))(hk:k+bs.length≤1073741824)(hown:OwnI w base v bs) :
 Calls Tryz.prog 82 #[v,.int .i64 x] w fun e w'=>e=.returned (.int .i64 ((k+bs.length:Nat):Int))∧OwnI w' base v (zae k bs.length)∧w.grownBy w' v.ownBlock:=by rw[hx];exact zj7 v bs base k w hk hown
theorem smark_at(v:Value)(bs:List ByteArray)(base:Nat)(x:Int)(k:Nat)(w:World)(hx:x=(k:Int))(hk0:0<k)(hk:k+bs.length≤4194304)(hown:OwnS w base v bs) :
 Calls Tryz.prog 121 #[v,.int .i64 x] w fun e w'=>e=.returned (.int .i64 ((k+bs.length:Nat):Int))∧OwnS w' base v (zaJ k bs.length)∧w.grownBy w' v.ownBlock:=by rw[hx];exact zoM v bs base k w hk0 hk hown
def zj4(w:World)(B k:Nat)(v:Value)(ts:List TV)(e:Ending)(w':World):Prop :=
 e=.returned (.int .i64 ((k+cntT ts:Nat):Int))∧OwnTs w' B v (tmkTo k ts ts.length)∧Touch (oneB v++tblks ts) w w'
theorem zf3(v:Value)(ts:List TV)(B k:Nat)(w:World)(ho:OwnTs w B v ts)(hk0:0<k)(hkn:ts=[]∨k+cntT ts≤4194304) :
 Calls Tryz.prog 81 #[v,.int .i64 (k:Int)] w fun e w'=>zj4 w B k v ts e w':=by
 rcases ho.row.2 with ⟨hv,h0⟩ | ⟨g,cap,cur,hv,hBg,hg,hn,hc,_⟩
 ·have:ts=[]:=List.length_eq_zero_iff.1 h0;subst this;subst hv;have END:Hid (zj4 w B k (.slice none 0 0) [] (.returned (.int .i64 (k:Int))) w):=⟨by simp[cntT],ho,Touch.refl _ _⟩;go_enter Tryz.func81,Tryz.ntmps81
  go_wp2;refine wp_loop_rounds 1 ?_;rw[rounds_succ];go_wp2;go_ret;exact END.out
 ·subst hv;unfold maxLen at hc;obtain⟨nn,hnn⟩:∃ nn,nn=ts.length:=⟨_,rfl⟩;have HNN:Hid (nn=ts.length):=hnn;rw[← hnn] at ho hn ⊢;have HKB:Hid (ts=[]∨k+cntT ts≤4194304):=hkn;clear hkn;have HGB:Hid (g∈oneB (.slice (some ⟨g,0,none⟩) nn cap)++tblks ts):=List.mem_append_left _ (mem_oneB.2 rfl);clear hg hnn;have ST0:OwnTs w B (.slice (some ⟨g,0,none⟩) nn cap) (tmkTo k ts 0++ts.drop 0):=ho;go_enter Tryz.func81,Tryz.ntmps81
  go_wp2;go_loopw [1,5] (fun kk i wr=>∃ (j z:Nat),j≤nn∧i=.int .i64 j∧kk=.int .i64 (z:Int)∧Hid (z=k+cntT (ts.take j))∧Hid (OwnTs wr B (.slice (some ⟨g,0,none⟩) nn cap) (tmkTo k ts j++ts.drop j))∧Hid (Touch (oneB (.slice (some ⟨g,0,none⟩) nn cap)++tblks ts) w wr)) (fun _ i _=>nn-(intOf i).toNat)
  case atStart=>exact⟨0,k,Nat.zero_le _,rfl,rfl,by unfold Hid;simp[cntT],ST0,Touch.refl _ _⟩
  case round =>
   obtain⟨j,z,hj,rfl,rfl,HZ,HO,HT⟩:=hrel;clear ST0 ho;by_cases hlt:j<nn
   ·have hjl:j<ts.length:=by rw[← HNN.out];exact hlt
    have hjc:j<cap:=by omega
    have hz0:0<z:=by have:=HZ.out;omega
    have hkn:k+cntT ts≤4194304:=by
     rcases HKB.out with e | e
     ·rw[e] at hjl;simp at hjl
     ·exact e
    have hct:=zjM hjl;have hcl:=zq9 (ts:=ts) (k:=j+1);have HNT:Hid (nthT (tmkTo k ts j++ts.drop j) j=nthT ts j):=zlU hjl;have HLN:Hid ((tmkTo k ts j++ts.drop j).length=nn):=by unfold Hid;rw[zoQ (by omega),HNN.out]
    have HSTP:Hid ((tmkTo k ts j++ts.drop j).set j (mkT z (nthT ts j))=tmkTo k ts (j+1)++ts.drop (j+1)):=by unfold Hid;rw[HZ.out];exact zmM hjl
    have HZN:Hid (z+2+(nthT ts j).T.bits.length+(nthT ts j).T.blocks.length=k+cntT (ts.take (j+1))):=by unfold Hid;have:=HZ.out;omega
    have hzn:z+2+(nthT ts j).T.bits.length+(nthT ts j).T.blocks.length≤4194304:=by have:=HZ.out;omega
    have HSUB:Hid (∀ q∈blk (nthT ts j),q∈oneB (.slice (some ⟨g,0,none⟩) nn cap)++tblks ts):=fun q hq=>List.mem_append_right _ (zbo (by rw[zak hjl];exact List.getElem_mem hjl) hq)
    generalize tmkTo k ts j++ts.drop j=us at HO HNT HLN HSTP;clear hct hcl hjl hkn;have hlu:j<us.length:=by rw[HLN.out];exact hlt
    have e0:=HNT.out;obtain⟨t,ht⟩:∃ t,t=nthT us j:=⟨_,rfl⟩;rw[← e0] at HSTP HZN hzn HSUB;rw[← ht] at HSTP HZN hzn HSUB;have HTU:Hid (t=nthT us j):=ht;clear e0 ht HNT;obtain⟨bn,hbn⟩:∃ bn,bn=t.T.bits.length:=⟨_,rfl⟩;obtain⟨kn,hkn2⟩:∃ kn,kn=t.T.blocks.length:=⟨_,rfl⟩;rw[← hbn,← hkn2] at HZN hzn;have HBN:Hid (bn=t.T.bits.length):=hbn;have HKN:Hid (kn=t.T.blocks.length):=hkn2;clear hbn hkn2;go_wp2_with fail
    refine(zf6 z _ hz0 (by omega)).mono ?_;rintro e w1 ⟨rfl,hb1⟩;have HO1:=HO.out.below hb1;have HT1:=HT.out.trans (Touch.of_below hb1);have hrow1:w1.ownsRow B 118 4 (.slice (some ⟨g,0,none⟩) nn cap) nn (TVs us):=by have:=HO1.row;unfold OwnT at this;rw[HLN.out] at this;exact this
    obtain⟨d0,-,-,-⟩:=zbg hrow1 HLN.out.symm j hlt;have f0:=hrow1.frozenAt (j*4);have S1:OwnTs (w1.setCell ⟨g,j*4,none⟩ (.string (mk z))) B (.slice (some ⟨g,0,none⟩) nn cap) (us.set j ⟨⟨mk z,t.T.last,t.T.bits,t.T.blocks⟩,t.vb,t.vk⟩):=zmS (j:=0) HO1 HLN.out.symm hlu (by omega) (by rw[← HTU.out];rfl) (by rw[← HTU.out]) (by rw[← HTU.out]) (by rw[← HTU.out]) (by rw[← HTU.out]);have HT2:Hid (Touch _ w (w1.setCell ⟨g,j*4,none⟩ (.string (mk z)))):=HT1.trans (Touch.set HGB.out);have HS1:Hid (OwnTs _ _ _ _):=S1;have hz1:0<z+1:=by omega
    clear HO1 HT1 hrow1 S1 HO HT hb1;go_wp2_with fail
    refine(zaA _ (z+1) _ (by omega) hz1 (by omega)).mono ?_;rintro e w2 ⟨rfl,hb2⟩;have HO2:=HS1.out.below hb2;have HT3:=HT2.out.trans (Touch.of_below hb2);have HN2:Hid (nthT (us.set j (⟨⟨mk z,t.T.last,t.T.bits,t.T.blocks⟩,t.vb,t.vk⟩:TV)) j=(⟨⟨mk z,t.T.last,t.T.bits,t.T.blocks⟩,t.vb,t.vk⟩:TV)):=zbr hlu (⟨⟨mk z,t.T.last,t.T.bits,t.T.blocks⟩,t.vb,t.vk⟩:TV);have HL2:Hid (nn=(us.set j ⟨⟨mk z,t.T.last,t.T.bits,t.T.blocks⟩,t.vb,t.vk⟩).length):=by unfold Hid;rw[List.length_set];exact HLN.out.symm
    have hrow2:w2.ownsRow B 118 4 (.slice (some ⟨g,0,none⟩) nn cap) nn (TVs (us.set j ⟨⟨mk z,t.T.last,t.T.bits,t.T.blocks⟩,t.vb,t.vk⟩)):=by have:=HO2.row;unfold OwnT at this;rw[← HL2.out] at this;exact this
    obtain⟨-,d1,-,-⟩:=zbg hrow2 HL2.out j hlt;have f1:=hrow2.frozenAt (j*4+1);have S2:OwnTs (w2.setCell ⟨g,j*4+1,none⟩ (.string (mk (z+1)))) B (.slice (some ⟨g,0,none⟩) nn cap) ((us.set j ⟨⟨mk z,t.T.last,t.T.bits,t.T.blocks⟩,t.vb,t.vk⟩).set j ⟨⟨mk z,mk (z+1),t.T.bits,t.T.blocks⟩,t.vb,t.vk⟩):=zmS (j:=1) HO2 HL2.out (by rw[← HL2.out];exact hlt) (by omega) (by rw[HN2.out];rfl) (by rw[HN2.out]) (by rw[HN2.out]) (by rw[HN2.out]) (by rw[HN2.out]);rw[List.set_set] at S2;have HT4:Hid (Touch _ w (w2.setCell ⟨g,j*4+1,none⟩ (.string (mk (z+1))))):=HT3.trans (Touch.set HGB.out);have HL3:Hid (nn=(us.set j ⟨⟨mk z,mk (z+1),t.T.bits,t.T.blocks⟩,t.vb,t.vk⟩).length):=by unfold Hid;rw[List.length_set];exact HLN.out.symm
    have HN3:Hid (nthT (us.set j (⟨⟨mk z,mk (z+1),t.T.bits,t.T.blocks⟩,t.vb,t.vk⟩:TV)) j=(⟨⟨mk z,mk (z+1),t.T.bits,t.T.blocks⟩,t.vb,t.vk⟩:TV)):=zbr hlu (⟨⟨mk z,mk (z+1),t.T.bits,t.T.blocks⟩,t.vb,t.vk⟩:TV);have hrow3:(w2.setCell ⟨g,j*4+1,none⟩ (.string (mk (z+1)))).ownsRow B 118 4 (.slice (some ⟨g,0,none⟩) nn cap) nn (TVs (us.set j ⟨⟨mk z,mk (z+1),t.T.bits,t.T.blocks⟩,t.vb,t.vk⟩)):=by have:=S2.row;unfold OwnT at this;rw[← HL3.out] at this;exact this
    have g2:=(zbg hrow3 HL3.out j hlt).2.2.1;rw[HN3.out] at g2;have hin3:=(inT_at.1 S2.ins) j (by rw[← HL3.out];exact hlt);rw[HN3.out] at hin3;have HS2:Hid (OwnTs _ _ _ _):=S2;have HIN3:Hid (_∧_):=hin3;clear HO2 HT3 hrow2 hrow3 HL2 HN2 S2 HS1 HT2 hb2 hin3 d0 f0;go_wp2_with fail
    refine(imark_at t.vb t.T.bits B _ (z+2) _ (by omega) (by have:=HBN.out;omega) HIN3.out.1).mono ?_;rintro e w3 ⟨rfl,hi3,hg3⟩;have S3:OwnTs w3 B (.slice (some ⟨g,0,none⟩) nn cap) ((us.set j ⟨⟨mk z,mk (z+1),t.T.bits,t.T.blocks⟩,t.vb,t.vk⟩).set j ⟨⟨mk z,mk (z+1),zae (z+2) t.T.bits.length,t.T.blocks⟩,t.vb,t.vk⟩):=ts_bits HS2.out (by rw[← HL3.out];exact hlt) (by rw[HN3.out];rfl) (by rw[HN3.out]) hi3 hg3;rw[List.set_set,← HBN.out] at S3;have HT5:Hid (Touch _ w w3):=HT4.out.trans (Touch.of_grown hg3 (fun q hq=>HSUB.out q (List.mem_append_left _ (mem_oneB.2 hq))));have HL4:Hid (nn=(us.set j ⟨⟨mk z,mk (z+1),zae (z+2) bn,t.T.blocks⟩,t.vb,t.vk⟩).length):=by unfold Hid;rw[List.length_set];exact HLN.out.symm
    have HN4:Hid (nthT (us.set j (⟨⟨mk z,mk (z+1),zae (z+2) bn,t.T.blocks⟩,t.vb,t.vk⟩:TV)) j=(⟨⟨mk z,mk (z+1),zae (z+2) bn,t.T.blocks⟩,t.vb,t.vk⟩:TV)):=zbr hlu (⟨⟨mk z,mk (z+1),zae (z+2) bn,t.T.blocks⟩,t.vb,t.vk⟩:TV);have hrow4:w3.ownsRow B 118 4 (.slice (some ⟨g,0,none⟩) nn cap) nn (TVs (us.set j ⟨⟨mk z,mk (z+1),zae (z+2) bn,t.T.blocks⟩,t.vb,t.vk⟩)):=by have:=S3.row;unfold OwnT at this;rw[← HL4.out] at this;exact this
    have g3:=(zbg hrow4 HL4.out j hlt).2.2.2;rw[HN4.out] at g3;have hin4:=(inT_at.1 S3.ins) j (by rw[← HL4.out];exact hlt);rw[HN4.out] at hin4;have HS3:Hid (OwnTs _ _ _ _):=S3;have HIN4:Hid (_∧_):=hin4;rw[← HBN.out];clear hrow4 S3 HS2 HIN3 HT4 hg3 hi3 hin4 d1 f1 g2 HL3 HN3;go_wp2_with fail
    refine(smark_at t.vk t.T.blocks B _ (z+2+bn) _ (by omega) (by omega) (by have:=HKN.out;omega) HIN4.out.2).mono ?_;rintro e w4 ⟨rfl,hk4,hg4⟩;have S4:OwnTs w4 B (.slice (some ⟨g,0,none⟩) nn cap) ((us.set j ⟨⟨mk z,mk (z+1),zae (z+2) bn,t.T.blocks⟩,t.vb,t.vk⟩).set j (mkT z t)):=zoF HS3.out (by rw[← HL4.out];exact hlt) (by rw[HN4.out];rfl) (by rw[HN4.out];show zae (z+2) t.T.bits.length=zae (z+2) bn;rw[HBN.out]) (by show OwnS w4 B t.vk (zaJ (z+2+t.T.bits.length) t.T.blocks.length);rw[← HBN.out];exact hk4) hg4;rw[List.set_set,HSTP.out] at S4;have HT6:Hid (Touch _ w w4):=HT5.out.trans (Touch.of_grown hg4 (fun q hq=>HSUB.out q (List.mem_append_right _ (mem_oneB.2 hq))));have HS4:Hid (OwnTs _ _ _ _):=S4;rw[← HKN.out];obtain⟨z2,hz2⟩:∃ z2,z2=z+2+bn+kn:=⟨_,rfl⟩;rw[← hz2];have HZ2:Hid (z2=k+cntT (ts.take (j+1))):=by rw[hz2];exact HZN.out
    clear S4 HS3 HIN4 HT5 hg4 hk4 g3 HL4 HN4 hz2 HZN;go_wp2;go_roundw
    case rel=>exact⟨j+1,z2,by omega,by go_num,rfl,HZ2,HS4,HT6⟩
    case measure=>simp[intOf];omega
   ·have hje:j=nn:=by omega
    have END:Hid (zj4 w B k (.slice (some ⟨g,0,none⟩) nn cap) ts (.returned (.int .i64 (z:Int))) wr):=by
     have h1:=HZ.out;have h2:=HO.out;rw[hje,HNN.out,List.take_length] at h1;rw[hje,HNN.out,List.drop_length,List.append_nil] at h2;refine⟨by rw[h1],?_,HT.out⟩;rw[← HNN.out] at h2 ⊢;exact h2
    clear hje HO HT HZ;go_wp2;go_ret;exact END.out
theorem OwnTs.touch{bs:List Nat}{w w':World}{B:Nat}{v:Value}{ts:List TV}(h:OwnTs w B v ts)(ht:Touch bs w w')(hn:∀ k∈oneB v++tblks ts,k ∉ bs):OwnTs w' B v ts :=
 ⟨ht.row h.row (fun k hk=>hn k (List.mem_append_left _ (mem_oneB.2 hk))),fun t hm=>⟨ht.row (h.ins t hm).1 (fun k hk=>hn k (List.mem_append_right _ (zbo hm (List.mem_append_left _ (mem_oneB.2 hk))))),ht.row (h.ins t hm).2 (fun k hk=>hn k (List.mem_append_right _ (zbo hm (List.mem_append_right _ (mem_oneB.2 hk)))))⟩,h.nod⟩
theorem zhn{k:Nat}{ts:List TV}:∀ i,i≤ts.length→tblks (tmkTo k ts i++ts.drop i)=tblks ts
 | 0,_=>rfl
 | i+1,h=>by
  have hi:i<ts.length:=by omega
  rw[← zmM hi,zeK (by rw[zoQ (by omega)];exact hi) (by rw[zlU hi];rfl) (by rw[zlU hi];rfl)];exact zhn i (by omega)
theorem zeS(k:Nat)(ts:List TV):tblks (tmkTo k ts ts.length)=tblks ts:=by
 have:=zhn (k:=k) (ts:=ts) ts.length (Nat.le_refl _);rwa [List.drop_length,List.append_nil] at this
def mkTr(k:Nat)(Y:TrX):TrX:=⟨Y.vm,Y.vy,Y.vo,Y.vs,zar k Y.mem.length,tmkTo (k+4*Y.mem.length) Y.ys Y.ys.length,tmkTo (k+4*Y.mem.length+cntT Y.ys) Y.os Y.os.length,Y.seq,zae (k+4*Y.mem.length+cntT Y.ys+cntT Y.os) Y.snaps.length⟩
def cntTr(Y:TrX):Nat:=4*Y.mem.length+cntT Y.ys+cntT Y.os+Y.snaps.length
theorem trB_mk(k:Nat)(Y:TrX):trB (mkTr k Y)=trB Y:=by
 unfold trB mkTr;simp only[zeS]
structure Room (k:Nat) (Y:TrX):Prop where
 mem:k+4*Y.mem.length≤4194305
 ys:Y.ys=[]∨k+4*Y.mem.length+cntT Y.ys≤4194304
 os:Y.os=[]∨k+4*Y.mem.length+cntT Y.ys+cntT Y.os≤4194304
 all:k+cntTr Y≤1073741824
def MarkTr(w:World)(B k:Nat)(Y:TrX)(e:Ending)(w':World):Prop :=
 e=.returned (.int .i64 ((k+cntTr Y:Nat):Int))∧OwnTree w' B (mkTr k Y)∧Touch (trB Y) w w'
theorem zj8(Y:TrX)(B k:Nat)(w:World)(ho:OwnTree w B Y)(hk0:0<k)(hr:Room k Y) :
 Calls Tryz.prog 42 #[.agg #[Y.vm,Y.vy,Y.vo,.int .i64 Y.seq,Y.vs],.int .i64 (k:Int)] w fun e w'=>MarkTr w B k Y e w':=by
 obtain⟨r1,r2,r3,r4⟩:=hr;have hnod:=ho.nod;have NOD:Hid ((trB Y).Nodup):=hnod;unfold trB at hnod;obtain⟨-,hn2,hd1⟩:=List.nodup_append.1 hnod;obtain⟨-,hn3,hd2⟩:=List.nodup_append.1 hn2;obtain⟨-,-,hd3⟩:=List.nodup_append.1 hn3;have hny:(oneB Y.vy++tblks Y.ys).Nodup:=(List.nodup_append.1 hn2).1;have hno:(oneB Y.vo++tblks Y.os).Nodup:=(List.nodup_append.1 hn3).1;have D1:Hid (∀ a∈oneB Y.vm,∀ b∈(oneB Y.vy++tblks Y.ys)++((oneB Y.vo++tblks Y.os)++oneB Y.vs),a≠b):=hd1;have D2:Hid (∀ a∈oneB Y.vy++tblks Y.ys,∀ b∈(oneB Y.vo++tblks Y.os)++oneB Y.vs,a≠b):=hd2;have D3:Hid (∀ a∈oneB Y.vo++tblks Y.os,∀ b∈oneB Y.vs,a≠b):=hd3;have HM:Hid (∀ W,OwnE W B Y.vm Y.mem→Calls Tryz.prog 80 #[Y.vm,.int .i64 (k:Int)] W fun e w'=>e=.returned (.int .i64 ((k:Int)+4*(Y.mem.length:Int)))∧OwnE w' B Y.vm (zar k Y.mem.length)∧W.grownBy w' Y.vm.ownBlock):=fun W h=>zor _ _ B k W hk0 r1 h
 obtain⟨k1,hk1⟩:∃ k1,k1=k+4*Y.mem.length:=⟨_,rfl⟩;obtain⟨k2,hk2⟩:∃ k2,k2=k1+cntT Y.ys:=⟨_,rfl⟩;obtain⟨k3,hk3⟩:∃ k3,k3=k2+cntT Y.os:=⟨_,rfl⟩;have HY:Hid (∀ W,OwnTs W B Y.vy Y.ys→Calls Tryz.prog 81 #[Y.vy,.int .i64 (k1:Int)] W fun e w'=>e=.returned (.int .i64 (k2:Int))∧OwnTs w' B Y.vy (tmkTo k1 Y.ys Y.ys.length)∧Touch (oneB Y.vy++tblks Y.ys) W w'):=fun W h=>by
  have:=zf3 Y.vy Y.ys B k1 W h (by omega) (by rw[hk1];exact r2);unfold zj4 at this;rw[← hk2] at this;exact this
 have HO:Hid (∀ W,OwnTs W B Y.vo Y.os→Calls Tryz.prog 81 #[Y.vo,.int .i64 (k2:Int)] W fun e w'=>e=.returned (.int .i64 (k3:Int))∧OwnTs w' B Y.vo (tmkTo k2 Y.os Y.os.length)∧Touch (oneB Y.vo++tblks Y.os) W w'):=fun W h=>by
  have:=zf3 Y.vo Y.os B k2 W h (by omega) (by rw[hk2,hk1];exact r3);unfold zj4 at this;rw[← hk3] at this;exact this
 have HS:Hid (∀ W,OwnI W B Y.vs Y.snaps→Calls Tryz.prog 82 #[Y.vs,.int .i64 (k3:Int)] W fun e w'=>e=.returned (.int .i64 ((k3+Y.snaps.length:Nat):Int))∧OwnI w' B Y.vs (zae k3 Y.snaps.length)∧W.grownBy w' Y.vs.ownBlock):=fun W h=>zj7 _ _ B k3 W (by unfold cntTr at r4;omega) h
 have HEQ:Hid (k3+Y.snaps.length=k+cntTr Y):=by unfold Hid cntTr;omega
 have HMK:Hid (mkTr k Y=⟨Y.vm,Y.vy,Y.vo,Y.vs,zar k Y.mem.length,tmkTo k1 Y.ys Y.ys.length,tmkTo k2 Y.os Y.os.length,Y.seq,zae k3 Y.snaps.length⟩):=by unfold Hid mkTr;rw[hk3,hk2,hk1]
 have HK1:Hid ((k:Int)+4*(Y.mem.length:Int)=(k1:Int)):=by unfold Hid;omega
 have hk3b:k3+Y.snaps.length≤1073741824:=by rw[HEQ.out];exact r4
 rw[HK1.out] at HM;have HTB:Hid ((∀ q∈oneB Y.vm,q∈trB Y)∧(∀ q∈oneB Y.vy++tblks Y.ys,q∈trB Y)∧(∀ q∈oneB Y.vo++tblks Y.os,q∈trB Y)∧(∀ q∈oneB Y.vs,q∈trB Y)):=by
  unfold Hid trB;exact⟨fun q hq=>List.mem_append_left _ hq,fun q hq=>List.mem_append_right _ (List.mem_append_left _ hq),fun q hq=>List.mem_append_right _ (List.mem_append_right _ (List.mem_append_left _ hq)),fun q hq=>List.mem_append_right _ (List.mem_append_right _ (List.mem_append_right _ hq))⟩
 clear hk1 hk2 hk3 r1 r2 r3 r4 hnod hn2 hn3 hd1 hd2 hd3 HK1;have t0:=zaI w Y 34;have b0:=za w (.cells #[Y.vm,Y.vy,Y.vo,.int .i64 Y.seq,Y.vs] 34);have hb0:w.heap.size<(w.alloc (.cells #[Y.vm,Y.vy,Y.vo,.int .i64 Y.seq,Y.vs] 34)).heap.size:=by simp
 have ho0:=ho.below b0;have NB:Hid (∀ q∈trB Y,q<w.heap.size):=fun q hq=>(ho.bound hq).2
 have T0:Hid (Touch (trB Y) w (w.alloc (.cells #[Y.vm,Y.vy,Y.vo,.int .i64 Y.seq,Y.vs] 34))):=Touch.of_below b0;obtain⟨q0,q1,q2,q3,q4⟩:=id t0;have OY:OwnTs _ B Y.vy Y.ys:=⟨ho0.young,ho0.youngs,hny⟩;have OO:OwnTs _ B Y.vo Y.os:=⟨ho0.old,ho0.olds,hno⟩;have hm0:=ho0.mem;have hs0:=ho0.snaps;clear ho b0 hny hno ho0;go_enter Tryz.func42,Tryz.ntmps42
 go_wp2_with fail
 generalize w.alloc (.cells #[Y.vm,Y.vy,Y.vo,.int .i64 Y.seq,Y.vs] 34)=W0 at t0 hb0 T0 OY OO hm0 hs0 q0 q1 q2 q3 q4 ⊢;refine(HM.out _ hm0).mono ?_;rintro e w1 ⟨rfl,hm1,hg1⟩;have tch1:Touch (oneB Y.vm) W0 w1:=Touch.of_grown hg1 (fun q hq=>mem_oneB.2 hq);have t1:TreAt w1 w.heap.size Y:=t0.of_block (tch1.block _ hb0 (fun e=>by have:=NB.out _ (HTB.out.1 _ e);omega));have OY1:=OY.touch tch1 (fun q hq e=>D1.out q e q (List.mem_append_left _ hq) rfl);have OO1:=OO.touch tch1 (fun q hq e=>D1.out q e q (List.mem_append_right _ (List.mem_append_left _ hq)) rfl);have hs1:OwnI w1 B Y.vs Y.snaps:=tch1.row hs0 (fun q hq e=>D1.out q e q (List.mem_append_right _ (List.mem_append_right _ (mem_oneB.2 hq))) rfl);have T1:Hid (Touch (trB Y) w w1):=T0.out.trans (tch1.more HTB.out.1);have hb1:w.heap.size<w1.heap.size:=Nat.lt_of_lt_of_le hb0 tch1.size;clear t0 hb0 T0 OY OO hm0 hs0 q0 q1 q2 q3 q4 hg1 tch1 HM;obtain⟨q0,q1,q2,q3,q4⟩:=id t1;go_wp2_with fail
 refine(HY.out _ OY1).mono ?_;rintro e w2 ⟨rfl,hy2,tch2⟩;have t2:TreAt w2 w.heap.size Y:=t1.of_block (tch2.block _ hb1 (fun e=>by have:=NB.out _ (HTB.out.2.1 _ e);omega));have hm2:OwnE w2 B Y.vm (zar k Y.mem.length):=tch2.row hm1 (fun q hq e=>D1.out q (mem_oneB.2 hq) q (List.mem_append_left _ e) rfl);have OO2:=OO1.touch tch2 (fun q hq e=>D2.out q e q (List.mem_append_left _ hq) rfl);have hs2:OwnI w2 B Y.vs Y.snaps:=tch2.row hs1 (fun q hq e=>D2.out q e q (List.mem_append_right _ (mem_oneB.2 hq)) rfl);have T2:Hid (Touch (trB Y) w w2):=T1.out.trans (tch2.more HTB.out.2.1);have hb2:w.heap.size<w2.heap.size:=Nat.lt_of_lt_of_le hb1 tch2.size;clear t1 hb1 T1 OY1 OO1 hm1 hs1 q0 q1 q2 q3 q4 tch2 HY;obtain⟨q0,q1,q2,q3,q4⟩:=id t2;go_wp2_with fail
 refine(HO.out _ OO2).mono ?_;rintro e w3 ⟨rfl,ho3,tch3⟩;have t3:TreAt w3 w.heap.size Y:=t2.of_block (tch3.block _ hb2 (fun e=>by have:=NB.out _ (HTB.out.2.2.1 _ e);omega));have hm3:OwnE w3 B Y.vm (zar k Y.mem.length):=tch3.row hm2 (fun q hq e=>D1.out q (mem_oneB.2 hq) q (List.mem_append_right _ (List.mem_append_left _ e)) rfl);have hy3:=hy2.touch tch3 (fun q hq e=>by rw[zeS] at hq;exact D2.out q hq q (List.mem_append_left _ e) rfl);have hs3:OwnI w3 B Y.vs Y.snaps:=tch3.row hs2 (fun q hq e=>D3.out q e q (mem_oneB.2 hq) rfl);have T3:Hid (Touch (trB Y) w w3):=T2.out.trans (tch3.more HTB.out.2.2.1);clear t2 hb2 T2 OO2 hm2 hs2 hy2 q0 q1 q2 q3 q4 tch3 HO;obtain⟨q0,q1,q2,q3,q4⟩:=id t3;go_wp2_with fail
 refine(HS.out _ hs3).mono ?_;rintro e w4 ⟨rfl,hs4,hg4⟩;have tch4:Touch (oneB Y.vs) w3 w4:=Touch.of_grown hg4 (fun q hq=>mem_oneB.2 hq);have hm4:OwnE w4 B Y.vm (zar k Y.mem.length):=tch4.row hm3 (fun q hq e=>D1.out q (mem_oneB.2 hq) q (List.mem_append_right _ (List.mem_append_right _ e)) rfl);have hy4:=hy3.touch tch4 (fun q hq e=>by rw[zeS] at hq;exact D2.out q hq q (List.mem_append_right _ e) rfl);have ho4:=ho3.touch tch4 (fun q hq e=>by rw[zeS] at hq;exact D3.out q hq q e rfl);have END:Hid (MarkTr w B k Y (.returned (.int .i64 ((k3+Y.snaps.length:Nat):Int))) w4):=by
  refine⟨by rw[HEQ.out],?_,T3.out.trans (tch4.more HTB.out.2.2.2)⟩;rw[HMK.out];refine⟨hm4,hy4.row,hy4.ins,ho4.row,ho4.ins,hs4,?_⟩;rw[← HMK.out,trB_mk];exact NOD.out
 clear t3 hm3 hy3 hs3 ho3 q0 q1 q2 q3 q4 hg4 tch4 HS hm4 hy4 ho4 hs4 D1 D2 D3;go_wp2;go_ret;exact END.out
end Go.Proofs.YtannfbpohhnnkaaGreatDoor
