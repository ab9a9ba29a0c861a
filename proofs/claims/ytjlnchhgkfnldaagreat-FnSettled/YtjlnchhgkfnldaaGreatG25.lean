import Derived.Test.YtjlnchhgkfnldaaGreatTreSnk1
namespace Go.Proofs.YtjlnchhgkfnldaaGreat
set_option maxHeartbeats 16000000
set_option maxRecDepth 100000
open Go.RowKit
def zcW(w:World)(b:Nat)(vo:Value)(q:Int)(vs:Value)(mem:List Ent)(ys:List TV)(mn yn:Nat)(e:Ending)(w':World):Prop :=
 ∃ ok:Bool,e=.returned (.bool ok)∧ok=(decide (mn≠0)&&decide (yn≠6))∧(ok=false→Below w.heap.size w w') ∧
  (ok=true→∃ vm' vy' vb vk,BoxTr w' b vm' vy' vo q vs∧OwnE w' w.heap.size vm' []∧OwnT w' w.heap.size vy' (⟨zC mem,vb,vk⟩::ys)∧OwnI w' w.heap.size vb (zC mem).bits∧OwnS w' w.heap.size vk (zC mem).blocks∧Touch [b] w w')
theorem zgJ(b:Nat)(vm vy vo vs:Value)(mem:List Ent)(ys:List TV)(q:Int)(w:World)(hb:BoxTr w b vm vy vo q vs)(hm:RdE w vm mem)(hy:RdTs w vy ys)(hny:NilOk vy)(hpk:∀ e∈mem,PkE e)(hl:mem.length≤400)(hy6:ys.length≤6) :
 Calls Tryz.prog 38 #[.pointer (some ⟨b,0,none⟩)] w fun e w'=>zcW w b vo q vs mem ys mem.length ys.length e w':=by
 obtain⟨ay,cy,hvy,hly,hmy,-⟩:=id hy;obtain⟨am,cm,hvm,hlm,hmm,-⟩:=id hm;obtain⟨yn,hyn⟩:∃ yn,yn=ys.length:=⟨_,rfl⟩;obtain⟨mn,hmn⟩:∃ mn,mn=mem.length:=⟨_,rfl⟩;rw[← hyn] at hvy hy6 hly ⊢;rw[← hmn] at hvm hl hlm ⊢;subst hvy;subst hvm;have HBX:Hid (∀ W,Below w.heap.size w W→BoxTr W b (.slice am mn cm) (.slice ay yn cy) vo q vs):=fun W h=>(h.block b hb.lt).trans hb
 have HBL:Hid (b<w.heap.size):=hb.lt;have HYN:Hid (yn=ys.length):=hyn;have HMN:Hid (mn=mem.length):=hmn;have HPK:Hid (∀ e∈mem,PkE e):=hpk;clear hyn hmn hpk hb;obtain⟨q0,q1,q2,q3,q4,-⟩:=(HBX.out w (Below.refl _ _)).facts;by_cases hm0:mn=0
 ·have END:Hid (zcW w b vo q vs mem ys mn yn (.returned (.bool false)) w):=⟨false,rfl,by rw[hm0];rfl,fun _=>Below.refl _ _,fun h=>by cases h⟩;subst hm0;go_enter Tryz.func38,Tryz.ntmps38
  go_wp2;go_ret;exact END.out
 have hmi:((mn:Int)==0)=false:=by simp;exact hm0
 by_cases hy0:yn=6
 ·have END:Hid (zcW w b vo q vs mem ys mn yn (.returned (.bool false)) w):=⟨false,rfl,by rw[hy0];simp,fun _=>Below.refl _ _,fun h=>by cases h⟩;subst hy0;go_enter Tryz.func38,Tryz.ntmps38
  go_wp2;go_ret;exact END.out
 have hyi:((yn:Int)==6)=false:=by simp;omega
 have HOKT:Hid ((decide (mn≠0)&&decide (yn≠6))=true):=by unfold Hid;simp;omega
 have hm1:0<mem.length:=by rw[← HMN.out];omega
 have hm4:mem.length≤400:=by rw[← HMN.out];exact hl
 have hy7:ys.length≤6:=by rw[← HYN.out];exact hy6
 have HSB:Hid (∀ W,Below w.heap.size w W→W.cell? ⟨b,0,none⟩=some (.slice am mn cm)):=fun W h=>(HBX.out W h).facts.1
 go_enter Tryz.func38,Tryz.ntmps38
 go_wp2_with fail
 clear q0 q1 q2 q3 q4;refine brg (S:=fun W=>W.cell? ⟨b,0,none⟩=some (.slice am mn cm)) (HSB.out _ ((Below.refl _ w).drew)) (fun hS=>?_);have qb:Below w.heap.size w w.drew:=(Below.refl _ w).drew;revert qb;revert hS;generalize w.drew=V;intro hS qb;refine kG 0 17 hS ?_;refine kG 1 18 hS ?_;refine kG 2 19 hS ?_;refine kG 3 20 hS ?_;refine kG 4 21 hS ?_;refine kG 7 24 hS ?_;refine kG 8 25 hS ?_;refine kG 9 26 hS ?_;refine wpAnyH_ready (rs:=[5,10]) (by kernel_rfl) (by simp) ?_;refine AllReadyH.cons rfl (fun K hK=>?_) (AllReadyH.cons rfl (fun K hK=>?_) AllReadyH.nil)
 ·go_simp;refine(zct (.slice am mn cm) mem _ (hm.below qb) HPK.out (by omega) (by omega)).mono ?_;rintro e V3 ⟨vb,vk,rfl,hbI,hkS,hb3⟩;replace hbI:=hbI.mono qb.size;replace hkS:=hkS.mono qb.size;replace qb:=qb.trans (hb3.mono qb.size);obtain⟨ab,cb,heb⟩:=zK hbI;obtain⟨ak,ck,hek⟩:=zK hkS;generalize (zC mem).bits.length=bn at heb;generalize (zC mem).blocks.length=kn at hek;subst heb;subst hek;clear hb3 hS;refine hK.out _ _ (HSB.out _ qb) (fun hS=>?_);clear hK K;try simp only[sA,sZ,sS]
  refine wpAnyH_ready (rs:=[6,10]) (by kernel_rfl) (by simp) ?_;refine AllReadyH.cons rfl (fun K hK=>?_) (AllReadyH.cons rfl (fun K hK=>?_) AllReadyH.nil)
  ·refine zbb rfl 23 rfl (zC mem).first (zC mem).last (.slice ab bn cb) (.slice ak kn ck) (by go_simp;(try rfl)) ?_;intro bT V4 hb4 qT;replace qT:OwnT V4 w.heap.size (.slice (some ⟨bT,0,none⟩) 1 1) [⟨zC mem,.slice ab bn cb,.slice ak kn ck⟩]:=OwnT.mono (qT _ _) qb.size;replace hbI:=hbI.below hb4;replace hkS:=hkS.below hb4;replace qb:=qb.trans (hb4.mono qb.size);clear hb4 hS;refine hK.out _ _ (HSB.out _ qb) (fun hS=>?_);clear hK K;try simp only[Act.put,sA,sZ,sS]
   refine rdy 10 (fun K hK=>?_);obtain⟨y0,y1,y2,y3,y4,-⟩:=(HBX.out _ qb).facts;go_simp;clear y0 y1 y2 y3 y4 hS;refine hK.out _ _ (HSB.out _ qb) (fun hS=>?_);clear hK K;try simp only[sA,sZ,sS]
   refine rdy 11 (fun K hK=>?_);refine zaq rfl 28 rfl _ _ rfl w.heap.size (.slice (some ⟨bT,0,none⟩) 1 1) (.slice ay yn cy) [⟨zC mem,.slice ab bn cb,.slice ak kn ck⟩] ys rfl rfl qT (hy.below qb) hny (by simp;omega) qb.size ?_;intro vQ V5 hoQ hg;replace hbI:OwnI V5 w.heap.size (.slice ab bn cb) (zC mem).bits:=zl hbI hg (fun k hk e=>zh hbI qT (by decide) k hk e);replace hkS:OwnS V5 w.heap.size (.slice ak kn ck) (zC mem).blocks:=zl hkS hg (fun k hk e=>zh hkS qT (by decide) k hk e);replace qb:=qb.grown hg qb.size (fun k hk=>(oL qT k hk).1);obtain⟨aQ,cQ,heQ⟩:=zK hoQ;generalize ([(⟨zC mem,.slice ab bn cb,.slice ak kn ck⟩:TV)]++ys).length=qn at heQ;subst heQ;clear hg qT hS;refine hK.out _ _ (HSB.out _ qb) (fun hS=>?_);clear hK K;try simp only[Act.put,sA,sZ,sS]
   refine kG 12 29 hS ?_;refine kG 13 30 hS ?_;refine rdy 14 (fun K hK=>?_);have zb:=HBX.out _ qb;obtain⟨y0,y1,y2,y3,y4,g0,g1,g2,g3,g4⟩:=zb.facts;have zc:=zbF zb (.slice aQ qn cQ);go_simp;refine hK.out _ _ zc.facts.1 (fun hS=>?_);clear hK K y0 y1 y2 y3 y4 g0 g1 g2 g3 g4;refine dne ?_;have hne:∀ {t s n:Nat} {v:Value} {xs:List Value},V5.ownsRow w.heap.size t s v n xs→∀ k,v.ownBlock=some k→b≠k:=fun h k hk e=>by have:=(oL h k hk).1;have:=HBL.out;omega
   have zd:=zck zc (.slice (some ⟨V5.heap.size,0,none⟩) 0 0);obtain⟨Wd,hWd⟩:∃ Wd,Wd=(V5.setCell ⟨b,1,none⟩ (.slice aQ qn cQ)).setCell ⟨b,0,none⟩ (.slice (some ⟨V5.heap.size,0,none⟩) 0 0):=⟨_,rfl⟩;have o1:OwnT Wd w.heap.size (.slice aQ qn cQ) (⟨zC mem,.slice ab bn cb,.slice ak kn ck⟩::ys):=(by rw[hWd];exact zi (zi hoQ (hne hoQ)) (hne hoQ));have o2:OwnI Wd w.heap.size (.slice ab bn cb) (zC mem).bits:=(by rw[hWd];exact zi (zi hbI (hne hbI)) (hne hbI));have o3:OwnS Wd w.heap.size (.slice ak kn ck) (zC mem).blocks:=(by rw[hWd];exact zi (zi hkS (hne hkS)) (hne hkS));have tt:Touch [b] w Wd:=(by rw[hWd];exact((Touch.of_below qb).trans (Touch.set (by simp))).trans (Touch.set (by simp)));have sd:Wd.heap.size=V5.heap.size:=(by rw[hWd];simp);have s5:=qb.size;have hbl:b<V5.heap.size:=(by have:=HBL.out;omega);have bb:=ze Wd (.cells #[] 40);have o4:=zL Wd;rw[sd] at o4;rw[← hWd] at zd;obtain⟨y0,y1,y2,y3,y4,g0,g1,g2,g3,g4⟩:=zc.facts;have END:Hid (zcW w b vo q vs mem ys mn yn (.returned (.bool true)) (Wd.alloc (.cells #[] 40))):=by
    refine⟨true,rfl,HOKT.out.symm,(fun h=>by cases h),fun _=>⟨_,_,_,_,zd.on bb,o4.mono s5,OwnT.below o1 bb,o2.below bb,o3.below bb,tt.trans (Touch.of_below bb)⟩⟩
   rw[hWd] at END;clear zd zc zb o1 o2 o3 o4 tt sd bb hWd hne hoQ hbI hkS hS qb;go_wp2;go_ret;exact END.out
  ·obtain⟨y0,y1,y2,y3,y4,-⟩:=(HBX.out _ qb).facts;go_simp;clear y0 y1 y2 y3 y4 hS;refine hK.out _ _ (HSB.out _ qb) (fun hS=>?_);clear hK K;try simp only[sA,sZ,sS]
   refine rdy 6 (fun K hK=>?_);refine zbb rfl 23 rfl (zC mem).first (zC mem).last (.slice ab bn cb) (.slice ak kn ck) (by go_simp;(try rfl)) ?_;intro bT V4 hb4 qT;replace qT:OwnT V4 w.heap.size (.slice (some ⟨bT,0,none⟩) 1 1) [⟨zC mem,.slice ab bn cb,.slice ak kn ck⟩]:=OwnT.mono (qT _ _) qb.size;replace hbI:=hbI.below hb4;replace hkS:=hkS.below hb4;replace qb:=qb.trans (hb4.mono qb.size);clear hb4 hS;refine hK.out _ _ (HSB.out _ qb) (fun hS=>?_);clear hK K;try simp only[Act.put,sA,sZ,sS]
   refine rdy 11 (fun K hK=>?_);refine zaq rfl 28 rfl _ _ rfl w.heap.size (.slice (some ⟨bT,0,none⟩) 1 1) (.slice ay yn cy) [⟨zC mem,.slice ab bn cb,.slice ak kn ck⟩] ys rfl rfl qT (hy.below qb) hny (by simp;omega) qb.size ?_;intro vQ V5 hoQ hg;replace hbI:OwnI V5 w.heap.size (.slice ab bn cb) (zC mem).bits:=zl hbI hg (fun k hk e=>zh hbI qT (by decide) k hk e);replace hkS:OwnS V5 w.heap.size (.slice ak kn ck) (zC mem).blocks:=zl hkS hg (fun k hk e=>zh hkS qT (by decide) k hk e);replace qb:=qb.grown hg qb.size (fun k hk=>(oL qT k hk).1);obtain⟨aQ,cQ,heQ⟩:=zK hoQ;generalize ([(⟨zC mem,.slice ab bn cb,.slice ak kn ck⟩:TV)]++ys).length=qn at heQ;subst heQ;clear hg qT hS;refine hK.out _ _ (HSB.out _ qb) (fun hS=>?_);clear hK K;try simp only[Act.put,sA,sZ,sS]
   refine kG 12 29 hS ?_;refine kG 13 30 hS ?_;refine rdy 14 (fun K hK=>?_);have zb:=HBX.out _ qb;obtain⟨y0,y1,y2,y3,y4,g0,g1,g2,g3,g4⟩:=zb.facts;have zc:=zbF zb (.slice aQ qn cQ);go_simp;refine hK.out _ _ zc.facts.1 (fun hS=>?_);clear hK K y0 y1 y2 y3 y4 g0 g1 g2 g3 g4;refine dne ?_;have hne:∀ {t s n:Nat} {v:Value} {xs:List Value},V5.ownsRow w.heap.size t s v n xs→∀ k,v.ownBlock=some k→b≠k:=fun h k hk e=>by have:=(oL h k hk).1;have:=HBL.out;omega
   have zd:=zck zc (.slice (some ⟨V5.heap.size,0,none⟩) 0 0);obtain⟨Wd,hWd⟩:∃ Wd,Wd=(V5.setCell ⟨b,1,none⟩ (.slice aQ qn cQ)).setCell ⟨b,0,none⟩ (.slice (some ⟨V5.heap.size,0,none⟩) 0 0):=⟨_,rfl⟩;have o1:OwnT Wd w.heap.size (.slice aQ qn cQ) (⟨zC mem,.slice ab bn cb,.slice ak kn ck⟩::ys):=(by rw[hWd];exact zi (zi hoQ (hne hoQ)) (hne hoQ));have o2:OwnI Wd w.heap.size (.slice ab bn cb) (zC mem).bits:=(by rw[hWd];exact zi (zi hbI (hne hbI)) (hne hbI));have o3:OwnS Wd w.heap.size (.slice ak kn ck) (zC mem).blocks:=(by rw[hWd];exact zi (zi hkS (hne hkS)) (hne hkS));have tt:Touch [b] w Wd:=(by rw[hWd];exact((Touch.of_below qb).trans (Touch.set (by simp))).trans (Touch.set (by simp)));have sd:Wd.heap.size=V5.heap.size:=(by rw[hWd];simp);have s5:=qb.size;have hbl:b<V5.heap.size:=(by have:=HBL.out;omega);have bb:=ze Wd (.cells #[] 40);have o4:=zL Wd;rw[sd] at o4;rw[← hWd] at zd;obtain⟨y0,y1,y2,y3,y4,g0,g1,g2,g3,g4⟩:=zc.facts;have END:Hid (zcW w b vo q vs mem ys mn yn (.returned (.bool true)) (Wd.alloc (.cells #[] 40))):=by
    refine⟨true,rfl,HOKT.out.symm,(fun h=>by cases h),fun _=>⟨_,_,_,_,zd.on bb,o4.mono s5,OwnT.below o1 bb,o2.below bb,o3.below bb,tt.trans (Touch.of_below bb)⟩⟩
   rw[hWd] at END;clear zd zc zb o1 o2 o3 o4 tt sd bb hWd hne hoQ hbI hkS hS qb;go_wp2;go_ret;exact END.out
 ·obtain⟨y0,y1,y2,y3,y4,-⟩:=(HBX.out _ qb).facts;go_simp;clear y0 y1 y2 y3 y4 hS;refine hK.out _ _ (HSB.out _ qb) (fun hS=>?_);clear hK K;try simp only[sA,sZ,sS]
  refine rdy 5 (fun K hK=>?_);go_simp;refine(zct (.slice am mn cm) mem _ (hm.below qb) HPK.out (by omega) (by omega)).mono ?_;rintro e V3 ⟨vb,vk,rfl,hbI,hkS,hb3⟩;replace hbI:=hbI.mono qb.size;replace hkS:=hkS.mono qb.size;replace qb:=qb.trans (hb3.mono qb.size);obtain⟨ab,cb,heb⟩:=zK hbI;obtain⟨ak,ck,hek⟩:=zK hkS;generalize (zC mem).bits.length=bn at heb;generalize (zC mem).blocks.length=kn at hek;subst heb;subst hek;clear hb3 hS;refine hK.out _ _ (HSB.out _ qb) (fun hS=>?_);clear hK K;try simp only[sA,sZ,sS]
  refine rdy 6 (fun K hK=>?_);refine zbb rfl 23 rfl (zC mem).first (zC mem).last (.slice ab bn cb) (.slice ak kn ck) (by go_simp;(try rfl)) ?_;intro bT V4 hb4 qT;replace qT:OwnT V4 w.heap.size (.slice (some ⟨bT,0,none⟩) 1 1) [⟨zC mem,.slice ab bn cb,.slice ak kn ck⟩]:=OwnT.mono (qT _ _) qb.size;replace hbI:=hbI.below hb4;replace hkS:=hkS.below hb4;replace qb:=qb.trans (hb4.mono qb.size);clear hb4 hS;refine hK.out _ _ (HSB.out _ qb) (fun hS=>?_);clear hK K;try simp only[Act.put,sA,sZ,sS]
  refine rdy 11 (fun K hK=>?_);refine zaq rfl 28 rfl _ _ rfl w.heap.size (.slice (some ⟨bT,0,none⟩) 1 1) (.slice ay yn cy) [⟨zC mem,.slice ab bn cb,.slice ak kn ck⟩] ys rfl rfl qT (hy.below qb) hny (by simp;omega) qb.size ?_;intro vQ V5 hoQ hg;replace hbI:OwnI V5 w.heap.size (.slice ab bn cb) (zC mem).bits:=zl hbI hg (fun k hk e=>zh hbI qT (by decide) k hk e);replace hkS:OwnS V5 w.heap.size (.slice ak kn ck) (zC mem).blocks:=zl hkS hg (fun k hk e=>zh hkS qT (by decide) k hk e);replace qb:=qb.grown hg qb.size (fun k hk=>(oL qT k hk).1);obtain⟨aQ,cQ,heQ⟩:=zK hoQ;generalize ([(⟨zC mem,.slice ab bn cb,.slice ak kn ck⟩:TV)]++ys).length=qn at heQ;subst heQ;clear hg qT hS;refine hK.out _ _ (HSB.out _ qb) (fun hS=>?_);clear hK K;try simp only[Act.put,sA,sZ,sS]
  refine kG 12 29 hS ?_;refine kG 13 30 hS ?_;refine rdy 14 (fun K hK=>?_);have zb:=HBX.out _ qb;obtain⟨y0,y1,y2,y3,y4,g0,g1,g2,g3,g4⟩:=zb.facts;have zc:=zbF zb (.slice aQ qn cQ);go_simp;refine hK.out _ _ zc.facts.1 (fun hS=>?_);clear hK K y0 y1 y2 y3 y4 g0 g1 g2 g3 g4;refine dne ?_;have hne:∀ {t s n:Nat} {v:Value} {xs:List Value},V5.ownsRow w.heap.size t s v n xs→∀ k,v.ownBlock=some k→b≠k:=fun h k hk e=>by have:=(oL h k hk).1;have:=HBL.out;omega
  have zd:=zck zc (.slice (some ⟨V5.heap.size,0,none⟩) 0 0);obtain⟨Wd,hWd⟩:∃ Wd,Wd=(V5.setCell ⟨b,1,none⟩ (.slice aQ qn cQ)).setCell ⟨b,0,none⟩ (.slice (some ⟨V5.heap.size,0,none⟩) 0 0):=⟨_,rfl⟩;have o1:OwnT Wd w.heap.size (.slice aQ qn cQ) (⟨zC mem,.slice ab bn cb,.slice ak kn ck⟩::ys):=by rw[hWd];exact zi (zi hoQ (hne hoQ)) (hne hoQ)
  have o2:OwnI Wd w.heap.size (.slice ab bn cb) (zC mem).bits:=by rw[hWd];exact zi (zi hbI (hne hbI)) (hne hbI)
  have o3:OwnS Wd w.heap.size (.slice ak kn ck) (zC mem).blocks:=by rw[hWd];exact zi (zi hkS (hne hkS)) (hne hkS)
  have tt:Touch [b] w Wd:=by rw[hWd];exact((Touch.of_below qb).trans (Touch.set (by simp))).trans (Touch.set (by simp))
  have sd:Wd.heap.size=V5.heap.size:=by rw[hWd];simp
  have s5:=qb.size;have hbl:b<V5.heap.size:=by have:=HBL.out;omega
  have bb:=ze Wd (.cells #[] 40);have o4:=zL Wd;rw[sd] at o4;rw[← hWd] at zd;obtain⟨y0,y1,y2,y3,y4,g0,g1,g2,g3,g4⟩:=zc.facts;have END:Hid (zcW w b vo q vs mem ys mn yn (.returned (.bool true)) (Wd.alloc (.cells #[] 40))):=by
   refine⟨true,rfl,HOKT.out.symm,(fun h=>by cases h),fun _=>⟨_,_,_,_,zd.on bb,o4.mono s5,OwnT.below o1 bb,o2.below bb,o3.below bb,tt.trans (Touch.of_below bb)⟩⟩
  rw[hWd] at END;clear zd zc zb o1 o2 o3 o4 tt sd bb hWd hne hoQ hbI hkS hS qb;go_wp2;go_ret;exact END.out
open Go.RowKit
def zoV(w:World)(r:Bool)(e:Ending)(w':World):Prop:=∃ i:Int,e=.returned (.tuple #[.int .i64 i,.bool r])∧Below w.heap.size w w'
theorem has_step{es:List Ent}{k:Nat}{x:Ent}(hk:k<es.length)(h:hasKS (es.take k) x=false):hasKS (es.take (k+1)) x=zP (nth es k) x:=by
 unfold hasKS at h ⊢;rw[List.take_succ_eq_append_getElem hk,List.any_append,h,zU hk];simp
theorem has_true{es:List Ent}{k:Nat}{x:Ent}(hk:k<es.length)(h:zP (nth es k) x=true):hasKS es x=true:=by
 unfold hasKS;rw[List.any_eq_true];exact⟨nth es k,by rw[zU hk];exact List.getElem_mem hk,h⟩
theorem zgB(v:Value)(es:List Ent)(x:Ent)(w:World)(hr:RdE w v es) :
 Calls Tryz.prog 92 #[v,.agg #[.string x.key,.string x.val,.int .i64 x.seq,.bool x.gone]] w fun e w'=>zoV w (hasKS es x) e w':=by
 obtain⟨a,cap,hv,hl,hm,_⟩:=id hr;obtain⟨nn,hnn⟩:∃ nn,nn=es.length:=⟨_,rfl⟩;have HNN:Hid (nn=es.length):=hnn;rw[← hnn] at hv hl;subst hv;unfold maxLen at hm;have hbx:=zbJ w x 40;have hb0:=ze w (.cells #[.string x.key,.string x.val,.int .i64 x.seq,.bool x.gone] 40);clear hnn;go_enter Tryz.func92,Tryz.ntmps92
 go_wp2;go_loopw [6] (fun i wr=>∃ k:Nat,k≤nn∧i=.int .i64 k∧Hid (hasKS (es.take k) x=false)∧EntAt wr w.heap.size 0 x∧Below w.heap.size w wr) (fun i _=>nn-(intOf i).toNat)
 case atStart=>exact⟨0,Nat.zero_le _,rfl,by unfold Hid;simp[hasKS],hbx,hb0⟩
 case round =>
  obtain⟨k,hk,rfl,HH,hx,hb⟩:=hrel;clear hbx hb0;by_cases hlt:k<nn
  ·obtain⟨b,off,rfl,hc⟩:=(hr.below hb).at HNN.out k (by rw[← HNN.out];exact hlt);obtain⟨y,hy⟩:∃ y,y=nth es k:=⟨_,rfl⟩;rw[← hy] at hc;have hstep:=has_step (show k<es.length by rw[← HNN.out];exact hlt) HH.out;have htrue:=fun h=>has_true (x:=x) (show k<es.length by rw[← HNN.out];exact hlt) h
   rw[← hy] at hstep htrue;have hkb:=zbE y.key x.key;have hkc:k<cap:=(by omega);clear hy;cases hke:kEq y.key x.key with
   | false =>
    have HH2:Hid (hasKS (es.take (k+1)) x=false):=(by unfold Hid;rw[hstep];simp[zP,hke]);rw[hke] at hkb;clear hstep htrue;go_wp2_with fail
    refine brg (S:=fun W=>EntAt W b (off+k*4) y∧EntAt W w.heap.size 0 x) ⟨hc,hx⟩ (fun hH=>?_);refine kA 0 13 hH ?_;refine kA 1 14 hH ?_;refine kA 2 15 hH ?_;refine kA 3 16 hH ?_;refine kA 4 17 hH ?_;refine kA 5 18 hH ?_;refine kA 6 19 hH ?_;refine kA 7 20 hH ?_;refine kA 8 21 hH ?_;refine kS 9 22 hH ?_;refine kS 10 23 hH ?_;refine kS 11 24 hH ?_;refine kS 12 25 hH ?_;refine kS 13 26 hH ?_;refine kS 14 27 hH ?_;refine kS 15 28 hH ?_;refine kS 16 29 hH ?_;refine kA 17 30 hH ?_;refine dne ?_;go_wp2;go_roundw
    case rel=>exact⟨k+1,by omega,by go_num,HH2,hx,hb.drew⟩
    case measure=>simp[intOf];omega
   | true =>
    rw[hke] at hkb;obtain⟨s,hs⟩:∃ s:Bool,(y.seq==x.seq)=s:=⟨_,rfl⟩;have hsm:zP y x=s:=(by unfold zP;rw[hke,Bool.true_and,← hs];rfl);cases s with
    | true =>
     have RES:Hid (hasKS es x=true):=htrue hsm;clear hstep htrue hsm;go_wp2_with fail
     refine brg (S:=fun W=>EntAt W b (off+k*4) y∧EntAt W w.heap.size 0 x) ⟨hc,hx⟩ (fun hH=>?_);refine kA 0 13 hH ?_;refine kA 1 14 hH ?_;refine kA 2 15 hH ?_;refine kA 3 16 hH ?_;refine kA 4 17 hH ?_;refine kA 5 18 hH ?_;refine kA 6 19 hH ?_;refine kA 7 20 hH ?_;refine kA 8 21 hH ?_;refine kA 9 22 hH ?_;refine kA 10 23 hH ?_;refine kA 11 24 hH ?_;refine kA 12 25 hH ?_;refine kA 13 26 hH ?_;refine kA 14 27 hH ?_;refine kA 15 28 hH ?_;refine kA 16 29 hH ?_;refine kA 17 30 hH ?_;refine dne ?_;go_wp2;go_ret2
     exact⟨(k:Int),by rw[RES.out];rfl,hb.drew⟩
    | false =>
     have HH2:Hid (hasKS (es.take (k+1)) x=false):=(by unfold Hid;rw[hstep];exact hsm);clear hstep htrue hsm;go_wp2_with fail
     refine brg (S:=fun W=>EntAt W b (off+k*4) y∧EntAt W w.heap.size 0 x) ⟨hc,hx⟩ (fun hH=>?_);refine kA 0 13 hH ?_;refine kA 1 14 hH ?_;refine kA 2 15 hH ?_;refine kA 3 16 hH ?_;refine kA 4 17 hH ?_;refine kA 5 18 hH ?_;refine kA 6 19 hH ?_;refine kA 7 20 hH ?_;refine kA 8 21 hH ?_;refine kA 9 22 hH ?_;refine kA 10 23 hH ?_;refine kA 11 24 hH ?_;refine kA 12 25 hH ?_;refine kA 13 26 hH ?_;refine kA 14 27 hH ?_;refine kA 15 28 hH ?_;refine kA 16 29 hH ?_;refine kA 17 30 hH ?_;refine dne ?_;go_wp2;go_roundw
     case rel=>exact⟨k+1,by omega,by go_num,HH2,hx,hb.drew⟩
     case measure=>simp[intOf];omega
  ·skip
   have RES:Hid (hasKS es x=false):=(by have:=HH.out;rw[show k=nn by omega,HNN.out,List.take_length] at this;exact this);go_wp2;go_ret2
   exact⟨0,by rw[RES.out];rfl,hb⟩
theorem newer_no{mem all:List Ent}{i:Nat}(hi:i+1<all.length)(h:zbU mem all i=false):zcD mem all=false:=by
 unfold zcD;rw[List.all_eq_false];exact⟨i,List.mem_range.2 (by omega),by rw[h];simp⟩
theorem zoN{mem all:List Ent}(h:∀ i,i+1<all.length→zbU mem all i=true):zcD mem all=true:=by
 unfold zcD;rw[List.all_eq_true];intro i hi;rw[List.mem_range] at hi;exact h i (by omega)
theorem zk4(X:TrX)(va:Value)(all:List Ent)(w:World)(hx:RdTr w X)(hr:RdE w va all) :
 Calls Tryz.prog 51 #[.agg #[X.vm,X.vy,X.vo,.int .i64 X.seq,X.vs],va] w fun e w'=>e=.returned (.bool (zcD X.mem all))∧Below w.heap.size w w':=by
 obtain⟨a,cap,hv,hl,hm,_⟩:=id hr;obtain⟨nn,hnn⟩:∃ nn,nn=all.length:=⟨_,rfl⟩;have HNN:Hid (nn=all.length):=hnn;rw[← hnn] at hv hl;subst hv;unfold maxLen at hm;have hbx:=zam w X 28;have hb0:=ze w (.cells #[X.vm,X.vy,X.vo,.int .i64 X.seq,X.vs] 28);clear hnn;go_enter Tryz.func51,Tryz.ntmps51
 go_wp2;go_loopw [5] (fun i wr=>∃ k:Nat,k≤nn-1∧i=.int .i64 k∧Hid (∀ j,j<k→zbU X.mem all j=true)∧TreAt wr w.heap.size X∧Below w.heap.size w wr) (fun i _=>nn-(intOf i).toNat)
 case atStart=>exact⟨0,Nat.zero_le _,rfl,(fun j h=>by omega),hbx,hb0⟩
 case round =>
  obtain⟨k,hk,rfl,HH,ht,hb⟩:=hrel;clear hbx hb0;by_cases hlt:k+1<nn
  ·have hlt2:(k:Int)+1<(nn:Int):=(by omega);have hrw:=hr.below hb;obtain⟨b,off,rfl,hc1⟩:=hrw.at HNN.out (k+1) (by rw[← HNN.out];exact hlt);obtain⟨b',off',hbo,hc0⟩:=hrw.at HNN.out k (by rw[← HNN.out];omega);cases hbo
   obtain⟨y,hy⟩:∃ y,y=nth all (k+1):=⟨_,rfl⟩;obtain⟨z,hz⟩:∃ z,z=nth all k:=⟨_,rfl⟩;rw[← hy] at hc1;rw[← hz] at hc0;have hat:zbU X.mem all k=!(kEq z.key y.key&&hasKS X.mem y && !hasKS X.mem z):=(by unfold zbU;rw[← hy,← hz]);have HCY:Hid (∀ W,RdE W X.vm X.mem→Calls Tryz.prog 92 #[X.vm,.agg #[.string y.key,.string y.val,.int .i64 y.seq,.bool y.gone]] W fun e w'=>zoV W (hasKS X.mem y) e w'):=fun W h=>zgB _ _ y W h
   have HCZ:Hid (∀ W,RdE W X.vm X.mem→Calls Tryz.prog 92 #[X.vm,.agg #[.string z.key,.string z.val,.int .i64 z.seq,.bool z.gone]] W fun e w'=>zoV W (hasKS X.mem z) e w'):=fun W h=>zgB _ _ z W h
   have hkb:=zbE z.key y.key;generalize hasKS X.mem y=hY at hat HCY;generalize hasKS X.mem z=hZ at hat HCZ;have hkc:k<cap:=(by omega);have hkc1:k+1<cap:=(by omega);have hwk:IntKind.i64.wrap ((k:Int)+1)=(k:Int)+1:=(by rw[IntKind.wrap_i64];omega);have h0k:(0:Int)≤(k:Int)+1:=(by omega);have hkn:k<nn:=(by omega);have HAT:Hid (zbU X.mem all k=!(kEq z.key y.key&&hY && !hZ)):=hat;generalize kEq z.key y.key=kE at HAT hkb;clear hy hz hrw hat;go_wp2_with fail
   refine brg (S:=fun W=>W.cell? ⟨w.heap.size,0,none⟩=some X.vm∧EntAt W b (off+(k+1)*4) y) ⟨ht.1,hc1⟩ (fun hH=>?_);refine kA 0 18 hH ?_;refine kA 1 19 hH ?_;refine kA 2 20 hH ?_;refine kA 3 21 hH ?_;refine kA 4 22 hH ?_;refine kA 5 23 hH ?_;refine kA 6 24 hH ?_;refine rdy 7 (fun K hK=>?_);go_simp;refine(HCY.out _ (hx.mem.below hb.drew)).mono ?_;rintro e w2 ⟨i2,rfl,hb2⟩;refine hK.out _ _ ⟨(hb2.cell (World.block_lt_of_cell? _ _ hH.1)).trans hH.1,hH.2.below hb2⟩ (fun hB=>?_);clear hK K;try simp only[Act.put,sA,sZ,sS]
   refine kA 8 17 hB ?_;refine kA 9 26 hB ?_;refine kA 10 27 hB ?_;refine kA 11 6 hB ?_;refine kA 12 7 hB ?_;refine dne ?_;have bd:Below wr.heap.size wr w2:=((Below.refl wr.heap.size wr).drew).trans hb2;have ht2:=ht.below bd;have hd0:=hc0.below bd;have hd1:=hc1.below bd;have b2:=hb.trans (bd.mono hb.size);clear hB hH hb2 bd ht hc0 hc1 hb;go_wp2_with fail
   refine brg (S:=fun W=>W.cell? ⟨w.heap.size,0,none⟩=some X.vm∧EntAt W b (off+k*4) z) ⟨ht2.1,hd0⟩ (fun hH=>?_);refine kA 0 29 hH ?_;refine kA 1 30 hH ?_;refine kA 2 31 hH ?_;refine kA 3 32 hH ?_;refine kA 4 33 hH ?_;refine kA 5 34 hH ?_;refine rdy 6 (fun K hK=>?_);go_simp;refine(HCZ.out _ (hx.mem.below b2.drew)).mono ?_;rintro e w3 ⟨i3,rfl,hb3⟩;refine hK.out _ _ ⟨(hb3.cell (World.block_lt_of_cell? _ _ hH.1)).trans hH.1,hH.2.below hb3⟩ (fun hB=>?_);clear hK K;try simp only[Act.put,sA,sZ,sS]
   refine kA 7 28 hB ?_;refine kA 8 36 hB ?_;refine kA 9 37 hB ?_;refine kA 10 8 hB ?_;refine kA 11 9 hB ?_;refine dne ?_;have bd:Below w2.heap.size w2 w3:=((Below.refl w2.heap.size w2).drew).trans hb3;have ht3:=ht2.below bd;have he0:=hd0.below bd;have he1:=hd1.below bd;have b3:=b2.trans (bd.mono b2.size);clear hB hH hb3 bd ht2 hd0 hd1 b2 HCY HCZ;cases kE with
   | false =>
    have HH2:Hid (∀ j,j<k+1→zbU X.mem all j=true):=fun j hj=>by
     by_cases hjk:j=k
     ·rw[hjk,HAT.out];rfl
     ·exact HH.out j (by omega)
    go_wp2_with fail
    refine brg (S:=fun W=>EntAt W b (off+k*4) z∧EntAt W b (off+(k+1)*4) y) ⟨he0,he1⟩ (fun hH=>?_);refine kA 0 38 hH ?_;refine kA 1 39 hH ?_;refine kA 2 40 hH ?_;refine kA 3 41 hH ?_;refine kA 4 42 hH ?_;refine kA 5 43 hH ?_;refine kA 6 44 hH ?_;refine kA 7 45 hH ?_;refine kA 8 46 hH ?_;refine kA 9 47 hH ?_;refine kA 10 48 hH ?_;refine kA 11 49 hH ?_;refine kA 12 50 hH ?_;refine kS 13 51 hH ?_;refine kA 14 52 hH ?_;refine kA 15 53 hH ?_;refine kS 16 54 hH ?_;refine kS 17 55 hH ?_;refine kA 18 56 hH ?_;refine dne ?_;go_wp2;go_roundw
    case rel=>exact⟨k+1,by omega,by go_num,HH2,ht3,b3.drew⟩
    case measure=>simp[intOf];omega
   | true =>
    cases hY with
    | false =>
     have HH2:Hid (∀ j,j<k+1→zbU X.mem all j=true):=fun j hj=>by
      by_cases hjk:j=k
      ·rw[hjk,HAT.out];rfl
      ·exact HH.out j (by omega)
     go_wp2_with fail
     refine brg (S:=fun W=>EntAt W b (off+k*4) z∧EntAt W b (off+(k+1)*4) y) ⟨he0,he1⟩ (fun hH=>?_);refine kA 0 38 hH ?_;refine kA 1 39 hH ?_;refine kA 2 40 hH ?_;refine kA 3 41 hH ?_;refine kA 4 42 hH ?_;refine kA 5 43 hH ?_;refine kA 6 44 hH ?_;refine kA 7 45 hH ?_;refine kA 8 46 hH ?_;refine kA 9 47 hH ?_;refine kA 10 48 hH ?_;refine kA 11 49 hH ?_;refine kA 12 50 hH ?_;refine kA 13 51 hH ?_;refine kA 14 52 hH ?_;refine kA 15 53 hH ?_;refine kS 16 54 hH ?_;refine kS 17 55 hH ?_;refine kA 18 56 hH ?_;refine dne ?_;go_wp2;go_roundw
     case rel=>exact⟨k+1,by omega,by go_num,HH2,ht3,b3.drew⟩
     case measure=>simp[intOf];omega
    | true =>
     cases hZ with
     | true =>
      have HH2:Hid (∀ j,j<k+1→zbU X.mem all j=true):=fun j hj=>by
       by_cases hjk:j=k
       ·rw[hjk,HAT.out];rfl
       ·exact HH.out j (by omega)
      go_wp2_with fail
      refine brg (S:=fun W=>EntAt W b (off+k*4) z∧EntAt W b (off+(k+1)*4) y) ⟨he0,he1⟩ (fun hH=>?_);refine kA 0 38 hH ?_;refine kA 1 39 hH ?_;refine kA 2 40 hH ?_;refine kA 3 41 hH ?_;refine kA 4 42 hH ?_;refine kA 5 43 hH ?_;refine kA 6 44 hH ?_;refine kA 7 45 hH ?_;refine kA 8 46 hH ?_;refine kA 9 47 hH ?_;refine kA 10 48 hH ?_;refine kA 11 49 hH ?_;refine kA 12 50 hH ?_;refine kA 13 51 hH ?_;refine kA 14 52 hH ?_;refine kA 15 53 hH ?_;refine kA 16 54 hH ?_;refine kA 17 55 hH ?_;refine kA 18 56 hH ?_;refine dne ?_;go_wp2;go_roundw
      case rel=>exact⟨k+1,by omega,by go_num,HH2,ht3,b3.drew⟩
      case measure=>simp[intOf];omega
     | false =>
      have RES:Hid (zcD X.mem all=false):=newer_no (by rw[← HNN.out];exact hlt) (by rw[HAT.out];rfl);go_wp2_with fail
      refine brg (S:=fun W=>EntAt W b (off+k*4) z∧EntAt W b (off+(k+1)*4) y) ⟨he0,he1⟩ (fun hH=>?_);refine kA 0 38 hH ?_;refine kA 1 39 hH ?_;refine kA 2 40 hH ?_;refine kA 3 41 hH ?_;refine kA 4 42 hH ?_;refine kA 5 43 hH ?_;refine kA 6 44 hH ?_;refine kA 7 45 hH ?_;refine kA 8 46 hH ?_;refine kA 9 47 hH ?_;refine kA 10 48 hH ?_;refine kA 11 49 hH ?_;refine kA 12 50 hH ?_;refine kA 13 51 hH ?_;refine kA 14 52 hH ?_;refine kA 15 53 hH ?_;refine kA 16 54 hH ?_;refine kA 17 55 hH ?_;refine kA 18 56 hH ?_;refine dne ?_;go_wp2;go_ret;exact⟨zN RES.out.symm,b3.drew⟩
  ·skip
   have hlt2:¬ (k:Int)+1<(nn:Int):=(by omega);have hwk:IntKind.i64.wrap ((k:Int)+1)=(k:Int)+1:=(by rw[IntKind.wrap_i64];omega);have RES:Hid (zcD X.mem all=true):=zoN (fun i hi=>HH.out i (by rw[← HNN.out] at hi;omega));go_wp2;go_ret;exact⟨zN RES.out.symm,hb⟩
end Go.Proofs.YtjlnchhgkfnldaaGreat
