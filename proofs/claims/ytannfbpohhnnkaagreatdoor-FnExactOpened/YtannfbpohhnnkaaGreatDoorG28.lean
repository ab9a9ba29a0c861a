import Derived.Test.YtannfbpohhnnkaaGreatDoorTreSnk1
namespace Go.Proofs.YtannfbpohhnnkaaGreatDoor
set_option maxHeartbeats 16000000
set_option maxRecDepth 100000
open Go.RowKit
def zcv(w:World)(b:Nat)(vo:Value)(q:Int)(vs:Value)(mem:List Ent)(ys:List TV)(mn yn:Nat)(e:Ending)(w':World):Prop :=
 ∃ ok:Bool,e=.returned (.bool ok)∧ok=(decide (mn≠0)&&decide (yn≠6))∧(ok=false→Below w.heap.size w w') ∧
  (ok=true→∃ vm' vy' vb vk,BoxTr w' b vm' vy' vo q vs∧OwnE w' w.heap.size vm' []∧OwnT w' w.heap.size vy' (⟨zq mem,vb,vk⟩::ys)∧OwnI w' w.heap.size vb (zq mem).bits∧OwnS w' w.heap.size vk (zq mem).blocks∧Touch [b] w w')
theorem zlA(b:Nat)(vm vy vo vs:Value)(mem:List Ent)(ys:List TV)(q:Int)(w:World)(hb:BoxTr w b vm vy vo q vs)(hm:RdE w vm mem)(hy:RdTs w vy ys)(hny:NilOk vy)(hpk:∀ e∈mem,PkE e)(hl:mem.length≤400)(hy6:ys.length≤6) :
 Calls Tryz.prog 56 #[.pointer (some ⟨b,0,none⟩)] w fun e w'=>zcv w b vo q vs mem ys mem.length ys.length e w':=by
 obtain⟨ay,cy,hvy,hly,hmy,-⟩:=id hy;obtain⟨am,cm,hvm,hlm,hmm,-⟩:=id hm;obtain⟨yn,hyn⟩:∃ yn,yn=ys.length:=⟨_,rfl⟩;obtain⟨mn,hmn⟩:∃ mn,mn=mem.length:=⟨_,rfl⟩;rw[← hyn] at hvy hy6 hly ⊢;rw[← hmn] at hvm hl hlm ⊢;subst hvy;subst hvm;have HBX:Hid (∀ W,Below w.heap.size w W→BoxTr W b (.slice am mn cm) (.slice ay yn cy) vo q vs):=fun W h=>(h.block b hb.lt).trans hb
 have HBL:Hid (b<w.heap.size):=hb.lt;have HYN:Hid (yn=ys.length):=hyn;have HMN:Hid (mn=mem.length):=hmn;have HPK:Hid (∀ e∈mem,PkE e):=hpk;clear hyn hmn hpk hb;obtain⟨q0,q1,q2,q3,q4,-⟩:=(HBX.out w (Below.refl _ _)).facts;by_cases hm0:mn=0
 ·have END:Hid (zcv w b vo q vs mem ys mn yn (.returned (.bool false)) w):=⟨false,rfl,by rw[hm0];rfl,fun _=>Below.refl _ _,fun h=>by cases h⟩;subst hm0;go_enter Tryz.func56,Tryz.ntmps56
  go_wp2;go_ret;exact END.out
 have hmi:((mn:Int)==0)=false:=by simp;exact hm0
 by_cases hy0:yn=6
 ·have END:Hid (zcv w b vo q vs mem ys mn yn (.returned (.bool false)) w):=⟨false,rfl,by rw[hy0];simp,fun _=>Below.refl _ _,fun h=>by cases h⟩;subst hy0;go_enter Tryz.func56,Tryz.ntmps56
  go_wp2;go_ret;exact END.out
 have hyi:((yn:Int)==6)=false:=by simp;omega
 have HOKT:Hid ((decide (mn≠0)&&decide (yn≠6))=true):=by unfold Hid;simp;omega
 have hm1:0<mem.length:=by rw[← HMN.out];omega
 have hm4:mem.length≤400:=by rw[← HMN.out];exact hl
 have hy7:ys.length≤6:=by rw[← HYN.out];exact hy6
 have HSB:Hid (∀ W,Below w.heap.size w W→W.cell? ⟨b,0,none⟩=some (.slice am mn cm)):=fun W h=>(HBX.out W h).facts.1
 go_enter Tryz.func56,Tryz.ntmps56
 go_wp2_with fail
 clear q0 q1 q2 q3 q4;refine wp_region_noPanic ?_;refine wp_region_held_drew (S:=fun W=>W.cell? ⟨b,0,none⟩=some (.slice am mn cm)) (by kernel_rfl) (HSB.out _ ((Below.refl _ w).drew)) (fun hS=>?_);have qb:Below w.heap.size w w.drew:=(Below.refl _ w).drew;revert qb;revert hS;generalize w.drew=V;intro hS qb;refine kG 0 17 hS ?_;refine kG 1 18 hS ?_;refine kG 2 19 hS ?_;refine kG 3 20 hS ?_;refine kG 4 21 hS ?_;refine kG 7 24 hS ?_;refine kG 8 25 hS ?_;refine kG 9 26 hS ?_;refine wpAnyH_ready (rs:=[5,10]) (by kernel_rfl) (by simp) ?_;refine AllReadyH.cons rfl (fun K hK=>?_) (AllReadyH.cons rfl (fun K hK=>?_) AllReadyH.nil)
 ·go_simp;refine(zcN (.slice am mn cm) mem _ (hm.below qb) HPK.out (by omega) (by omega)).mono ?_;rintro e V3 ⟨vb,vk,rfl,hbI,hkS,hb3⟩;replace hbI:=hbI.mono qb.size;replace hkS:=hkS.mono qb.size;replace qb:=qb.trans (hb3.mono qb.size);obtain⟨ab,cb,heb⟩:=zK hbI;obtain⟨ak,ck,hek⟩:=zK hkS;generalize (zq mem).bits.length=bn at heb;generalize (zq mem).blocks.length=kn at hek;subst heb;subst hek;clear hb3 hS;refine hK.out _ _ (HSB.out _ qb) (fun hS=>?_);clear hK K;try simp only[sA,sZ,sS]
  refine wpAnyH_ready (rs:=[6,10]) (by kernel_rfl) (by simp) ?_;refine AllReadyH.cons rfl (fun K hK=>?_) (AllReadyH.cons rfl (fun K hK=>?_) AllReadyH.nil)
  ·refine zcK rfl 23 rfl (zq mem).first (zq mem).last (.slice ab bn cb) (.slice ak kn ck) (by go_simp;(try rfl)) ?_;intro bT V4 hb4 qT;replace qT:OwnT V4 w.heap.size (.slice (some ⟨bT,0,none⟩) 1 1) [⟨zq mem,.slice ab bn cb,.slice ak kn ck⟩]:=OwnT.mono (qT _ _) qb.size;replace hbI:=hbI.below hb4;replace hkS:=hkS.below hb4;replace qb:=qb.trans (hb4.mono qb.size);clear hb4 hS;refine hK.out _ _ (HSB.out _ qb) (fun hS=>?_);clear hK K;try simp only[Act.put,sA,sZ,sS]
   refine rdy 10 (fun K hK=>?_);obtain⟨y0,y1,y2,y3,y4,-⟩:=(HBX.out _ qb).facts;go_simp;clear y0 y1 y2 y3 y4 hS;refine hK.out _ _ (HSB.out _ qb) (fun hS=>?_);clear hK K;try simp only[sA,sZ,sS]
   refine rdy 11 (fun K hK=>?_);refine zal rfl 28 rfl _ _ rfl w.heap.size (.slice (some ⟨bT,0,none⟩) 1 1) (.slice ay yn cy) [⟨zq mem,.slice ab bn cb,.slice ak kn ck⟩] ys rfl rfl qT (hy.below qb) hny (by simp;omega) qb.size ?_;intro vQ V5 hoQ hg;replace hbI:OwnI V5 w.heap.size (.slice ab bn cb) (zq mem).bits:=zj hbI hg (fun k hk e=>zh hbI qT (by decide) k hk e);replace hkS:OwnS V5 w.heap.size (.slice ak kn ck) (zq mem).blocks:=zj hkS hg (fun k hk e=>zh hkS qT (by decide) k hk e);replace qb:=qb.grown hg qb.size (fun k hk=>(World.ownsRow.lt qT k hk).1);obtain⟨aQ,cQ,heQ⟩:=zK hoQ;generalize ([(⟨zq mem,.slice ab bn cb,.slice ak kn ck⟩:TV)]++ys).length=qn at heQ;subst heQ;clear hg qT hS;refine hK.out _ _ (HSB.out _ qb) (fun hS=>?_);clear hK K;try simp only[Act.put,sA,sZ,sS]
   refine kG 12 29 hS ?_;refine kG 13 30 hS ?_;refine rdy 14 (fun K hK=>?_);have zb:=HBX.out _ qb;obtain⟨y0,y1,y2,y3,y4,g0,g1,g2,g3,g4⟩:=zb.facts;have zc:=zbG zb (.slice aQ qn cQ);go_simp;refine hK.out _ _ zc.facts.1 (fun hS=>?_);clear hK K y0 y1 y2 y3 y4 g0 g1 g2 g3 g4;refine dne ?_;have hne:∀ {t s n:Nat} {v:Value} {xs:List Value},V5.ownsRow w.heap.size t s v n xs→∀ k,v.ownBlock=some k→b≠k:=fun h k hk e=>by have:=(World.ownsRow.lt h k hk).1;have:=HBL.out;omega
   have zd:=zbe zc (.slice (some ⟨V5.heap.size,0,none⟩) 0 0);obtain⟨Wd,hWd⟩:∃ Wd,Wd=(V5.setCell ⟨b,1,none⟩ (.slice aQ qn cQ)).setCell ⟨b,0,none⟩ (.slice (some ⟨V5.heap.size,0,none⟩) 0 0):=⟨_,rfl⟩;have o1:OwnT Wd w.heap.size (.slice aQ qn cQ) (⟨zq mem,.slice ab bn cb,.slice ak kn ck⟩::ys):=by rw[hWd];exact zg (zg hoQ (hne hoQ)) (hne hoQ)
   have o2:OwnI Wd w.heap.size (.slice ab bn cb) (zq mem).bits:=by rw[hWd];exact zg (zg hbI (hne hbI)) (hne hbI)
   have o3:OwnS Wd w.heap.size (.slice ak kn ck) (zq mem).blocks:=by rw[hWd];exact zg (zg hkS (hne hkS)) (hne hkS)
   have tt:Touch [b] w Wd:=by rw[hWd];exact((Touch.of_below qb).trans (Touch.set (by simp))).trans (Touch.set (by simp))
   have sd:Wd.heap.size=V5.heap.size:=by rw[hWd];simp
   have s5:=qb.size;have hbl:b<V5.heap.size:=by have:=HBL.out;omega
   have bb:=za Wd (.cells #[] 94);have o4:=zt Wd;rw[sd] at o4;rw[← hWd] at zd;obtain⟨y0,y1,y2,y3,y4,g0,g1,g2,g3,g4⟩:=zc.facts;have END:Hid (zcv w b vo q vs mem ys mn yn (.returned (.bool true)) (Wd.alloc (.cells #[] 94))):=by
    refine⟨true,rfl,HOKT.out.symm,(fun h=>by cases h),fun _=>⟨_,_,_,_,zd.on bb,o4.mono s5,OwnT.below o1 bb,o2.below bb,o3.below bb,tt.trans (Touch.of_below bb)⟩⟩
   rw[hWd] at END;clear zd zc zb o1 o2 o3 o4 tt sd bb hWd hne hoQ hbI hkS hS qb;go_wp2;go_ret;exact END.out
  ·obtain⟨y0,y1,y2,y3,y4,-⟩:=(HBX.out _ qb).facts;go_simp;clear y0 y1 y2 y3 y4 hS;refine hK.out _ _ (HSB.out _ qb) (fun hS=>?_);clear hK K;try simp only[sA,sZ,sS]
   refine rdy 6 (fun K hK=>?_);refine zcK rfl 23 rfl (zq mem).first (zq mem).last (.slice ab bn cb) (.slice ak kn ck) (by go_simp;(try rfl)) ?_;intro bT V4 hb4 qT;replace qT:OwnT V4 w.heap.size (.slice (some ⟨bT,0,none⟩) 1 1) [⟨zq mem,.slice ab bn cb,.slice ak kn ck⟩]:=OwnT.mono (qT _ _) qb.size;replace hbI:=hbI.below hb4;replace hkS:=hkS.below hb4;replace qb:=qb.trans (hb4.mono qb.size);clear hb4 hS;refine hK.out _ _ (HSB.out _ qb) (fun hS=>?_);clear hK K;try simp only[Act.put,sA,sZ,sS]
   refine rdy 11 (fun K hK=>?_);refine zal rfl 28 rfl _ _ rfl w.heap.size (.slice (some ⟨bT,0,none⟩) 1 1) (.slice ay yn cy) [⟨zq mem,.slice ab bn cb,.slice ak kn ck⟩] ys rfl rfl qT (hy.below qb) hny (by simp;omega) qb.size ?_;intro vQ V5 hoQ hg;replace hbI:OwnI V5 w.heap.size (.slice ab bn cb) (zq mem).bits:=zj hbI hg (fun k hk e=>zh hbI qT (by decide) k hk e);replace hkS:OwnS V5 w.heap.size (.slice ak kn ck) (zq mem).blocks:=zj hkS hg (fun k hk e=>zh hkS qT (by decide) k hk e);replace qb:=qb.grown hg qb.size (fun k hk=>(World.ownsRow.lt qT k hk).1);obtain⟨aQ,cQ,heQ⟩:=zK hoQ;generalize ([(⟨zq mem,.slice ab bn cb,.slice ak kn ck⟩:TV)]++ys).length=qn at heQ;subst heQ;clear hg qT hS;refine hK.out _ _ (HSB.out _ qb) (fun hS=>?_);clear hK K;try simp only[Act.put,sA,sZ,sS]
   refine kG 12 29 hS ?_;refine kG 13 30 hS ?_;refine rdy 14 (fun K hK=>?_);have zb:=HBX.out _ qb;obtain⟨y0,y1,y2,y3,y4,g0,g1,g2,g3,g4⟩:=zb.facts;have zc:=zbG zb (.slice aQ qn cQ);go_simp;refine hK.out _ _ zc.facts.1 (fun hS=>?_);clear hK K y0 y1 y2 y3 y4 g0 g1 g2 g3 g4;refine dne ?_;have hne:∀ {t s n:Nat} {v:Value} {xs:List Value},V5.ownsRow w.heap.size t s v n xs→∀ k,v.ownBlock=some k→b≠k:=fun h k hk e=>by have:=(World.ownsRow.lt h k hk).1;have:=HBL.out;omega
   have zd:=zbe zc (.slice (some ⟨V5.heap.size,0,none⟩) 0 0);obtain⟨Wd,hWd⟩:∃ Wd,Wd=(V5.setCell ⟨b,1,none⟩ (.slice aQ qn cQ)).setCell ⟨b,0,none⟩ (.slice (some ⟨V5.heap.size,0,none⟩) 0 0):=⟨_,rfl⟩;have o1:OwnT Wd w.heap.size (.slice aQ qn cQ) (⟨zq mem,.slice ab bn cb,.slice ak kn ck⟩::ys):=by rw[hWd];exact zg (zg hoQ (hne hoQ)) (hne hoQ)
   have o2:OwnI Wd w.heap.size (.slice ab bn cb) (zq mem).bits:=by rw[hWd];exact zg (zg hbI (hne hbI)) (hne hbI)
   have o3:OwnS Wd w.heap.size (.slice ak kn ck) (zq mem).blocks:=by rw[hWd];exact zg (zg hkS (hne hkS)) (hne hkS)
   have tt:Touch [b] w Wd:=by rw[hWd];exact((Touch.of_below qb).trans (Touch.set (by simp))).trans (Touch.set (by simp))
   have sd:Wd.heap.size=V5.heap.size:=by rw[hWd];simp
   have s5:=qb.size;have hbl:b<V5.heap.size:=by have:=HBL.out;omega
   have bb:=za Wd (.cells #[] 94);have o4:=zt Wd;rw[sd] at o4;rw[← hWd] at zd;obtain⟨y0,y1,y2,y3,y4,g0,g1,g2,g3,g4⟩:=zc.facts;have END:Hid (zcv w b vo q vs mem ys mn yn (.returned (.bool true)) (Wd.alloc (.cells #[] 94))):=by
    refine⟨true,rfl,HOKT.out.symm,(fun h=>by cases h),fun _=>⟨_,_,_,_,zd.on bb,o4.mono s5,OwnT.below o1 bb,o2.below bb,o3.below bb,tt.trans (Touch.of_below bb)⟩⟩
   rw[hWd] at END;clear zd zc zb o1 o2 o3 o4 tt sd bb hWd hne hoQ hbI hkS hS qb;go_wp2;go_ret;exact END.out
 ·obtain⟨y0,y1,y2,y3,y4,-⟩:=(HBX.out _ qb).facts;go_simp;clear y0 y1 y2 y3 y4 hS;refine hK.out _ _ (HSB.out _ qb) (fun hS=>?_);clear hK K;try simp only[sA,sZ,sS]
  refine rdy 5 (fun K hK=>?_);go_simp;refine(zcN (.slice am mn cm) mem _ (hm.below qb) HPK.out (by omega) (by omega)).mono ?_;rintro e V3 ⟨vb,vk,rfl,hbI,hkS,hb3⟩;replace hbI:=hbI.mono qb.size;replace hkS:=hkS.mono qb.size;replace qb:=qb.trans (hb3.mono qb.size);obtain⟨ab,cb,heb⟩:=zK hbI;obtain⟨ak,ck,hek⟩:=zK hkS;generalize (zq mem).bits.length=bn at heb;generalize (zq mem).blocks.length=kn at hek;subst heb;subst hek;clear hb3 hS;refine hK.out _ _ (HSB.out _ qb) (fun hS=>?_);clear hK K;try simp only[sA,sZ,sS]
  refine rdy 6 (fun K hK=>?_);refine zcK rfl 23 rfl (zq mem).first (zq mem).last (.slice ab bn cb) (.slice ak kn ck) (by go_simp;(try rfl)) ?_;intro bT V4 hb4 qT;replace qT:OwnT V4 w.heap.size (.slice (some ⟨bT,0,none⟩) 1 1) [⟨zq mem,.slice ab bn cb,.slice ak kn ck⟩]:=OwnT.mono (qT _ _) qb.size;replace hbI:=hbI.below hb4;replace hkS:=hkS.below hb4;replace qb:=qb.trans (hb4.mono qb.size);clear hb4 hS;refine hK.out _ _ (HSB.out _ qb) (fun hS=>?_);clear hK K;try simp only[Act.put,sA,sZ,sS]
  refine rdy 11 (fun K hK=>?_);refine zal rfl 28 rfl _ _ rfl w.heap.size (.slice (some ⟨bT,0,none⟩) 1 1) (.slice ay yn cy) [⟨zq mem,.slice ab bn cb,.slice ak kn ck⟩] ys rfl rfl qT (hy.below qb) hny (by simp;omega) qb.size ?_;intro vQ V5 hoQ hg;replace hbI:OwnI V5 w.heap.size (.slice ab bn cb) (zq mem).bits:=zj hbI hg (fun k hk e=>zh hbI qT (by decide) k hk e);replace hkS:OwnS V5 w.heap.size (.slice ak kn ck) (zq mem).blocks:=zj hkS hg (fun k hk e=>zh hkS qT (by decide) k hk e);replace qb:=qb.grown hg qb.size (fun k hk=>(World.ownsRow.lt qT k hk).1);obtain⟨aQ,cQ,heQ⟩:=zK hoQ;generalize ([(⟨zq mem,.slice ab bn cb,.slice ak kn ck⟩:TV)]++ys).length=qn at heQ;subst heQ;clear hg qT hS;refine hK.out _ _ (HSB.out _ qb) (fun hS=>?_);clear hK K;try simp only[Act.put,sA,sZ,sS]
  refine kG 12 29 hS ?_;refine kG 13 30 hS ?_;refine rdy 14 (fun K hK=>?_);have zb:=HBX.out _ qb;obtain⟨y0,y1,y2,y3,y4,g0,g1,g2,g3,g4⟩:=zb.facts;have zc:=zbG zb (.slice aQ qn cQ);go_simp;refine hK.out _ _ zc.facts.1 (fun hS=>?_);clear hK K y0 y1 y2 y3 y4 g0 g1 g2 g3 g4;refine dne ?_;have hne:∀ {t s n:Nat} {v:Value} {xs:List Value},V5.ownsRow w.heap.size t s v n xs→∀ k,v.ownBlock=some k→b≠k:=fun h k hk e=>by have:=(World.ownsRow.lt h k hk).1;have:=HBL.out;omega
  have zd:=zbe zc (.slice (some ⟨V5.heap.size,0,none⟩) 0 0);obtain⟨Wd,hWd⟩:∃ Wd,Wd=(V5.setCell ⟨b,1,none⟩ (.slice aQ qn cQ)).setCell ⟨b,0,none⟩ (.slice (some ⟨V5.heap.size,0,none⟩) 0 0):=⟨_,rfl⟩;have o1:OwnT Wd w.heap.size (.slice aQ qn cQ) (⟨zq mem,.slice ab bn cb,.slice ak kn ck⟩::ys):=by rw[hWd];exact zg (zg hoQ (hne hoQ)) (hne hoQ)
  have o2:OwnI Wd w.heap.size (.slice ab bn cb) (zq mem).bits:=by rw[hWd];exact zg (zg hbI (hne hbI)) (hne hbI)
  have o3:OwnS Wd w.heap.size (.slice ak kn ck) (zq mem).blocks:=by rw[hWd];exact zg (zg hkS (hne hkS)) (hne hkS)
  have tt:Touch [b] w Wd:=by rw[hWd];exact((Touch.of_below qb).trans (Touch.set (by simp))).trans (Touch.set (by simp))
  have sd:Wd.heap.size=V5.heap.size:=by rw[hWd];simp
  have s5:=qb.size;have hbl:b<V5.heap.size:=by have:=HBL.out;omega
  have bb:=za Wd (.cells #[] 94);have o4:=zt Wd;rw[sd] at o4;rw[← hWd] at zd;obtain⟨y0,y1,y2,y3,y4,g0,g1,g2,g3,g4⟩:=zc.facts;have END:Hid (zcv w b vo q vs mem ys mn yn (.returned (.bool true)) (Wd.alloc (.cells #[] 94))):=by
   refine⟨true,rfl,HOKT.out.symm,(fun h=>by cases h),fun _=>⟨_,_,_,_,zd.on bb,o4.mono s5,OwnT.below o1 bb,o2.below bb,o3.below bb,tt.trans (Touch.of_below bb)⟩⟩
  rw[hWd] at END;clear zd zc zb o1 o2 o3 o4 tt sd bb hWd hne hoQ hbI hkS hS qb;go_wp2;go_ret;exact END.out
open Go.RowKit
end Go.Proofs.YtannfbpohhnnkaaGreatDoor
