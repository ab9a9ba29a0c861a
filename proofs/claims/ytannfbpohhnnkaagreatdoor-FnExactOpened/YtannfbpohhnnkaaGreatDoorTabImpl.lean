import Derived.Test.YtannfbpohhnnkaaGreatDoorG33
namespace Go.Proofs.YtannfbpohhnnkaaGreatDoor
set_option maxHeartbeats 16000000
set_option maxRecDepth 100000
open Go.RowKit
theorem z8(i d:Nat){P:Program}{ops:Array Oper}{Q:Exit→Act→World→Prop}{md:Region.Mode}{S:World→Prop}{oi:Oper}{v:Value}{fuel:Nat}{listed:Array Bool}{a a':Act}{w:World}(hS:S w)(h:wpAnyH P md ops (NoPanic Q) S fuel (listed.setIfInBounds i true) a' w)(hi:ops[i]? = some oi:=by rfl)(hd:oi.dst=some d:=by rfl)(hs:Region.noSelect ops=true:=by kernel_rfl)(hf:Region.free md ops listed i=true:=by kernel_rfl)(hr:(Region.ready md ops listed).contains i=true:=by kernel_rfl)(hw:Region.wanted oi (yielded ops a.tmps)=true:=by kernel_rfl)(hy:∀ w,S w→(execOp a.eval oi).run P w=.ok (.value v) w:=by intro w hS;(try dsimp only[EntAt,MAt,Nat.zero_add] at hS);go_simp;(try with_reducible rfl))(ha:a.put (some d) v=a':=by (try simp only[Act.put,sA,sZ,sS]);(try rfl)):wpAnyH P md ops (NoPanic Q) S (fuel+1) listed a w:=takeH hi hd hs hf hr (fun _ _ _ h=>h) (Or.inl ⟨hw,hy⟩) hS (ha ▸ h)
theorem zcQ(v:Value)(es:List Ent)(w:World)(hr:RdE w v es)(hf:∀ e∈es,Fits e) :
 Calls Tryz.prog 139 #[v] w fun e w'=>zdD w (zcE es) (zN es) e w':=by
 have HF:Hid (∀ e∈es,Fits e):=hf;clear hf;obtain⟨a,cap,hv,hl,hm,_⟩:=id hr;obtain⟨nn,hnn⟩:∃ nn,nn=es.length:=⟨_,rfl⟩;have HNN:Hid (nn=es.length):=hnn;rw[← hnn] at hv hl;subst hv;clear hnn;unfold maxLen at hm;have hz:=zbQ w ⟨#[]⟩ ⟨#[]⟩ (.slice none 0 0) (.slice none 0 0);have b0:=za w (.cells #[.string ⟨#[]⟩,.string ⟨#[]⟩,.slice none 0 0,.slice none 0 0] 118);have hr0:=hr.below b0;cases hok:okL es with
 | false =>
  have HCE:Hid (∀ W,RdE W (.slice a nn cap) es→Calls Tryz.prog 151 #[.slice a nn cap] W fun e w'=>e=.returned (.bool false)∧Below W.heap.size W w'):=fun W h=>by have:=zaj _ es W h HF.out;rwa [hok] at this
  have RES:Hid (zN es=false):=by unfold Hid zN;rw[hok];rfl
  clear hok;go_enter Tryz.func139,Tryz.ntmps139
  go_wp2_with fail
  refine(HCE.out _ hr0).mono ?_;rintro e w1 ⟨rfl,hb1⟩;obtain⟨z0,z1,z2,z3,f0,f1,f2,f3⟩:=(hz.below hb1).facts;have b1:=b0.trans (hb1.mono b0.size);clear hz hb1;go_wp2;exact bodyPost_ret (v:=.tuple #[.agg #[.string ⟨#[]⟩,.string ⟨#[]⟩,.slice none 0 0,.slice none 0 0],.bool false]) (by simp[results,Tryz.results139,go_sem,z0,z1,z2,z3]) rfl (zfY RES.out (zba b1 (Nat.le_refl _) _ _ _ _ _ _ _ _))
 | true =>
  have HCE:Hid (∀ W,RdE W (.slice a nn cap) es→Calls Tryz.prog 151 #[.slice a nn cap] W fun e w'=>e=.returned (.bool true)∧Below W.heap.size W w'):=fun W h=>by have:=zaj _ es W h HF.out;rwa [hok] at this
  have hlen:=zZ hok;rw[← HNN.out] at hlen;by_cases h0:nn=0
  ·have RES:Hid (zN es=false):=by unfold Hid zN;rw[← HNN.out,h0];simp
   have hd:((nn:Int)==0)=true:=by simp;omega
   clear hok h0;go_enter Tryz.func139,Tryz.ntmps139
   go_wp2_with fail
   refine(HCE.out _ hr0).mono ?_;rintro e w1 ⟨rfl,hb1⟩;obtain⟨z0,z1,z2,z3,f0,f1,f2,f3⟩:=(hz.below hb1).facts;have b1:=b0.trans (hb1.mono b0.size);clear hz hb1;go_wp2;exact bodyPost_ret (v:=.tuple #[.agg #[.string ⟨#[]⟩,.string ⟨#[]⟩,.slice none 0 0,.slice none 0 0],.bool false]) (by simp[results,Tryz.results139,go_sem,z0,z1,z2,z3]) rfl (zfY RES.out (zba b1 (Nat.le_refl _) _ _ _ _ _ _ _ _))
  ·skip
   have RES:Hid (zN es=true):=by unfold Hid zN;rw[hok,← HNN.out];simp[h0]
   have hd:((nn:Int)==0)=false:=by simp;omega
   have hpos:0<es.length:=by rw[← HNN.out];omega
   obtain⟨b,off,rfl,hc0⟩:=hr.at HNN.out 0 hpos;obtain⟨b',off',hb',hcl⟩:=hr.at HNN.out (es.length-1) (by omega);cases hb'
   have nbb:b≠w.heap.size:=Nat.ne_of_lt hc0.lt;obtain⟨m,hm'⟩:∃ m,m=es.length-1:=⟨_,rfl⟩;rw[← hm'] at hcl;rw[Nat.zero_mul,Nat.add_zero] at hc0;obtain⟨e0,he0⟩:∃ e0,e0=nth es 0:=⟨_,rfl⟩;obtain⟨el,hel⟩:∃ el,el=nth es m:=⟨_,rfl⟩;rw[← he0] at hc0;rw[← hel] at hcl;have HKS:Hid (∀ e∈es,e.key.size≤1000000000):=fun e he=>by have:=zaE (zdx hok e he);omega
   have HBT:Hid (zq es=⟨e0.key,el.key,bitsL es,blksL es⟩):=by unfold Hid zq;rw[he0,hel,hm']
   have HY:Hid (∀ W vb vk,OwnI W w.heap.size vb (bitsL es)→OwnS W w.heap.size vk (blksL es)→Below w.heap.size w W→zdD w (zcE es) (zN es) (.returned (.tuple #[.agg #[.string e0.key,.string el.key,vb,vk],.bool true])) W):=fun W vb vk h1 h2 h3=>by
    have:=zjq (vb:=vb) (vk:=vk) RES.out (by rw[HBT.out];exact h1) (by rw[HBT.out];exact h2) h3;rwa [HBT.out] at this
   have HCK:Hid (∀ W,RdE W (.slice (some ⟨b,off,none⟩) nn cap) es→Calls Tryz.prog 187 #[.slice (some ⟨b,off,none⟩) nn cap] W fun e w'=>e=.returned (MV (mKeys es))∧Below W.heap.size W w'):=fun W h=>zdb _ es W h HKS.out
   have HCB:Hid (∀ W,Calls Tryz.prog 188 #[MV (mKeys es)] W fun e w'=>∃ u,e=.returned u∧OwnI w' W.heap.size u (bitsL es)∧Below W.heap.size W w'):=fun W=>by have:=bits_any (mKeys es) W (zna es);rwa [zkv] at this
   have HCP:Hid (∀ W,RdE W (.slice (some ⟨b,off,none⟩) nn cap) es→Calls Tryz.prog 189 #[.slice (some ⟨b,off,none⟩) nn cap] W fun e w'=>∃ u,e=.returned u∧OwnS w' W.heap.size u (blksL es)∧Below W.heap.size W w'):=fun W h=>zgg _ es W h hok
   have hnm:(nn:Int)-1=(m:Int):=by have:=HNN.out;omega
   have hwm:IntKind.i64.wrap (m:Int)=(m:Int):=by rw[IntKind.wrap_i64];omega
   have hmn:m<nn:=by have:=HNN.out;omega
   have hn0:0<nn:=by omega
   clear RES hok h0 hpos hm' he0 hel HKS HBT;generalize mKeys es=M at HCK HCB;unfold MV at HCK HCB;generalize bitsL es=bts at HCB HY;generalize blksL es=bks at HCP HY;have hc00:=hc0.below b0;have hcl0:=hcl.below b0;go_enter Tryz.func139,Tryz.ntmps139
   go_wp2_with fail
   refine(HCE.out _ hr0).mono ?_;rintro e w1 ⟨rfl,hb1⟩;have hz1:=hz.below hb1;have b1:=b0.trans (hb1.mono b0.size);have hr1:=hr0.below hb1;have hc1:=hc00.below hb1;have hcl1:=hcl0.below hb1;clear hz hr0 hc00 hcl0 hb1 b0 hc0 hcl HCE;go_wp2_with fail
   refine wp_region_noPanic ?_;refine wp_region_held_drew (S:=fun w'=>EntAt w' b off e0∧EntAt w' b (off+m*4) el) (by kernel_rfl) ⟨hc1,hcl1⟩ (fun hH=>?_);have qz:BoxT w1.drew w.heap.size ⟨#[]⟩ ⟨#[]⟩ (.slice none 0 0) (.slice none 0 0):=hz1;have qb:=b1.drew;have qr:RdE w1.drew _ es:=hr1.drewN 1;clear hz1 b1 hr1 hc1 hcl1;revert qz;revert qb;revert qr;revert hH;generalize w1.drew=W0;intro hH qr qb qz;refine z8 0 13 hH ?_;refine z8 1 14 hH ?_;refine z8 2 15 hH ?_;refine z8 3 16 hH ?_;refine z8 4 17 hH ?_;refine z8 5 18 hH ?_;refine z8 6 19 hH ?_;refine z8 7 20 hH ?_;refine z8 8 21 hH ?_;refine z8 9 22 hH ?_;refine z8 10 23 hH ?_;refine z8 11 24 hH ?_;refine z8 14 27 hH ?_;refine rdy 12 (fun K hK=>?_);go_simp;refine(HCK.out _ qr).mono ?_;rintro e W1 ⟨rfl,hb1⟩;have qz1:=qz.below hb1;have qb1:=qb.trans (hb1.mono qb.size);have qr1:=qr.below hb1;have hH1:(fun w'=>EntAt w' b off e0∧EntAt w' b (off+m*4) el) W1:=⟨hH.1.below hb1,hH.2.below hb1⟩;clear qz qb qr hb1;refine hK.out _ _ hH1 (fun h1=>?_);clear hK K;try simp only[Act.put,sA,sZ,sS]
   clear hH hH1;refine rdy 13 (fun K hK=>?_);go_simp;refine(HCB.out _).mono ?_;rintro e W2 ⟨ub,rfl,hub,hb2⟩;have qz2:=qz1.below hb2;have qb2:=qb1.trans (hb2.mono qb1.size);have qr2:=qr1.below hb2;have hu2:=hub.mono qb1.size;have hH2:(fun w'=>EntAt w' b off e0∧EntAt w' b (off+m*4) el) W2:=⟨h1.1.below hb2,h1.2.below hb2⟩;clear qz1 qb1 qr1 hb2 hub;refine hK.out _ _ hH2 (fun h2=>?_);clear hK K;try simp only[Act.put,sA,sZ,sS]
   clear hH2 h1;refine rdy 15 (fun K hK=>?_);go_simp;refine(HCP.out _ qr2).mono ?_;rintro e W3 ⟨uk,rfl,huk,hb3⟩;have qz3:=qz2.below hb3;have qb3:=qb2.trans (hb3.mono qb2.size);have hu3:=hu2.below hb3;have hk3:=huk.mono qb2.size;have hH3:(fun w'=>EntAt w' b off e0∧EntAt w' b (off+m*4) el) W3:=⟨h2.1.below hb3,h2.2.below hb3⟩;clear qz2 qb2 qr2 hb3 hu2 huk;refine hK.out _ _ hH3 (fun h3=>?_);clear hK K;try simp only[Act.put,sA,sZ,sS]
   clear h2 hH3;obtain⟨ab,cb,hsb,_⟩:=id hu3.rd;obtain⟨ak,ck,hsk,_⟩:=id hk3.rd;generalize bts.length=bn at hsb;generalize bks.length=kn at hsk;subst hsb;subst hsk;refine z8 16 29 h3 ?_;have nb:=zJ qz3 hu3 (by decide);have nk:=zJ qz3 hk3 (by decide);obtain⟨z0,z1,z2,z3,f0,f1,f2,f3⟩:=qz3.facts;have hH4:(fun w'=>EntAt w' b off e0∧EntAt w' b (off+m*4) el) ((((W3.setCell ⟨w.heap.size,0,none⟩ (.string e0.key)).setCell ⟨w.heap.size,1,none⟩ (.string el.key)).setCell ⟨w.heap.size,2,none⟩ (.slice ab bn cb)).setCell ⟨w.heap.size,3,none⟩ (.slice ak kn ck)):=⟨zdY h3.1 nbb _ _ _ _ _ _ _ _,zdY h3.2 nbb _ _ _ _ _ _ _ _⟩;refine rdy 17 (fun K hK=>?_);go_simp;refine hK.out _ _ hH4 (fun h4=>?_);clear hK K;try simp only[Act.put,sA,sZ,sS]
   refine z8 18 3 h4 ?_;refine dne ?_;go_wp2;exact bodyPost_ret (v:=.tuple #[.agg #[.string e0.key,.string el.key,.slice ab bn cb,.slice ak kn ck],.bool true]) (by simp[results,Tryz.results139,go_sem,z0,z1,z2,z3]) rfl (HY.out _ _ _ (zg (zg (zg (zg hu3 nb) nb) nb) nb) (zg (zg (zg (zg hk3 nk) nk) nk) nk) (zba qb3 (Nat.le_refl _) _ _ _ _ _ _ _ _))
end Go.Proofs.YtannfbpohhnnkaaGreatDoor
