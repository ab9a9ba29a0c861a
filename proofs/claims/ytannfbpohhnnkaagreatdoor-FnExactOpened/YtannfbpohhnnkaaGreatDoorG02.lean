import Derived.Test.YtannfbpohhnnkaaGreatDoorG01
import Derived.Deep.RegionHeld3
namespace Go.Proofs.YtannfbpohhnnkaaGreatDoor
set_option maxHeartbeats 16000000
set_option maxRecDepth 100000
open Go.RowKit
theorem zbI(W:World)(x:Ent)(t:TypeId):EntAt (W.alloc (.cells #[.string x.key,.string x.val,.int .i64 x.seq,.bool x.gone] t)) W.heap.size 0 x :=
 ⟨by simp[World.cell?_alloc_at],by simp[World.cell?_alloc_at],by simp[World.cell?_alloc_at],by simp[World.cell?_alloc_at]⟩
theorem ziM{es:List Ent}{k i:Nat}(h:i<k)(h2:i<es.length):nth (es.take k) i=nth es i:=by
 rw[zE (by rw[List.length_take];omega),zE h2,List.getElem_take]
theorem zgv{es:List Ent}{k i:Nat}(h:k+i<es.length):nth (es.drop k) i=nth es (k+i):=by
 rw[zE (by rw[List.length_drop];omega),zE h,List.getElem_drop]
theorem zgr{w:World}{a:Option Addr}{n cap k:Nat}{es:List Ent}(h:RdE w (.slice a n cap) es)(hk:k≤es.length):RdE w (.slice a k cap) (es.take k):=by
 obtain⟨a',cap',hv,h1,h2,h0,h3⟩:=h;simp only[Value.slice.injEq] at hv;obtain⟨rfl,_,rfl⟩:=hv;have hl:(es.take k).length=k:=by rw[List.length_take];omega
 refine⟨a,cap,by rw[hl],by omega,h2,h0,?_⟩;rcases h3 with rfl | ⟨b,off,ha,hc⟩
 ·exact .inl (by simp)
 ·exact .inr ⟨b,off,ha,fun i hi=>by rw[ziM (by omega) (by omega)];exact hc i (by omega)⟩
theorem rdE_drop{w:World}{b off n cap k:Nat}{es:List Ent}(h:RdE w (.slice (some ⟨b,off,none⟩) n cap) es)(hk:k≤es.length):RdE w (.slice (some ⟨b,off+k*4,none⟩) (es.length-k) (cap-k)) (es.drop k):=by
 obtain⟨a',cap',hv,h1,h2,h0,h3⟩:=h;simp only[Value.slice.injEq] at hv;obtain⟨rfl,_,rfl⟩:=hv;have hl:(es.drop k).length=es.length-k:=List.length_drop;refine⟨_,_,by rw[hl],by omega,by omega,(fun h=>by cases h),?_⟩;rcases h3 with rfl | ⟨b',off',ha,hc⟩
 ·exact .inl (by simp)
 ·cases ha
  refine .inr ⟨b,off+k*4,rfl,fun i hi=>?_⟩;rw[zgv (by omega),show off+k*4+i*4=off+(k+i)*4 by omega];exact hc (k+i) (by omega)
theorem zfc{w:World}{ad:Option Addr}{cap:Nat}{es:List Ent}(h0:ad=none→cap=0)(hm:cap≤maxLen)(he:es=[]):RdE w (.slice ad 0 cap) es:=by
 subst he;exact⟨ad,cap,rfl,Nat.zero_le _,hm,h0,.inl rfl⟩
theorem zja{w:World}{b off n cap k:Nat}{es:List Ent}(h:RdE w (.slice (some ⟨b,off,none⟩) n cap) es)(hk:k≤es.length):RdE w (.slice (if cap=k then some ⟨b,off,none⟩ else some ⟨b,off+k*4,none⟩) (es.length-k) (cap-k)) (es.drop k):=by
 split
 ·rename_i hck;obtain⟨a',cap',hv,h1,h2,h0,h3⟩:=h;simp only[Value.slice.injEq] at hv;obtain⟨_,_,rfl⟩:=hv;have hl:es.length-k=0:=by omega
  rw[hl];exact zfc (fun h=>by cases h) (by omega) (List.drop_eq_nil_of_le (by omega))
 ·exact rdE_drop h hk
theorem zgX{w:World}{b:Nat}{x:Ent}(h:EntAt w b 0 x):RdE w (.slice (some ⟨b,0,none⟩) 1 1) [x] :=
 ⟨_,1,rfl,Nat.le_refl _,by decide,(fun h=>by cases h),.inr ⟨b,0,rfl,fun i hi=>by
  have:i=0:=by simpa using hi
  subst this;exact h⟩⟩
theorem zqw(v:Value)(es:List Ent)(x:Ent)(w:World)(hr:RdE w v es)(hn:es.length≤1000000) :
 Calls Tryz.prog 148 #[v,.agg #[.string x.key,.string x.val,.int .i64 x.seq,.bool x.gone]] w fun e w'=>∃ u,e=.returned u∧OwnE w' w.heap.size u (insE es x)∧Below w.heap.size w w':=by
 obtain⟨a,cap,hv,hl,hm,hnil,_⟩:=id hr;have hm0:=hm;unfold maxLen at hm;subst hv;have hbx:=zbI w x 94;have hb0:=za w (.cells #[.string x.key,.string x.val,.int .i64 x.seq,.bool x.gone] 94);go_enter Tryz.func148,Tryz.ntmps148
 go_wp2_with fail
 go_loopw [5] (fun i wr=>∃ k:Nat,k≤es.length∧i=.int .i64 k∧Hid (∀ j,j<k→ahd (nth es j) x=true)∧EntAt wr w.heap.size 0 x∧Below w.heap.size w wr∧w.heap.size+1≤wr.heap.size) (fun i _=>es.length-(intOf i).toNat)
 case atStart=>exact⟨0,Nat.zero_le _,rfl,(fun j hj=>absurd hj (Nat.not_lt_zero _)),hbx,hb0,by simp⟩
 case round =>
  obtain⟨k,hk,rfl,HO,hx0,hb,hsz⟩:=hrel;clear hbx hb0;have hrw:=hr.below hb;by_cases hlt:k<es.length
  ·obtain⟨b,off,rfl,hc⟩:=hrw.at rfl k hlt;obtain⟨y,hy⟩:∃ y,y=nth es k:=⟨_,rfl⟩;rw[← hy] at hc;have HY:Hid (y=nth es k):=hy;clear hy;have hkl:decide (k<es.length)=true:=by simpa using hlt
   cases hah:ahd y x with
   | true =>
    have HO2:Hid (∀ j,j<k+1→ahd (nth es j) x=true):=by
     intro j hj;by_cases hjk:j=k
     ·subst hjk;rw[← HY.out];exact hah
     ·exact HO.out j (by omega)
    go_wp2_with fail
    refine wp_region_noPanic ?_;refine wp_region_held_drew (S:=fun w'=>EntAt w' w.heap.size 0 x∧EntAt w' b (off+k*4) y) (by kernel_rfl) ⟨hx0,hc⟩ (fun hH=>?_);refine kA 0 7 hH ?_;refine kA 1 8 hH ?_;refine kA 2 9 hH ?_;refine kA 3 10 hH ?_;refine kA 4 11 hH ?_;refine kA 5 12 hH ?_;refine kA 6 13 hH ?_;refine kA 7 14 hH ?_;refine kA 8 15 hH ?_;refine kA 9 16 hH ?_;refine rdy 10 (fun K hK=>?_);go_simp;refine(zaY y x _).mono ?_;rw[hah];rintro e w' ⟨rfl,hb'⟩;refine hK.out _ _ ⟨hH.1.below hb',hH.2.below hb'⟩ (fun hA=>?_);clear hK K;try simp only[Act.put,sA,sZ,sS]
    refine kA 11 18 hA ?_;refine dne ?_;go_wp2;go_roundw
    case rel=>exact⟨k+1,by omega,by go_num,HO2,hA.1,hb.drew.trans (hb'.mono hb.size),by have:=hb'.size;simp at this;omega⟩
    case measure=>simp[intOf];omega
   | false =>
    have HK:Hid (atE es x=k):=zm6 es x k hk HO.out (fun _=>by rw[← HY.out];exact hah);go_wp2_with fail
    refine wp_region_noPanic ?_;refine wp_region_held_drew (S:=fun w'=>EntAt w' w.heap.size 0 x∧EntAt w' b (off+k*4) y) (by kernel_rfl) ⟨hx0,hc⟩ (fun hH=>?_);refine kA 0 7 hH ?_;refine kA 1 8 hH ?_;refine kA 2 9 hH ?_;refine kA 3 10 hH ?_;refine kA 4 11 hH ?_;refine kA 5 12 hH ?_;refine kA 6 13 hH ?_;refine kA 7 14 hH ?_;refine kA 8 15 hH ?_;refine kA 9 16 hH ?_;refine rdy 10 (fun K hK=>?_);go_simp;refine(zaY y x _).mono ?_;rw[hah];rintro e w1 ⟨rfl,hb'⟩;refine hK.out _ _ ⟨hH.1.below hb',hH.2.below hb'⟩ (fun hA=>?_);clear hK K;try simp only[Act.put,sA,sZ,sS]
    refine kA 11 18 hA ?_;refine dne ?_;have hr1:=(hrw.drewN 1).below hb';have bz:=hb.drew.trans (hb'.mono hb.size);have hs1:=hb'.size;have hx1:=hA.1;clear hA hH hc hb hx0 hb' HO hrw;simp at hs1;have hkc:k<cap:=by omega
    go_wp2_with (at_builtin;(refine zi rfl _ _ rfl (w.heap.size+1) _ _ [] (es.take k) rfl rfl ?c1 ?c2 ?c3 ?c4 ?_))
    case c1=>exact(zS _).mono (by omega)
    case c2=>exact zgr (hr1.below (za _ _)) hk
    case c3=>first | (simp;done) | (simp;omega)
    case c4=>simp;omega
    intro v2 w2 ho2 hg2;have hx2:EntAt w2 w.heap.size 0 x:=(hx1.below (za _ (.cells #[] 94))).of_block (hg2.block _ (by simp;omega) (by simp[Value.ownBlock];omega));have bz2:Below w.heap.size w w2:=(bz.alloc (by omega) _).grown hg2 (by simp;omega) (fun k hk=>by simp[Value.ownBlock] at hk;omega);have hr2:=hr.below bz2;have hs2:=hg2.size;simp at hs2;clear hr1 hx1 hg2;go_wp2_with fail
    refine wp_region_noPanic ?_;refine wp_region_held_drew (S:=fun w'=>EntAt w' w.heap.size 0 x) (by kernel_rfl) hx2 (fun hH=>?_);refine kA 0 26 hH ?_;refine kA 1 27 hH ?_;refine kA 4 30 hH ?_;refine kA 5 31 hH ?_;refine kA 6 32 hH ?_;refine rdy 2 (fun K hK=>?_);go_simp;refine hK.out _ _ (hH.below (za _ _)) (fun h2=>?_);clear hK K;try simp only[Act.put,sA,sZ,sS]
    refine rdy 3 (fun K hK=>?_);refine zI rfl 29 rfl _ _ rfl (w.heap.size+1) v2 (.slice (some ⟨w2.heap.size,0,none⟩) 1 1) ([]++es.take k) [x] rfl rfl ?d1 ?d2 ?d3 ?d4 ?_
    case d1=>exact ho2.below (za _ _).drew
    case d2=>exact zgX (zbI _ _ _)
    case d3=>first | (simp;done) | (simp;omega)
    case d4=>simp;omega
    intro v3 w3 ho3 hg3;have bv2:∀ k,v2.ownBlock=some k→w.heap.size+1≤k:=fun k hk=>(World.ownsRow.lt ho2 k hk).1
    have hx3:EntAt w3 w.heap.size 0 x:=h2.of_block (hg3.block _ (by simp;omega) (fun e=>by have:=bv2 _ e.symm;omega));have bz3:Below w.heap.size w w3:=(bz2.alloc bz2.size _).drew.grown hg3 (by simp;omega) (fun k hk=>by have:=bv2 _ hk;omega);have hs3:=hg3.size;simp at hs3;refine hK.out _ _ hx3 (fun h3=>?_);clear hK K;try simp only[Act.put,sA,sZ,sS]
    refine rdy 7 (fun K hK=>?_);refine zI rfl 33 rfl _ _ rfl (w.heap.size+1) v3 _ ([]++es.take k++[x]) (es.drop k) rfl rfl ?e1 ?e2 ?e3 ?e4 ?_
    case e1=>exact ho3
    case e2=>exact zja (hr.below bz3) hk
    case e3=>first | (simp;done) | (simp;omega)
    case e4=>omega
    intro v4 w4 ho4 hg4;have bv3:∀ k,v3.ownBlock=some k→w.heap.size+1≤k:=fun k hk=>(World.ownsRow.lt ho3 k hk).1
    have hx4:EntAt w4 w.heap.size 0 x:=h3.of_block (hg4.block _ (by omega) (fun e=>by have:=bv3 _ e.symm;omega));have bz4:Below w.heap.size w w4:=bz3.grown hg4 bz3.size (fun k hk=>by have:=bv3 _ hk;omega);refine hK.out _ _ hx4 (fun h4=>?_);clear hK K;try simp only[Act.put,sA,sZ,sS]
    refine kA 8 4 h4 ?_;refine dne ?_;go_wp2;all_goals go_ret
    all_goals refine⟨_,rfl,?_,bz4⟩
    all_goals have e:insE es x=[]++es.take k++[x]++es.drop k:=by unfold insE;rw[HK.out];simp
    all_goals rw[e]
    all_goals exact ho4.mono (Nat.le_succ _)
  ·have hke:k=es.length:=by omega
   have HK:Hid (atE es x=k):=zm6 es x k hk HO.out (fun h=>by omega);have hkl:decide (k<es.length)=false:=by simpa using hlt
   rcases ‹(es=[]∨_)› with he | ⟨b,off,ha,_⟩
   ·cases a with
    | none =>
     have hc0:=hnil rfl;subst he;have hk0:k=0:=by simpa using hke
     subst hk0;subst hc0;clear hke hkl hlt;go_wp2_with fail
     refine wp_region_noPanic ?_;refine wp_region_held_drew (S:=fun w'=>EntAt w' w.heap.size 0 x) (by kernel_rfl) hx0 (fun hH=>?_);refine kA 0 7 hH ?_;refine kA 1 8 hH ?_;refine kA 2 9 hH ?_;refine kA 3 10 hH ?_;refine kA 4 11 hH ?_;refine kS 5 12 hH ?_;refine kS 6 13 hH ?_;refine kS 7 14 hH ?_;refine kS 8 15 hH ?_;refine kS 9 16 hH ?_;refine kS 10 17 hH ?_;refine kA 11 18 hH ?_;refine dne ?_;have hr1:=hrw.drewN 1;have bz:=hb.drew;have hx1:EntAt wr.drew w.heap.size 0 x:=hx0;have hs1:wr.heap.size≤wr.drew.heap.size:=Nat.le_refl _;clear hH hb hx0 hrw HO;change RdE wr.drew _ [] at hr1;revert hr1 bz hx1 hs1;generalize wr.drew=w1;intro bz hx1 hs1 hr1;go_wp2_with (at_builtin;(refine zi rfl _ _ rfl (w.heap.size+1) _ _ [] (([]:List Ent).take 0) rfl rfl ?c1 ?c2 ?c3 ?c4 ?_))
     case c1=>exact(zS _).mono (by omega)
     case c2=>exact zgr (hr1.below (za _ _)) hk
     case c3=>first | (simp;done) | (simp;omega)
     case c4=>simp;omega
     intro v2 w2 ho2 hg2;have hx2:EntAt w2 w.heap.size 0 x:=(hx1.below (za _ (.cells #[] 94))).of_block (hg2.block _ (by simp;omega) (by simp[Value.ownBlock];omega));have bz2:Below w.heap.size w w2:=(bz.alloc (by omega) _).grown hg2 (by simp;omega) (fun k hk=>by simp[Value.ownBlock] at hk;omega);have hr2:=hr.below bz2;have hs2:=hg2.size;simp at hs2;clear hr1 hx1 hg2;go_wp2_with fail
     refine wp_region_noPanic ?_;refine wp_region_held_drew (S:=fun w'=>EntAt w' w.heap.size 0 x) (by kernel_rfl) hx2 (fun hH=>?_);refine kA 0 26 hH ?_;refine kA 1 27 hH ?_;refine kA 4 30 hH ?_;refine kA 5 31 hH ?_;refine kA 6 32 hH ?_;refine rdy 2 (fun K hK=>?_);go_simp;refine hK.out _ _ (hH.below (za _ _)) (fun h2=>?_);clear hK K;try simp only[Act.put,sA,sZ,sS]
     refine rdy 3 (fun K hK=>?_);refine zI rfl 29 rfl _ _ rfl (w.heap.size+1) v2 (.slice (some ⟨w2.heap.size,0,none⟩) 1 1) ([]++([]:List Ent).take 0) [x] rfl rfl ?d1 ?d2 ?d3 ?d4 ?_
     case d1=>exact ho2.below (za _ _).drew
     case d2=>exact zgX (zbI _ _ _)
     case d3=>first | (simp;done) | (simp;omega)
     case d4=>simp;omega
     intro v3 w3 ho3 hg3;have bv2:∀ k,v2.ownBlock=some k→w.heap.size+1≤k:=fun k hk=>(World.ownsRow.lt ho2 k hk).1
     have hx3:EntAt w3 w.heap.size 0 x:=h2.of_block (hg3.block _ (by simp;omega) (fun e=>by have:=bv2 _ e.symm;omega));have bz3:Below w.heap.size w w3:=(bz2.alloc bz2.size _).drew.grown hg3 (by simp;omega) (fun k hk=>by have:=bv2 _ hk;omega);have hs3:=hg3.size;simp at hs3;refine hK.out _ _ hx3 (fun h3=>?_);clear hK K;try simp only[Act.put,sA,sZ,sS]
     refine rdy 7 (fun K hK=>?_);refine zI rfl 33 rfl _ _ rfl (w.heap.size+1) v3 _ ([]++([]:List Ent).take 0++[x]) (([]:List Ent).drop 0) rfl rfl ?e1 ?e2 ?e3 ?e4 ?_
     case e1=>exact ho3
     case e2=>exact zfc (fun _=>rfl) (Nat.zero_le _) rfl
     case e3=>first | (simp;done) | (simp;omega)
     case e4=>omega
     intro v4 w4 ho4 hg4;have bv3:∀ k,v3.ownBlock=some k→w.heap.size+1≤k:=fun k hk=>(World.ownsRow.lt ho3 k hk).1
     have hx4:EntAt w4 w.heap.size 0 x:=h3.of_block (hg4.block _ (by omega) (fun e=>by have:=bv3 _ e.symm;omega));have bz4:Below w.heap.size w w4:=bz3.grown hg4 bz3.size (fun k hk=>by have:=bv3 _ hk;omega);refine hK.out _ _ hx4 (fun h4=>?_);clear hK K;try simp only[Act.put,sA,sZ,sS]
     refine kA 8 4 h4 ?_;refine dne ?_;go_wp2;all_goals go_ret
     all_goals refine⟨_,rfl,?_,bz4⟩
     all_goals have e:insE ([]:List Ent) x=[]++([]:List Ent).take 0++[x]++([]:List Ent).drop 0:=by unfold insE;rw[HK.out];simp
     all_goals rw[e]
     all_goals exact ho4.mono (Nat.le_succ _)
    | some ad =>
     subst he;have hk0:k=0:=by simpa using hke
     subst hk0;clear hke hkl hlt;go_wp2_with fail
     refine wp_region_noPanic ?_;refine wp_region_held_drew (S:=fun w'=>EntAt w' w.heap.size 0 x) (by kernel_rfl) hx0 (fun hH=>?_);refine kA 0 7 hH ?_;refine kA 1 8 hH ?_;refine kA 2 9 hH ?_;refine kA 3 10 hH ?_;refine kA 4 11 hH ?_;refine kS 5 12 hH ?_;refine kS 6 13 hH ?_;refine kS 7 14 hH ?_;refine kS 8 15 hH ?_;refine kS 9 16 hH ?_;refine kS 10 17 hH ?_;refine kA 11 18 hH ?_;refine dne ?_;have hr1:=hrw.drewN 1;have bz:=hb.drew;have hx1:EntAt wr.drew w.heap.size 0 x:=hx0;have hs1:wr.heap.size≤wr.drew.heap.size:=Nat.le_refl _;clear hH hb hx0 hrw HO;change RdE wr.drew _ [] at hr1;revert hr1 bz hx1 hs1;generalize wr.drew=w1;intro bz hx1 hs1 hr1;go_wp2_with (at_builtin;(refine zi rfl _ _ rfl (w.heap.size+1) _ _ [] (([]:List Ent).take 0) rfl rfl ?c1 ?c2 ?c3 ?c4 ?_))
     case c1=>exact(zS _).mono (by omega)
     case c2=>exact zgr (hr1.below (za _ _)) hk
     case c3=>first | (simp;done) | (simp;omega)
     case c4=>simp;omega
     intro v2 w2 ho2 hg2;have hx2:EntAt w2 w.heap.size 0 x:=(hx1.below (za _ (.cells #[] 94))).of_block (hg2.block _ (by simp;omega) (by simp[Value.ownBlock];omega));have bz2:Below w.heap.size w w2:=(bz.alloc (by omega) _).grown hg2 (by simp;omega) (fun k hk=>by simp[Value.ownBlock] at hk;omega);have hr2:=hr.below bz2;have hs2:=hg2.size;simp at hs2;clear hr1 hx1 hg2;go_wp2_with fail
     refine wp_region_noPanic ?_;refine wp_region_held_drew (S:=fun w'=>EntAt w' w.heap.size 0 x) (by kernel_rfl) hx2 (fun hH=>?_);refine kA 0 26 hH ?_;refine kA 1 27 hH ?_;refine kA 4 30 hH ?_;refine kA 5 31 hH ?_;refine kA 6 32 hH ?_;refine rdy 2 (fun K hK=>?_);go_simp;refine hK.out _ _ (hH.below (za _ _)) (fun h2=>?_);clear hK K;try simp only[Act.put,sA,sZ,sS]
     refine rdy 3 (fun K hK=>?_);refine zI rfl 29 rfl _ _ rfl (w.heap.size+1) v2 (.slice (some ⟨w2.heap.size,0,none⟩) 1 1) ([]++([]:List Ent).take 0) [x] rfl rfl ?d1 ?d2 ?d3 ?d4 ?_
     case d1=>exact ho2.below (za _ _).drew
     case d2=>exact zgX (zbI _ _ _)
     case d3=>first | (simp;done) | (simp;omega)
     case d4=>simp;omega
     intro v3 w3 ho3 hg3;have bv2:∀ k,v2.ownBlock=some k→w.heap.size+1≤k:=fun k hk=>(World.ownsRow.lt ho2 k hk).1
     have hx3:EntAt w3 w.heap.size 0 x:=h2.of_block (hg3.block _ (by simp;omega) (fun e=>by have:=bv2 _ e.symm;omega));have bz3:Below w.heap.size w w3:=(bz2.alloc bz2.size _).drew.grown hg3 (by simp;omega) (fun k hk=>by have:=bv2 _ hk;omega);have hs3:=hg3.size;simp at hs3;refine hK.out _ _ hx3 (fun h3=>?_);clear hK K;try simp only[Act.put,sA,sZ,sS]
     refine rdy 7 (fun K hK=>?_);refine zI rfl 33 rfl _ _ rfl (w.heap.size+1) v3 _ ([]++([]:List Ent).take 0++[x]) (([]:List Ent).drop 0) rfl rfl ?e1 ?e2 ?e3 ?e4 ?_
     case e1=>exact ho3
     case e2=>exact zfc (fun h=>by first | cases h | (split at h<;>cases h)) (by first | exact hm0 | omega) rfl
     case e3=>first | (simp;done) | (simp;omega)
     case e4=>omega
     intro v4 w4 ho4 hg4;have bv3:∀ k,v3.ownBlock=some k→w.heap.size+1≤k:=fun k hk=>(World.ownsRow.lt ho3 k hk).1
     have hx4:EntAt w4 w.heap.size 0 x:=h3.of_block (hg4.block _ (by omega) (fun e=>by have:=bv3 _ e.symm;omega));have bz4:Below w.heap.size w w4:=bz3.grown hg4 bz3.size (fun k hk=>by have:=bv3 _ hk;omega);refine hK.out _ _ hx4 (fun h4=>?_);clear hK K;try simp only[Act.put,sA,sZ,sS]
     refine kA 8 4 h4 ?_;refine dne ?_;go_wp2;all_goals go_ret
     all_goals refine⟨_,rfl,?_,bz4⟩
     all_goals have e:insE ([]:List Ent) x=[]++([]:List Ent).take 0++[x]++([]:List Ent).drop 0:=by unfold insE;rw[HK.out];simp
     all_goals rw[e]
     all_goals exact ho4.mono (Nat.le_succ _)
   ·skip
    subst ha;clear hke;go_wp2_with fail
    refine wp_region_noPanic ?_;refine wp_region_held_drew (S:=fun w'=>EntAt w' w.heap.size 0 x) (by kernel_rfl) hx0 (fun hH=>?_);refine kA 0 7 hH ?_;refine kA 1 8 hH ?_;refine kA 2 9 hH ?_;refine kA 3 10 hH ?_;refine kA 4 11 hH ?_;refine kS 5 12 hH ?_;refine kS 6 13 hH ?_;refine kS 7 14 hH ?_;refine kS 8 15 hH ?_;refine kS 9 16 hH ?_;refine kS 10 17 hH ?_;refine kA 11 18 hH ?_;refine dne ?_;have hr1:=hrw.drewN 1;have bz:=hb.drew;have hx1:EntAt wr.drew w.heap.size 0 x:=hx0;have hs1:wr.heap.size≤wr.drew.heap.size:=Nat.le_refl _;clear hH hb hx0 hrw HO;change RdE wr.drew _ es at hr1;revert hr1 bz hx1 hs1;generalize wr.drew=w1;intro bz hx1 hs1 hr1;go_wp2_with (at_builtin;(refine zi rfl _ _ rfl (w.heap.size+1) _ _ [] (es.take k) rfl rfl ?c1 ?c2 ?c3 ?c4 ?_))
    case c1=>exact(zS _).mono (by omega)
    case c2=>exact zgr (hr1.below (za _ _)) hk
    case c3=>first | (simp;done) | (simp;omega)
    case c4=>simp;omega
    intro v2 w2 ho2 hg2;have hx2:EntAt w2 w.heap.size 0 x:=(hx1.below (za _ (.cells #[] 94))).of_block (hg2.block _ (by simp;omega) (by simp[Value.ownBlock];omega));have bz2:Below w.heap.size w w2:=(bz.alloc (by omega) _).grown hg2 (by simp;omega) (fun k hk=>by simp[Value.ownBlock] at hk;omega);have hr2:=hr.below bz2;have hs2:=hg2.size;simp at hs2;clear hr1 hx1 hg2;go_wp2_with fail
    refine wp_region_noPanic ?_;refine wp_region_held_drew (S:=fun w'=>EntAt w' w.heap.size 0 x) (by kernel_rfl) hx2 (fun hH=>?_);refine kA 0 26 hH ?_;refine kA 1 27 hH ?_;refine kA 4 30 hH ?_;refine kA 5 31 hH ?_;refine kA 6 32 hH ?_;refine rdy 2 (fun K hK=>?_);go_simp;refine hK.out _ _ (hH.below (za _ _)) (fun h2=>?_);clear hK K;try simp only[Act.put,sA,sZ,sS]
    refine rdy 3 (fun K hK=>?_);refine zI rfl 29 rfl _ _ rfl (w.heap.size+1) v2 (.slice (some ⟨w2.heap.size,0,none⟩) 1 1) ([]++es.take k) [x] rfl rfl ?d1 ?d2 ?d3 ?d4 ?_
    case d1=>exact ho2.below (za _ _).drew
    case d2=>exact zgX (zbI _ _ _)
    case d3=>first | (simp;done) | (simp;omega)
    case d4=>simp;omega
    intro v3 w3 ho3 hg3;have bv2:∀ k,v2.ownBlock=some k→w.heap.size+1≤k:=fun k hk=>(World.ownsRow.lt ho2 k hk).1
    have hx3:EntAt w3 w.heap.size 0 x:=h2.of_block (hg3.block _ (by simp;omega) (fun e=>by have:=bv2 _ e.symm;omega));have bz3:Below w.heap.size w w3:=(bz2.alloc bz2.size _).drew.grown hg3 (by simp;omega) (fun k hk=>by have:=bv2 _ hk;omega);have hs3:=hg3.size;simp at hs3;refine hK.out _ _ hx3 (fun h3=>?_);clear hK K;try simp only[Act.put,sA,sZ,sS]
    refine rdy 7 (fun K hK=>?_);refine zI rfl 33 rfl _ _ rfl (w.heap.size+1) v3 _ ([]++es.take k++[x]) (es.drop k) rfl rfl ?e1 ?e2 ?e3 ?e4 ?_
    case e1=>exact ho3
    case e2=>exact zja (hr.below bz3) hk
    case e3=>first | (simp;done) | (simp;omega)
    case e4=>omega
    intro v4 w4 ho4 hg4;have bv3:∀ k,v3.ownBlock=some k→w.heap.size+1≤k:=fun k hk=>(World.ownsRow.lt ho3 k hk).1
    have hx4:EntAt w4 w.heap.size 0 x:=h3.of_block (hg4.block _ (by omega) (fun e=>by have:=bv3 _ e.symm;omega));have bz4:Below w.heap.size w w4:=bz3.grown hg4 bz3.size (fun k hk=>by have:=bv3 _ hk;omega);refine hK.out _ _ hx4 (fun h4=>?_);clear hK K;try simp only[Act.put,sA,sZ,sS]
    refine kA 8 4 h4 ?_;refine dne ?_;go_wp2;all_goals go_ret
    all_goals refine⟨_,rfl,?_,bz4⟩
    all_goals have e:insE es x=[]++es.take k++[x]++es.drop k:=by unfold insE;rw[HK.out];simp
    all_goals rw[e]
    all_goals exact ho4.mono (Nat.le_succ _)
open Go.RowKit
def Small(x:Ent):Prop:=x.key.size≤1000∧x.val.size≤1000∧0≤x.seq∧x.seq≤1000000000
theorem Small.fits{x:Ent}(h:Small x):Fits x:=⟨by have:=h.1;omega,by have:=h.2.1;omega,by have:=h.2.2.1;omega,by have:=h.2.2.2;omega⟩
theorem BoxAt.block{w w':World}{b:Nat}{x:Ent}(h:BoxAt w b x)(hb:w'.heap[b]? = w.heap[b]?):BoxAt w' b x :=
 ⟨h.1.of_block hb,fun o=>(World.frozen?_of_block (a:=⟨b,o,none⟩) hb).trans (h.2 o)⟩
def Sr(es:List Ent):Prop:=es.Pairwise (fun a b=>ahd a b=true)
theorem ziu{es:List Ent}(h:okL es=true):Sr es:=((za0 es).1 h).2.2
theorem zg6{a b:Ent}(h:ahd a b=true):ahd b a=false:=by
 cases e:ahd b a with
 | false=>rfl
 | true=>have:=zaD h e;rw[za3] at this;cases this
def mrg:List Ent→List Ent→List Ent
 | [],b=>b
 | x::r,[]=>x::r
 | x::r,y::s=>if ahd x y=true then x::mrg r (y::s) else if ahd y x=true then y::mrg (x::r) s else mrg (x::r) s
termination_by a b=>a.length+b.length
theorem zpP(a:List Ent):mrg a []=a:=by cases a<;>rw[mrg]
theorem mrg_sub:∀ (n:Nat) (a b:List Ent),a.length+b.length≤n→∀ z,z∈mrg a b→z∈a∨z∈b:=by
 intro n;induction n with
 | zero =>
  intro a b h z hz;have:a=[]:=List.length_eq_zero_iff.1 (by omega);subst this;rw[mrg] at hz;exact .inr hz
 | succ n ih =>
  intro a b h z hz;cases a with
  | nil=>rw[mrg] at hz;exact .inr hz
  | cons x r =>
   cases b with
   | nil=>rw[mrg] at hz;exact .inl hz
   | cons y s =>
    simp only[List.length_cons] at h;rw[mrg] at hz;split at hz
    ·rcases List.mem_cons.1 hz with rfl | hz
     ·exact .inl List.mem_cons_self
     ·rcases ih r (y::s) (by simp only[List.length_cons];omega) z hz with h | h
      ·exact .inl (List.mem_cons_of_mem _ h)
      ·exact .inr h
    ·split at hz
     ·rcases List.mem_cons.1 hz with rfl | hz
      ·exact .inr List.mem_cons_self
      ·rcases ih (x::r) s (by simp only[List.length_cons];omega) z hz with h | h
       ·exact .inl h
       ·exact .inr (List.mem_cons_of_mem _ h)
     ·rcases ih (x::r) s (by simp only[List.length_cons];omega) z hz with h | h
      ·exact .inl h
      ·exact .inr (List.mem_cons_of_mem _ h)
theorem zi3{a b:List Ent}{z:Ent}(h:z∈mrg a b):z∈a∨z∈b:=mrg_sub _ a b (Nat.le_refl _) z h
theorem ziV:∀ (n:Nat) (a b:List Ent),a.length+b.length≤n→(mrg a b).length≤a.length+b.length:=by
 intro n;induction n with
 | zero =>
  intro a b h;have:a=[]:=List.length_eq_zero_iff.1 (by omega);subst this;rw[mrg];omega
 | succ n ih =>
  intro a b h;cases a with
  | nil=>rw[mrg];simp
  | cons x r =>
   cases b with
   | nil=>rw[mrg];simp
   | cons y s =>
    simp only[List.length_cons] at h;rw[mrg];split
    ·have:=ih r (y::s) (by simp only[List.length_cons];omega);simp only[List.length_cons] at this ⊢;omega
    ·split
     ·have:=ih (x::r) s (by simp only[List.length_cons];omega);simp only[List.length_cons] at this ⊢;omega
     ·have:=ih (x::r) s (by simp only[List.length_cons];omega);simp only[List.length_cons] at this ⊢;omega
theorem zhx(x y:Ent)(h1:¬ ahd x y=true)(h2:¬ ahd y x=true):zz x y=true:=by
 cases h:zz x y with
 | true=>rfl
 | false=>exact absurd (zlb (by simpa using h1) h) h2
theorem zaG(x y:Ent):zz x y=true↔x.key=y.key∧x.seq=y.seq:=by simp[zz,kEq]
theorem zop{x y z:Ent}(h:zz x y=true)(hz:ahd y z=true):ahd x z=true:=by
 rw[zaG] at h;rw[zaX] at hz ⊢;rw[h.1,h.2];exact hz
theorem zpr:∀ (n:Nat) (a b:List Ent),a.length+b.length≤n→Sr a→Sr b→Sr (mrg a b):=by
 intro n;induction n with
 | zero =>
  intro a b h _ hb;have:a=[]:=List.length_eq_zero_iff.1 (by omega);subst this;rw[mrg];exact hb
 | succ n ih =>
  intro a b h ha hb;cases a with
  | nil=>rw[mrg];exact hb
  | cons x r =>
   cases b with
   | nil=>rw[mrg];exact ha
   | cons y s =>
    simp only[List.length_cons] at h;have ha':=List.pairwise_cons.1 ha;have hb':=List.pairwise_cons.1 hb;rw[mrg];split
    ·rename_i hxy;refine List.pairwise_cons.2 ⟨fun z hz=>?_,ih r (y::s) (by simp only[List.length_cons];omega) ha'.2 hb⟩;rcases zi3 hz with h | h
     ·exact ha'.1 z h
     ·rcases List.mem_cons.1 h with rfl | h
      ·exact hxy
      ·exact zaD hxy (hb'.1 z h)
    ·rename_i hxy;split
     ·rename_i hyx;refine List.pairwise_cons.2 ⟨fun z hz=>?_,ih (x::r) s (by simp only[List.length_cons];omega) ha hb'.2⟩;rcases zi3 hz with h | h
      ·rcases List.mem_cons.1 h with rfl | h
       ·exact hyx
       ·exact zaD hyx (ha'.1 z h)
      ·exact hb'.1 z h
     ·exact ih (x::r) s (by simp only[List.length_cons];omega) ha hb'.2
theorem zpZ:∀ (n:Nat) (a b:List Ent),a.length+b.length≤n→∀ z,(z∈a→z∈mrg a b)∧(z∈b→∃ u∈mrg a b,zz u z=true):=by
 have same:∀ z:Ent,zz z z=true:=fun z=>by rw[zaG];exact⟨rfl,rfl⟩
 intro n;induction n with
 | zero =>
  intro a b h z;have:a=[]:=List.length_eq_zero_iff.1 (by omega);subst this;rw[mrg];exact⟨(fun h=>by cases h),fun h=>⟨z,h,same z⟩⟩
 | succ n ih =>
  intro a b h z;cases a with
  | nil=>rw[mrg];exact⟨(fun h=>by cases h),fun h=>⟨z,h,same z⟩⟩
  | cons x r =>
   cases b with
   | nil=>rw[mrg];exact⟨(fun h=>h),(fun h=>by cases h)⟩
   | cons y s =>
    simp only[List.length_cons] at h;rw[mrg];split
    ·obtain⟨i1,i2⟩:=ih r (y::s) (by simp only[List.length_cons];omega) z;refine⟨fun hz=>?_,fun hz=>?_⟩
     ·rcases List.mem_cons.1 hz with rfl | hz
      ·exact List.mem_cons_self
      ·exact List.mem_cons_of_mem _ (i1 hz)
     ·obtain⟨u,hu,hs⟩:=i2 hz;exact⟨u,List.mem_cons_of_mem _ hu,hs⟩
    ·rename_i hxy;split
     ·obtain⟨i1,i2⟩:=ih (x::r) s (by simp only[List.length_cons];omega) z;refine⟨fun hz=>List.mem_cons_of_mem _ (i1 hz),fun hz=>?_⟩;rcases List.mem_cons.1 hz with rfl | hz
      ·exact⟨_,List.mem_cons_self,same _⟩
      ·obtain⟨u,hu,hs⟩:=i2 hz;exact⟨u,List.mem_cons_of_mem _ hu,hs⟩
     ·rename_i hyx;obtain⟨i1,i2⟩:=ih (x::r) s (by simp only[List.length_cons];omega) z;refine⟨i1,fun hz=>?_⟩;rcases List.mem_cons.1 hz with rfl | hz
      ·exact⟨x,((ih (x::r) s (by simp only[List.length_cons];omega) x).1 List.mem_cons_self),zhx x z hxy hyx⟩
      ·exact i2 hz
def zk(ls:List (List Ent)):List Ent:=ls.foldl mrg []
def zdX(ls:List (List Ent)):Bool:=decide (ls.length≤20)&&ls.all okL&&decide ((zk ls).length≤300)
def zaR(ls:List (List Ent)):List Ent×Bool:=if zdX ls=true then (zk ls,true) else ([],false)
theorem mF_len(ls:List (List Ent)):∀ a:List Ent,(ls.foldl mrg a).length≤a.length+(ls.map List.length).sum:=by
 induction ls with
 | nil=>intro a;simp
 | cons l r ih =>
  intro a;rw[List.foldl_cons,List.map_cons,List.sum_cons];have h1:=ih (mrg a l);have h2:=ziV _ a l (Nat.le_refl _);omega
theorem mF_sr(ls:List (List Ent))(h:∀ l∈ls,Sr l):∀ a:List Ent,Sr a→Sr (ls.foldl mrg a):=by
 induction ls with
 | nil=>intro a ha;exact ha
 | cons l r ih =>
  intro a ha;rw[List.foldl_cons];exact ih (fun x hx=>h x (List.mem_cons_of_mem _ hx)) _ (zpr _ a l (Nat.le_refl _) ha (h l List.mem_cons_self))
end Go.Proofs.YtannfbpohhnnkaaGreatDoor
