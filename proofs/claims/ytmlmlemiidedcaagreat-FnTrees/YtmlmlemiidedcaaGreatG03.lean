import Derived.Test.YtmlmlemiidedcaaGreatG02
import Derived.Deep.RegionHeld3
namespace Go.Proofs.YtmlmlemiidedcaaGreat
set_option maxHeartbeats 16000000
set_option maxRecDepth 100000
open Go.RowKit
theorem entAt_box (W:World) (x:Ent) (t:TypeId):EntAt (W.alloc (.cells #[.string x.key,.string x.val,.int .i64 x.seq,.bool x.gone] t)) W.heap.size 0 x :=
 ⟨by simp [World.cell?_alloc_at],by simp [World.cell?_alloc_at],by simp [World.cell?_alloc_at],by simp [World.cell?_alloc_at]⟩
theorem nth_take {es:List Ent} {k i:Nat} (h:i < k) (h2:i < es.length):nth (es.take k) i=nth es i:=by
 rw [nth_eq (by rw [List.length_take];omega),nth_eq h2,List.getElem_take]
theorem nth_drop {es:List Ent} {k i:Nat} (h:k+i < es.length):nth (es.drop k) i=nth es (k+i):=by
 rw [nth_eq (by rw [List.length_drop];omega),nth_eq h,List.getElem_drop]
theorem rdE_take {w:World} {a:Option Addr} {n cap k:Nat} {es:List Ent} (h:RdE w (.slice a n cap) es) (hk:k≤es.length):RdE w (.slice a k cap) (es.take k):=by
 obtain ⟨a',cap',hv,h1,h2,h0,h3⟩:=h
 simp only [Value.slice.injEq] at hv
 obtain ⟨rfl,_,rfl⟩:=hv
 have hl:(es.take k).length=k:=by rw [List.length_take];omega
 refine ⟨a,cap,by rw [hl],by omega,h2,h0,?_⟩
 rcases h3 with rfl | ⟨b,off,ha,hc⟩
 ·exact .inl (by simp)
 ·exact .inr ⟨b,off,ha,fun i hi=>by rw [nth_take (by omega) (by omega)];exact hc i (by omega)⟩
theorem rdE_drop {w:World} {b off n cap k:Nat} {es:List Ent} (h:RdE w (.slice (some ⟨b,off,none⟩) n cap) es) (hk:k≤es.length):RdE w (.slice (some ⟨b,off+k*4,none⟩) (es.length - k) (cap - k)) (es.drop k):=by
 obtain ⟨a',cap',hv,h1,h2,h0,h3⟩:=h
 simp only [Value.slice.injEq] at hv
 obtain ⟨rfl,_,rfl⟩:=hv
 have hl:(es.drop k).length=es.length - k:=List.length_drop
 refine ⟨_,_,by rw [hl],by omega,by omega,(fun h=>by cases h),?_⟩
 rcases h3 with rfl | ⟨b',off',ha,hc⟩
 ·exact .inl (by simp)
 ·cases ha
  refine .inr ⟨b,off+k*4,rfl,fun i hi=>?_⟩
  rw [nth_drop (by omega),show off+k*4+i*4=off+(k+i)*4 by omega]
  exact hc (k+i) (by omega)
theorem rdE_none {w:World} {ad:Option Addr} {cap:Nat} {es:List Ent} (h0:ad=none→cap=0) (hm:cap≤maxLen) (he:es=[]):RdE w (.slice ad 0 cap) es:=by
 subst he;exact ⟨ad,cap,rfl,Nat.zero_le _,hm,h0,.inl rfl⟩
theorem rdE_cut {w:World} {b off n cap k:Nat} {es:List Ent} (h:RdE w (.slice (some ⟨b,off,none⟩) n cap) es) (hk:k≤es.length):RdE w (.slice (if cap=k then some ⟨b,off,none⟩ else some ⟨b,off+k*4,none⟩) (es.length - k) (cap - k)) (es.drop k):=by
 split
 ·rename_i hck
  obtain ⟨a',cap',hv,h1,h2,h0,h3⟩:=h
  simp only [Value.slice.injEq] at hv
  obtain ⟨_,_,rfl⟩:=hv
  have hl:es.length - k=0:=by omega
  rw [hl]
  exact rdE_none (fun h=>by cases h) (by omega) (List.drop_eq_nil_of_le (by omega))
 ·exact rdE_drop h hk
theorem rdE_one {w:World} {b:Nat} {x:Ent} (h:EntAt w b 0 x):RdE w (.slice (some ⟨b,0,none⟩) 1 1) [x] :=
 ⟨_,1,rfl,Nat.le_refl _,by decide,(fun h=>by cases h),.inr ⟨b,0,rfl,fun i hi=>by
  have:i=0:=by simpa using hi
  subst this
  exact h⟩⟩
theorem l3Put_any (v:Value) (es:List Ent) (x:Ent) (w:World) (hr:RdE w v es) (hn:es.length≤1000000) :
 Calls Tryz.prog 82 #[v,.agg #[.string x.key,.string x.val,.int .i64 x.seq,.bool x.gone]] w fun e w'=>∃ u,e=.returned u∧OwnE w' w.heap.size u (insE es x)∧Below w.heap.size w w':=by
 obtain ⟨a,cap,hv,hl,hm,hnil,_⟩:=id hr
 have hm0:=hm
 unfold maxLen at hm
 subst hv
 have hbx:=entAt_box w x 50
 have hb0:=below1 w (.cells #[.string x.key,.string x.val,.int .i64 x.seq,.bool x.gone] 50)
 go_enter Tryz.func82,Tryz.ntmps82
 go_wp2_with fail
 go_loopw [5] (fun i wr=>∃ k:Nat,k≤es.length∧i=.int .i64 k∧Hid (∀ j,j < k→ahd (nth es j) x=true)∧EntAt wr w.heap.size 0 x∧Below w.heap.size w wr∧w.heap.size+1≤wr.heap.size) (fun i _=>es.length - (intOf i).toNat)
 case atStart=>exact ⟨0,Nat.zero_le _,rfl,(fun j hj=>absurd hj (Nat.not_lt_zero _)),hbx,hb0,by simp⟩
 case round =>
  obtain ⟨k,hk,rfl,HO,hx0,hb,hsz⟩:=hrel
  clear hbx hb0
  have hrw:=hr.below hb
  by_cases hlt:k < es.length
  ·obtain ⟨b,off,rfl,hc⟩:=hrw.at rfl k hlt
   obtain ⟨y,hy⟩:∃ y,y=nth es k:=⟨_,rfl⟩
   rw [← hy] at hc
   have HY:Hid (y=nth es k):=hy
   clear hy
   have hkl:decide (k < es.length)=true:=by simpa using hlt
   cases hah:ahd y x with
   | true =>
    have HO2:Hid (∀ j,j < k+1→ahd (nth es j) x=true):=by
     intro j hj
     by_cases hjk:j=k
     ·subst hjk;rw [← HY.out];exact hah
     ·exact HO.out j (by omega)
    go_wp2_with fail
    refine wp_region_noPanic ?_
    refine wp_region_held_drew (S:=fun w'=>EntAt w' w.heap.size 0 x∧EntAt w' b (off+k*4) y) (by kernel_rfl) ⟨hx0,hc⟩ (fun hH=>?_)
    refine kA 0 7 hH ?_
    refine kA 1 8 hH ?_
    refine kA 2 9 hH ?_
    refine kA 3 10 hH ?_
    refine kA 4 11 hH ?_
    refine kA 5 12 hH ?_
    refine kA 6 13 hH ?_
    refine kA 7 14 hH ?_
    refine kA 8 15 hH ?_
    refine kA 9 16 hH ?_
    refine wpAnyH_ready (rs:=[10]) (by kernel_rfl) (by simp) ?_
    refine AllReadyH.cons rfl (fun K hK=>?_) AllReadyH.nil
    go_simp
    refine (l3Ahead_any y x _).mono ?_
    rw [hah]
    rintro e w' ⟨rfl,hb'⟩
    refine hK.out _ _ ⟨hH.1.below hb',hH.2.below hb'⟩ (fun hA=>?_)
    clear hK K
    try simp only [Act.put,sA,sZ,sS]
    refine kA 11 18 hA ?_
    refine wpAnyH_done (by kernel_rfl) ?_ _
    refine NoPanic.normal ?_
    go_wp2
    go_roundw
    case rel=>exact ⟨k+1,by omega,by go_num,HO2,hA.1,hb.drew.trans (hb'.mono hb.size),by have:=hb'.size;simp at this;omega⟩
    case measure=>simp [intOf];omega
   | false =>
    have HK:Hid (atE es x=k):=atE_scan es x k hk HO.out (fun _=>by rw [← HY.out];exact hah)
    go_wp2_with fail
    refine wp_region_noPanic ?_
    refine wp_region_held_drew (S:=fun w'=>EntAt w' w.heap.size 0 x∧EntAt w' b (off+k*4) y) (by kernel_rfl) ⟨hx0,hc⟩ (fun hH=>?_)
    refine kA 0 7 hH ?_
    refine kA 1 8 hH ?_
    refine kA 2 9 hH ?_
    refine kA 3 10 hH ?_
    refine kA 4 11 hH ?_
    refine kA 5 12 hH ?_
    refine kA 6 13 hH ?_
    refine kA 7 14 hH ?_
    refine kA 8 15 hH ?_
    refine kA 9 16 hH ?_
    refine wpAnyH_ready (rs:=[10]) (by kernel_rfl) (by simp) ?_
    refine AllReadyH.cons rfl (fun K hK=>?_) AllReadyH.nil
    go_simp
    refine (l3Ahead_any y x _).mono ?_
    rw [hah]
    rintro e w1 ⟨rfl,hb'⟩
    refine hK.out _ _ ⟨hH.1.below hb',hH.2.below hb'⟩ (fun hA=>?_)
    clear hK K
    try simp only [Act.put,sA,sZ,sS]
    refine kA 11 18 hA ?_
    refine wpAnyH_done (by kernel_rfl) ?_ _
    refine NoPanic.normal ?_
    have hr1:=(hrw.drewN 1).below hb'
    have bz:=hb.drew.trans (hb'.mono hb.size)
    have hs1:=hb'.size
    have hx1:=hA.1
    clear hA hH hc hb hx0 hb' HO hrw
    simp at hs1
    have hkc:k < cap:=by omega
    go_wp2_with (at_builtin;(refine wpList_append_ents rfl _ _ rfl (w.heap.size+1) _ _ [] (es.take k) rfl rfl ?c1 ?c2 ?c3 ?c4 ?_))
    case c1=>exact (ownE_none _).mono (by omega)
    case c2=>exact rdE_take (hr1.below (below1 _ _)) hk
    case c3=>first | (simp;done) | (simp;omega)
    case c4=>simp;omega
    intro v2 w2 ho2 hg2
    have hx2:EntAt w2 w.heap.size 0 x:=(hx1.below (below1 _ (.cells #[] 50))).of_block (hg2.block _ (by simp;omega) (by simp [Value.ownBlock];omega))
    have bz2:Below w.heap.size w w2:=(bz.alloc (by omega) _).grown hg2 (by simp;omega) (fun k hk=>by simp [Value.ownBlock] at hk;omega)
    have hr2:=hr.below bz2
    have hs2:=hg2.size
    simp at hs2
    clear hr1 hx1 hg2
    go_wp2_with fail
    refine wp_region_noPanic ?_
    refine wp_region_held_drew (S:=fun w'=>EntAt w' w.heap.size 0 x) (by kernel_rfl) hx2 (fun hH=>?_)
    refine kA 0 26 hH ?_
    refine kA 1 27 hH ?_
    refine kA 4 30 hH ?_
    refine kA 5 31 hH ?_
    refine kA 6 32 hH ?_
    refine wpAnyH_ready (rs:=[2]) (by kernel_rfl) (by simp) ?_
    refine AllReadyH.cons rfl (fun K hK=>?_) AllReadyH.nil
    go_simp
    refine hK.out _ _ (hH.below (below1 _ _)) (fun h2=>?_)
    clear hK K
    try simp only [Act.put,sA,sZ,sS]
    refine wpAnyH_ready (rs:=[3]) (by kernel_rfl) (by simp) ?_
    refine AllReadyH.cons rfl (fun K hK=>?_) AllReadyH.nil
    refine step_append_ents rfl 29 rfl _ _ rfl (w.heap.size+1) v2 (.slice (some ⟨w2.heap.size,0,none⟩) 1 1) ([]++es.take k) [x] rfl rfl ?d1 ?d2 ?d3 ?d4 ?_
    case d1=>exact ho2.below (below1 _ _).drew
    case d2=>exact rdE_one (entAt_box _ _ _)
    case d3=>first | (simp;done) | (simp;omega)
    case d4=>simp;omega
    intro v3 w3 ho3 hg3
    have bv2:∀ k,v2.ownBlock=some k→w.heap.size+1≤k:=fun k hk=>(World.ownsRow.lt ho2 k hk).1
    have hx3:EntAt w3 w.heap.size 0 x:=h2.of_block (hg3.block _ (by simp;omega) (fun e=>by have:=bv2 _ e.symm;omega))
    have bz3:Below w.heap.size w w3:=(bz2.alloc bz2.size _).drew.grown hg3 (by simp;omega) (fun k hk=>by have:=bv2 _ hk;omega)
    have hs3:=hg3.size
    simp at hs3
    refine hK.out _ _ hx3 (fun h3=>?_)
    clear hK K
    try simp only [Act.put,sA,sZ,sS]
    refine wpAnyH_ready (rs:=[7]) (by kernel_rfl) (by simp) ?_
    refine AllReadyH.cons rfl (fun K hK=>?_) AllReadyH.nil
    refine step_append_ents rfl 33 rfl _ _ rfl (w.heap.size+1) v3 _ ([]++es.take k++[x]) (es.drop k) rfl rfl ?e1 ?e2 ?e3 ?e4 ?_
    case e1=>exact ho3
    case e2=>exact rdE_cut (hr.below bz3) hk
    case e3=>first | (simp;done) | (simp;omega)
    case e4=>omega
    intro v4 w4 ho4 hg4
    have bv3:∀ k,v3.ownBlock=some k→w.heap.size+1≤k:=fun k hk=>(World.ownsRow.lt ho3 k hk).1
    have hx4:EntAt w4 w.heap.size 0 x:=h3.of_block (hg4.block _ (by omega) (fun e=>by have:=bv3 _ e.symm;omega))
    have bz4:Below w.heap.size w w4:=bz3.grown hg4 bz3.size (fun k hk=>by have:=bv3 _ hk;omega)
    refine hK.out _ _ hx4 (fun h4=>?_)
    clear hK K
    try simp only [Act.put,sA,sZ,sS]
    refine kA 8 4 h4 ?_
    refine wpAnyH_done (by kernel_rfl) ?_ _
    refine NoPanic.normal ?_
    go_wp2
    all_goals go_ret
    all_goals refine ⟨_,rfl,?_,bz4⟩
    all_goals have e:insE es x=[]++es.take k++[x]++es.drop k:=by unfold insE;rw [HK.out];simp
    all_goals rw [e]
    all_goals exact ho4.mono (Nat.le_succ _)
  ·have hke:k=es.length:=by omega
   have HK:Hid (atE es x=k):=atE_scan es x k hk HO.out (fun h=>by omega)
   have hkl:decide (k < es.length)=false:=by simpa using hlt
   rcases ‹(es=[]∨_)› with he | ⟨b,off,ha,_⟩
   ·cases a with
    | none =>
     have hc0:=hnil rfl
     subst he
     have hk0:k=0:=by simpa using hke
     subst hk0
     subst hc0
     clear hke hkl hlt
     go_wp2_with fail
     refine wp_region_noPanic ?_
     refine wp_region_held_drew (S:=fun w'=>EntAt w' w.heap.size 0 x) (by kernel_rfl) hx0 (fun hH=>?_)
     refine kA 0 7 hH ?_
     refine kA 1 8 hH ?_
     refine kA 2 9 hH ?_
     refine kA 3 10 hH ?_
     refine kA 4 11 hH ?_
     refine kS 5 12 hH ?_
     refine kS 6 13 hH ?_
     refine kS 7 14 hH ?_
     refine kS 8 15 hH ?_
     refine kS 9 16 hH ?_
     refine kS 10 17 hH ?_
     refine kA 11 18 hH ?_
     refine wpAnyH_done (by kernel_rfl) ?_ _
     refine NoPanic.normal ?_
     have hr1:=hrw.drewN 1
     have bz:=hb.drew
     have hx1:EntAt wr.drew w.heap.size 0 x:=hx0
     have hs1:wr.heap.size≤wr.drew.heap.size:=Nat.le_refl _
     clear hH hb hx0 hrw HO
     change RdE wr.drew _ [] at hr1
     revert hr1 bz hx1 hs1
     generalize wr.drew=w1
     intro bz hx1 hs1 hr1
     go_wp2_with (at_builtin;(refine wpList_append_ents rfl _ _ rfl (w.heap.size+1) _ _ [] (([]:List Ent).take 0) rfl rfl ?c1 ?c2 ?c3 ?c4 ?_))
     case c1=>exact (ownE_none _).mono (by omega)
     case c2=>exact rdE_take (hr1.below (below1 _ _)) hk
     case c3=>first | (simp;done) | (simp;omega)
     case c4=>simp;omega
     intro v2 w2 ho2 hg2
     have hx2:EntAt w2 w.heap.size 0 x:=(hx1.below (below1 _ (.cells #[] 50))).of_block (hg2.block _ (by simp;omega) (by simp [Value.ownBlock];omega))
     have bz2:Below w.heap.size w w2:=(bz.alloc (by omega) _).grown hg2 (by simp;omega) (fun k hk=>by simp [Value.ownBlock] at hk;omega)
     have hr2:=hr.below bz2
     have hs2:=hg2.size
     simp at hs2
     clear hr1 hx1 hg2
     go_wp2_with fail
     refine wp_region_noPanic ?_
     refine wp_region_held_drew (S:=fun w'=>EntAt w' w.heap.size 0 x) (by kernel_rfl) hx2 (fun hH=>?_)
     refine kA 0 26 hH ?_
     refine kA 1 27 hH ?_
     refine kA 4 30 hH ?_
     refine kA 5 31 hH ?_
     refine kA 6 32 hH ?_
     refine wpAnyH_ready (rs:=[2]) (by kernel_rfl) (by simp) ?_
     refine AllReadyH.cons rfl (fun K hK=>?_) AllReadyH.nil
     go_simp
     refine hK.out _ _ (hH.below (below1 _ _)) (fun h2=>?_)
     clear hK K
     try simp only [Act.put,sA,sZ,sS]
     refine wpAnyH_ready (rs:=[3]) (by kernel_rfl) (by simp) ?_
     refine AllReadyH.cons rfl (fun K hK=>?_) AllReadyH.nil
     refine step_append_ents rfl 29 rfl _ _ rfl (w.heap.size+1) v2 (.slice (some ⟨w2.heap.size,0,none⟩) 1 1) ([]++([]:List Ent).take 0) [x] rfl rfl ?d1 ?d2 ?d3 ?d4 ?_
     case d1=>exact ho2.below (below1 _ _).drew
     case d2=>exact rdE_one (entAt_box _ _ _)
     case d3=>first | (simp;done) | (simp;omega)
     case d4=>simp;omega
     intro v3 w3 ho3 hg3
     have bv2:∀ k,v2.ownBlock=some k→w.heap.size+1≤k:=fun k hk=>(World.ownsRow.lt ho2 k hk).1
     have hx3:EntAt w3 w.heap.size 0 x:=h2.of_block (hg3.block _ (by simp;omega) (fun e=>by have:=bv2 _ e.symm;omega))
     have bz3:Below w.heap.size w w3:=(bz2.alloc bz2.size _).drew.grown hg3 (by simp;omega) (fun k hk=>by have:=bv2 _ hk;omega)
     have hs3:=hg3.size
     simp at hs3
     refine hK.out _ _ hx3 (fun h3=>?_)
     clear hK K
     try simp only [Act.put,sA,sZ,sS]
     refine wpAnyH_ready (rs:=[7]) (by kernel_rfl) (by simp) ?_
     refine AllReadyH.cons rfl (fun K hK=>?_) AllReadyH.nil
     refine step_append_ents rfl 33 rfl _ _ rfl (w.heap.size+1) v3 _ ([]++([]:List Ent).take 0++[x]) (([]:List Ent).drop 0) rfl rfl ?e1 ?e2 ?e3 ?e4 ?_
     case e1=>exact ho3
     case e2=>exact rdE_none (fun _=>rfl) (Nat.zero_le _) rfl
     case e3=>first | (simp;done) | (simp;omega)
     case e4=>omega
     intro v4 w4 ho4 hg4
     have bv3:∀ k,v3.ownBlock=some k→w.heap.size+1≤k:=fun k hk=>(World.ownsRow.lt ho3 k hk).1
     have hx4:EntAt w4 w.heap.size 0 x:=h3.of_block (hg4.block _ (by omega) (fun e=>by have:=bv3 _ e.symm;omega))
     have bz4:Below w.heap.size w w4:=bz3.grown hg4 bz3.size (fun k hk=>by have:=bv3 _ hk;omega)
     refine hK.out _ _ hx4 (fun h4=>?_)
     clear hK K
     try simp only [Act.put,sA,sZ,sS]
     refine kA 8 4 h4 ?_
     refine wpAnyH_done (by kernel_rfl) ?_ _
     refine NoPanic.normal ?_
     go_wp2
     all_goals go_ret
     all_goals refine ⟨_,rfl,?_,bz4⟩
     all_goals have e:insE ([]:List Ent) x=[]++([]:List Ent).take 0++[x]++([]:List Ent).drop 0:=by unfold insE;rw [HK.out];simp
     all_goals rw [e]
     all_goals exact ho4.mono (Nat.le_succ _)
    | some ad =>
     subst he
     have hk0:k=0:=by simpa using hke
     subst hk0
     clear hke hkl hlt
     go_wp2_with fail
     refine wp_region_noPanic ?_
     refine wp_region_held_drew (S:=fun w'=>EntAt w' w.heap.size 0 x) (by kernel_rfl) hx0 (fun hH=>?_)
     refine kA 0 7 hH ?_
     refine kA 1 8 hH ?_
     refine kA 2 9 hH ?_
     refine kA 3 10 hH ?_
     refine kA 4 11 hH ?_
     refine kS 5 12 hH ?_
     refine kS 6 13 hH ?_
     refine kS 7 14 hH ?_
     refine kS 8 15 hH ?_
     refine kS 9 16 hH ?_
     refine kS 10 17 hH ?_
     refine kA 11 18 hH ?_
     refine wpAnyH_done (by kernel_rfl) ?_ _
     refine NoPanic.normal ?_
     have hr1:=hrw.drewN 1
     have bz:=hb.drew
     have hx1:EntAt wr.drew w.heap.size 0 x:=hx0
     have hs1:wr.heap.size≤wr.drew.heap.size:=Nat.le_refl _
     clear hH hb hx0 hrw HO
     change RdE wr.drew _ [] at hr1
     revert hr1 bz hx1 hs1
     generalize wr.drew=w1
     intro bz hx1 hs1 hr1
     go_wp2_with (at_builtin;(refine wpList_append_ents rfl _ _ rfl (w.heap.size+1) _ _ [] (([]:List Ent).take 0) rfl rfl ?c1 ?c2 ?c3 ?c4 ?_))
     case c1=>exact (ownE_none _).mono (by omega)
     case c2=>exact rdE_take (hr1.below (below1 _ _)) hk
     case c3=>first | (simp;done) | (simp;omega)
     case c4=>simp;omega
     intro v2 w2 ho2 hg2
     have hx2:EntAt w2 w.heap.size 0 x:=(hx1.below (below1 _ (.cells #[] 50))).of_block (hg2.block _ (by simp;omega) (by simp [Value.ownBlock];omega))
     have bz2:Below w.heap.size w w2:=(bz.alloc (by omega) _).grown hg2 (by simp;omega) (fun k hk=>by simp [Value.ownBlock] at hk;omega)
     have hr2:=hr.below bz2
     have hs2:=hg2.size
     simp at hs2
     clear hr1 hx1 hg2
     go_wp2_with fail
     refine wp_region_noPanic ?_
     refine wp_region_held_drew (S:=fun w'=>EntAt w' w.heap.size 0 x) (by kernel_rfl) hx2 (fun hH=>?_)
     refine kA 0 26 hH ?_
     refine kA 1 27 hH ?_
     refine kA 4 30 hH ?_
     refine kA 5 31 hH ?_
     refine kA 6 32 hH ?_
     refine wpAnyH_ready (rs:=[2]) (by kernel_rfl) (by simp) ?_
     refine AllReadyH.cons rfl (fun K hK=>?_) AllReadyH.nil
     go_simp
     refine hK.out _ _ (hH.below (below1 _ _)) (fun h2=>?_)
     clear hK K
     try simp only [Act.put,sA,sZ,sS]
     refine wpAnyH_ready (rs:=[3]) (by kernel_rfl) (by simp) ?_
     refine AllReadyH.cons rfl (fun K hK=>?_) AllReadyH.nil
     refine step_append_ents rfl 29 rfl _ _ rfl (w.heap.size+1) v2 (.slice (some ⟨w2.heap.size,0,none⟩) 1 1) ([]++([]:List Ent).take 0) [x] rfl rfl ?d1 ?d2 ?d3 ?d4 ?_
     case d1=>exact ho2.below (below1 _ _).drew
     case d2=>exact rdE_one (entAt_box _ _ _)
     case d3=>first | (simp;done) | (simp;omega)
     case d4=>simp;omega
     intro v3 w3 ho3 hg3
     have bv2:∀ k,v2.ownBlock=some k→w.heap.size+1≤k:=fun k hk=>(World.ownsRow.lt ho2 k hk).1
     have hx3:EntAt w3 w.heap.size 0 x:=h2.of_block (hg3.block _ (by simp;omega) (fun e=>by have:=bv2 _ e.symm;omega))
     have bz3:Below w.heap.size w w3:=(bz2.alloc bz2.size _).drew.grown hg3 (by simp;omega) (fun k hk=>by have:=bv2 _ hk;omega)
     have hs3:=hg3.size
     simp at hs3
     refine hK.out _ _ hx3 (fun h3=>?_)
     clear hK K
     try simp only [Act.put,sA,sZ,sS]
     refine wpAnyH_ready (rs:=[7]) (by kernel_rfl) (by simp) ?_
     refine AllReadyH.cons rfl (fun K hK=>?_) AllReadyH.nil
     refine step_append_ents rfl 33 rfl _ _ rfl (w.heap.size+1) v3 _ ([]++([]:List Ent).take 0++[x]) (([]:List Ent).drop 0) rfl rfl ?e1 ?e2 ?e3 ?e4 ?_
     case e1=>exact ho3
     case e2=>exact rdE_none (fun h=>by first | cases h | (split at h<;>cases h)) (by first | exact hm0 | omega) rfl
     case e3=>first | (simp;done) | (simp;omega)
     case e4=>omega
     intro v4 w4 ho4 hg4
     have bv3:∀ k,v3.ownBlock=some k→w.heap.size+1≤k:=fun k hk=>(World.ownsRow.lt ho3 k hk).1
     have hx4:EntAt w4 w.heap.size 0 x:=h3.of_block (hg4.block _ (by omega) (fun e=>by have:=bv3 _ e.symm;omega))
     have bz4:Below w.heap.size w w4:=bz3.grown hg4 bz3.size (fun k hk=>by have:=bv3 _ hk;omega)
     refine hK.out _ _ hx4 (fun h4=>?_)
     clear hK K
     try simp only [Act.put,sA,sZ,sS]
     refine kA 8 4 h4 ?_
     refine wpAnyH_done (by kernel_rfl) ?_ _
     refine NoPanic.normal ?_
     go_wp2
     all_goals go_ret
     all_goals refine ⟨_,rfl,?_,bz4⟩
     all_goals have e:insE ([]:List Ent) x=[]++([]:List Ent).take 0++[x]++([]:List Ent).drop 0:=by unfold insE;rw [HK.out];simp
     all_goals rw [e]
     all_goals exact ho4.mono (Nat.le_succ _)
   ·skip
    subst ha
    clear hke
    go_wp2_with fail
    refine wp_region_noPanic ?_
    refine wp_region_held_drew (S:=fun w'=>EntAt w' w.heap.size 0 x) (by kernel_rfl) hx0 (fun hH=>?_)
    refine kA 0 7 hH ?_
    refine kA 1 8 hH ?_
    refine kA 2 9 hH ?_
    refine kA 3 10 hH ?_
    refine kA 4 11 hH ?_
    refine kS 5 12 hH ?_
    refine kS 6 13 hH ?_
    refine kS 7 14 hH ?_
    refine kS 8 15 hH ?_
    refine kS 9 16 hH ?_
    refine kS 10 17 hH ?_
    refine kA 11 18 hH ?_
    refine wpAnyH_done (by kernel_rfl) ?_ _
    refine NoPanic.normal ?_
    have hr1:=hrw.drewN 1
    have bz:=hb.drew
    have hx1:EntAt wr.drew w.heap.size 0 x:=hx0
    have hs1:wr.heap.size≤wr.drew.heap.size:=Nat.le_refl _
    clear hH hb hx0 hrw HO
    change RdE wr.drew _ es at hr1
    revert hr1 bz hx1 hs1
    generalize wr.drew=w1
    intro bz hx1 hs1 hr1
    go_wp2_with (at_builtin;(refine wpList_append_ents rfl _ _ rfl (w.heap.size+1) _ _ [] (es.take k) rfl rfl ?c1 ?c2 ?c3 ?c4 ?_))
    case c1=>exact (ownE_none _).mono (by omega)
    case c2=>exact rdE_take (hr1.below (below1 _ _)) hk
    case c3=>first | (simp;done) | (simp;omega)
    case c4=>simp;omega
    intro v2 w2 ho2 hg2
    have hx2:EntAt w2 w.heap.size 0 x:=(hx1.below (below1 _ (.cells #[] 50))).of_block (hg2.block _ (by simp;omega) (by simp [Value.ownBlock];omega))
    have bz2:Below w.heap.size w w2:=(bz.alloc (by omega) _).grown hg2 (by simp;omega) (fun k hk=>by simp [Value.ownBlock] at hk;omega)
    have hr2:=hr.below bz2
    have hs2:=hg2.size
    simp at hs2
    clear hr1 hx1 hg2
    go_wp2_with fail
    refine wp_region_noPanic ?_
    refine wp_region_held_drew (S:=fun w'=>EntAt w' w.heap.size 0 x) (by kernel_rfl) hx2 (fun hH=>?_)
    refine kA 0 26 hH ?_
    refine kA 1 27 hH ?_
    refine kA 4 30 hH ?_
    refine kA 5 31 hH ?_
    refine kA 6 32 hH ?_
    refine wpAnyH_ready (rs:=[2]) (by kernel_rfl) (by simp) ?_
    refine AllReadyH.cons rfl (fun K hK=>?_) AllReadyH.nil
    go_simp
    refine hK.out _ _ (hH.below (below1 _ _)) (fun h2=>?_)
    clear hK K
    try simp only [Act.put,sA,sZ,sS]
    refine wpAnyH_ready (rs:=[3]) (by kernel_rfl) (by simp) ?_
    refine AllReadyH.cons rfl (fun K hK=>?_) AllReadyH.nil
    refine step_append_ents rfl 29 rfl _ _ rfl (w.heap.size+1) v2 (.slice (some ⟨w2.heap.size,0,none⟩) 1 1) ([]++es.take k) [x] rfl rfl ?d1 ?d2 ?d3 ?d4 ?_
    case d1=>exact ho2.below (below1 _ _).drew
    case d2=>exact rdE_one (entAt_box _ _ _)
    case d3=>first | (simp;done) | (simp;omega)
    case d4=>simp;omega
    intro v3 w3 ho3 hg3
    have bv2:∀ k,v2.ownBlock=some k→w.heap.size+1≤k:=fun k hk=>(World.ownsRow.lt ho2 k hk).1
    have hx3:EntAt w3 w.heap.size 0 x:=h2.of_block (hg3.block _ (by simp;omega) (fun e=>by have:=bv2 _ e.symm;omega))
    have bz3:Below w.heap.size w w3:=(bz2.alloc bz2.size _).drew.grown hg3 (by simp;omega) (fun k hk=>by have:=bv2 _ hk;omega)
    have hs3:=hg3.size
    simp at hs3
    refine hK.out _ _ hx3 (fun h3=>?_)
    clear hK K
    try simp only [Act.put,sA,sZ,sS]
    refine wpAnyH_ready (rs:=[7]) (by kernel_rfl) (by simp) ?_
    refine AllReadyH.cons rfl (fun K hK=>?_) AllReadyH.nil
    refine step_append_ents rfl 33 rfl _ _ rfl (w.heap.size+1) v3 _ ([]++es.take k++[x]) (es.drop k) rfl rfl ?e1 ?e2 ?e3 ?e4 ?_
    case e1=>exact ho3
    case e2=>exact rdE_cut (hr.below bz3) hk
    case e3=>first | (simp;done) | (simp;omega)
    case e4=>omega
    intro v4 w4 ho4 hg4
    have bv3:∀ k,v3.ownBlock=some k→w.heap.size+1≤k:=fun k hk=>(World.ownsRow.lt ho3 k hk).1
    have hx4:EntAt w4 w.heap.size 0 x:=h3.of_block (hg4.block _ (by omega) (fun e=>by have:=bv3 _ e.symm;omega))
    have bz4:Below w.heap.size w w4:=bz3.grown hg4 bz3.size (fun k hk=>by have:=bv3 _ hk;omega)
    refine hK.out _ _ hx4 (fun h4=>?_)
    clear hK K
    try simp only [Act.put,sA,sZ,sS]
    refine kA 8 4 h4 ?_
    refine wpAnyH_done (by kernel_rfl) ?_ _
    refine NoPanic.normal ?_
    go_wp2
    all_goals go_ret
    all_goals refine ⟨_,rfl,?_,bz4⟩
    all_goals have e:insE es x=[]++es.take k++[x]++es.drop k:=by unfold insE;rw [HK.out];simp
    all_goals rw [e]
    all_goals exact ho4.mono (Nat.le_succ _)
open Go.RowKit
def Small (x:Ent):Prop:=x.key.size≤1000∧x.val.size≤1000∧0≤x.seq∧x.seq≤1000000000
theorem Small.fits {x:Ent} (h:Small x):Fits x:=⟨by have:=h.1;omega,by have:=h.2.1;omega,by have:=h.2.2.1;omega,by have:=h.2.2.2;omega⟩
theorem DCur.below {w0 w w':World} {g:Nat} (h:DCur w0 w g) (hb:Below w.heap.size w w'):DCur w0 w' g:=by
 have hl:=h.lt
 obtain ⟨v,bs,i,x,h1,h2,h3,h4,h5,h6⟩:=h
 exact ⟨v,bs,i,x,h1,h2,h3,by rw [hb.block g hl];exact h4,h5.trans (hb.mono (by omega)),h6⟩
theorem gr_below {a w w':World} {row:Option Nat} (h:a.grownBy w row) (hb:Below w.heap.size w w'):a.grownBy w' row:=by
 have:=h.size
 exact ⟨hb.os.trans h.os,hb.tape.trans h.tape,hb.output.trans h.output,Nat.le_trans h.size hb.size,fun k hk hr=>(hb.block k (by omega)).trans (h.block k hk hr)⟩
theorem BoxAt.block {w w':World} {b:Nat} {x:Ent} (h:BoxAt w b x) (hb:w'.heap[b]? = w.heap[b]?):BoxAt w' b x :=
 ⟨h.1.of_block hb,fun o=>(World.frozen?_of_block (a:=⟨b,o,none⟩) hb).trans (h.2 o)⟩
theorem l3DrawKey_any (w0 w:World) (g:Nat) (h:DCur w0 w g) :
 Calls Tryz.prog 40 #[.pointer (some ⟨g,0,none⟩)] w fun e w'=>TextD w0 w g 3 e w':=by
 have hlt:=h.lt
 have hdc:=h.alloc (.cells #[.string ⟨#[97]⟩,.string ⟨#[97,98]⟩,.string ⟨#[97,98,99]⟩,.string ⟨#[98]⟩,.string ⟨#[98,97]⟩,.string ⟨#[122]⟩] 9)
 go_enter Tryz.func40,Tryz.ntmps40
 go_wp2_with fail
 refine (l1Below_any w0 _ g 6 hdc (by omega) (by omega)).mono ?_
 rintro e w1 ⟨x,rfl,hx0,hx1,hc,hg⟩
 have hcl:∀ o,w1.cell? ⟨w.heap.size,o,none⟩=(w.alloc (.cells #[.string ⟨#[97]⟩,.string ⟨#[97,98]⟩,.string ⟨#[97,98,99]⟩,.string ⟨#[98]⟩,.string ⟨#[98,97]⟩,.string ⟨#[122]⟩] 9)).cell? ⟨w.heap.size,o,none⟩:=fun o=>World.cell?_of_block (a:=⟨w.heap.size,o,none⟩) (hg.block _ (by simp) (by simp;omega))
 have k0:w1.cell? ⟨w.heap.size,0,none⟩=some (.string ⟨#[97]⟩):=by rw [hcl];simp
 have k1:w1.cell? ⟨w.heap.size,1,none⟩=some (.string ⟨#[97,98]⟩):=by rw [hcl];simp
 have k2:w1.cell? ⟨w.heap.size,2,none⟩=some (.string ⟨#[97,98,99]⟩):=by rw [hcl];simp
 have k3:w1.cell? ⟨w.heap.size,3,none⟩=some (.string ⟨#[98]⟩):=by rw [hcl];simp
 have k4:w1.cell? ⟨w.heap.size,4,none⟩=some (.string ⟨#[98,97]⟩):=by rw [hcl];simp
 have k5:w1.cell? ⟨w.heap.size,5,none⟩=some (.string ⟨#[122]⟩):=by rw [hcl];simp
 have hgr:w.grownBy w1 (some g):=gr_trans (gr_alloc (gr_refl w (some g)) _) hg
 have hx:x=0∨x=1∨x=2∨x=3∨x=4∨x=5:=by omega
 clear hcl hg hdc
 rcases hx with rfl | rfl | rfl | rfl | rfl | rfl
 all_goals
  go_wp2
  go_ret
  exact ⟨_,rfl,by decide,hc,hgr⟩
def EntD (w0 w:World) (g:Nat) (q:Int) (e:Ending) (w':World):Prop :=
 ∃ x:Ent,e=.returned (.agg #[.string x.key,.string x.val,.int .i64 x.seq,.bool x.gone])∧x.key.size≤1000∧x.val.size≤1000∧x.seq=q∧DCur w0 w' g∧w.grownBy w' (some g)
theorem DCur.set {w0 w:World} {g b j:Nat} {u:Value} (h:DCur w0 w g) (hb:g < b):DCur w0 (w.setCell ⟨b,j,none⟩ u) g :=
 h.grow (set_grown u) (fun k hk=>by cases hk;exact hb)
theorem gr_set {a w:World} {row:Option Nat} {b j:Nat} {u:Value} (h:a.grownBy w row) (hb:a.heap.size≤b):a.grownBy (w.setCell ⟨b,j,none⟩ u) row :=
 gr_young h (set_grown u) (fun k hk=>by cases hk;exact hb)
theorem l3DrawEntry_any (w0 w:World) (g:Nat) (q:Int) (h:DCur w0 w g) :
 Calls Tryz.prog 66 #[.pointer (some ⟨g,0,none⟩),.int .i64 q] w fun e w'=>EntD w0 w g q e w':=by
 have hlt:=h.lt
 have hdc:=h.alloc (.cells #[.string ⟨#[]⟩,.string ⟨#[]⟩,.int .i64 0,.bool false] 50)
 have hz:=box_zero w 50
 have hgr:=gr_alloc (gr_refl w (some g)) (.cells #[.string ⟨#[]⟩,.string ⟨#[]⟩,.int .i64 0,.bool false] 50)
 go_enter Tryz.func66,Tryz.ntmps66
 go_wp2_with fail
 refine (l3DrawKey_any w0 _ g hdc).mono ?_
 rintro e w1 ⟨ks,rfl,hks,hc1,hg1⟩
 have hz1:=hz.block (hg1.block _ (by simp) (by simp;omega))
 have hgr1:=gr_trans hgr hg1
 clear hdc hz hg1 hgr
 go_wp2_with fail
 refine (l1DrawText_any w0 _ g hc1).mono ?_
 rintro e w2 ⟨vs,rfl,hvs,hc2,hg2⟩
 have hz2:=hz1.block (hg2.block _ hz1.1.lt (by simp;omega))
 have hgr2:=gr_trans hgr1 hg2
 clear hc1 hz1 hg2 hgr1
 go_wp2_with fail
 refine (l1Once_any w0 _ g 4 hc2 (by omega) (by omega)).mono ?_
 rintro e w3 ⟨b,rfl,hc3,hg3⟩
 have hz3:=hz2.block (hg3.block _ hz2.1.lt (by simp;omega))
 have hgr3:=gr_trans hgr2 hg3
 clear hc2 hz2 hg3 hgr2
 have hl3:=hz3.1.lt
 obtain ⟨z0,z1,z2,z3,f0,f1,f2,f3⟩:=hz3.facts
 cases b with
 | false =>
  go_wp2
  refine bodyPost_ret (v:=.agg #[.string ks,.string vs,.int .i64 q,.bool false]) (by simp [results,Tryz.results66,go_sem,z0,z1,z2,z3,hl3]) rfl ⟨⟨ks,vs,q,false⟩,rfl,by show ks.size≤1000;omega,by show vs.size≤1000;omega,rfl,?_,?_⟩
  ·exact ((((hc3.set hlt).set hlt).set hlt).set hlt).alloc _
  ·exact gr_alloc (gr_set (gr_set (gr_set (gr_set hgr3 (Nat.le_refl _)) (Nat.le_refl _)) (Nat.le_refl _)) (Nat.le_refl _)) _
 | true =>
  go_wp2
  refine bodyPost_ret (v:=.agg #[.string ks,.string ⟨#[]⟩,.int .i64 q,.bool true]) (by simp [results,Tryz.results66,go_sem,z0,z1,z2,z3,hl3]) rfl ⟨⟨ks,⟨#[]⟩,q,true⟩,rfl,by show ks.size≤1000;omega,by show (0:Nat)≤1000;omega,rfl,?_,?_⟩
  ·exact ((((hc3.set hlt).set hlt).set hlt).set hlt).alloc _
  ·exact gr_alloc (gr_set (gr_set (gr_set (gr_set hgr3 (Nat.le_refl _)) (Nat.le_refl _)) (Nat.le_refl _)) (Nat.le_refl _)) _
def ListD (w0 w:World) (g n:Nat) (e:Ending) (w':World):Prop :=
 ∃ (v:Value) (es:List Ent),e=.returned v∧OwnE w' w.heap.size v es∧es.length≤n∧(∀ x∈es,Small x)∧DCur w0 w' g∧w.grownBy w' (some g)
theorem insE_small {es:List Ent} {x:Ent} (h:∀ y∈es,Small y) (hx:Small x):∀ y∈insE es x,Small y:=by
 intro y hy
 simp only [insE,List.mem_append,List.mem_cons] at hy
 rcases hy with hy | rfl | hy
 ·exact h y (List.mem_of_mem_take hy)
 ·exact hx
 ·exact h y (List.mem_of_mem_drop hy)
theorem ownE_g {w w':World} {B g:Nat} {v:Value} {es:List Ent} (h:OwnE w B v es) (hg:w.grownBy w' (some g)) (hB:g < B):OwnE w' B v es :=
 row_kept h hg (fun k hk e=>by have:=(World.ownsRow.lt h k hk).1;simp at e;omega)
theorem l3DrawFrom_gen (w0 w:World) (g:Nat) (q0:Int) (n0:Nat) (h:DCur w0 w g) (hq00:1≤q0) (hq01:q0≤1000000) (hn00:n0≤200) :
 Calls Tryz.prog 103 #[.pointer (some ⟨g,0,none⟩),.int .i64 q0,.int .i64 (n0:Int)] w fun e w'=>ListD w0 w g n0 e w':=by
 have hlt:=h.lt
 have hdc:=h.alloc (.cells #[] 50)
 have hst:=ownE_none w
 have hgr:=gr_alloc (gr_refl w (some g)) (.cells #[] 50)
 go_enter Tryz.func103,Tryz.ntmps103
 go_wp2_with fail
 refine (l1Below_any w0 _ g ((n0:Int)+1) hdc (by omega) (by omega)).mono ?_
 rintro e w1 ⟨x,rfl,hx0,hx1,hc1,hg1⟩
 have ho1:=ownE_g hst hg1 hlt
 have hgr1:=gr_trans hgr hg1
 clear hdc hst hgr hg1
 go_wp2
 go_loopw [1,7,8] (fun sq o n wr=>∃ (m q:Int) (ys:List Ent),n=.int .i64 m∧sq=.int .i64 q∧0≤m∧1≤q∧q+2*m≤q0+2*(n0:Int)∧(ys.length:Int)+m≤(n0:Int)∧OwnE wr w.heap.size o ys∧Hid (∀ y∈ys,Small y)∧DCur w0 wr g∧w.grownBy wr (some g)) (fun _ _ n _=>(intOf n).toNat)
 case atStart=>exact ⟨x,q0,[],rfl,rfl,hx0,by omega,by omega,by simp;omega,ho1,(fun y hy=>by cases hy),hc1,hgr1⟩
 case round =>
  obtain ⟨m,q,ys,rfl,rfl,hm0,hq0,hq1,hyl,ho,HS,hc,hgw⟩:=hrel
  clear ho1 hc1 hgr1
  by_cases hmp:0 < m
  ·go_wp2_with fail
   refine (l3DrawEntry_any w0 _ g q hc).mono ?_
   rintro e w2 ⟨z,rfl,hz0,hz1,hz2,hc2,hg2⟩
   have ho2:=ownE_g ho hg2 hlt
   have hgw2:=gr_trans hgw hg2
   have HS2:Hid (∀ y∈insE ys z,Small y):=insE_small HS.out ⟨hz0,hz1,by omega,by omega⟩
   have hil:=insE_length ys z
   have hs2:=hgw2.size
   have HZ:Hid (z.seq=q):=hz2
   have hil2:((insE ys z).length:Int)+(m - 1)≤(n0:Int):=by omega
   clear ho hc hgw hg2 hz2 hil
   go_wp2_with fail
   refine (l3Put_any _ ys z _ ho2.rd (by omega)).mono ?_
   rintro e w3 ⟨u,rfl,ho3,hb3⟩
   have hc3:=hc2.below hb3
   have hgw3:=gr_below hgw2 hb3
   have ho3':=ho3.mono hs2
   clear ho2 hc2 hgw2 ho3 hb3
   go_wp2_with fail
   refine (l1Below_any w0 _ g 2 hc3 (by omega) (by omega)).mono ?_
   rintro e w4 ⟨y,rfl,hy0,hy1,hc4,hg4⟩
   have ho4:=ownE_g ho3' hg4 hlt
   have hgw4:=gr_trans hgw3 hg4
   clear ho3' hc3 hgw3 hg4
   go_wp2
   go_roundw
   case rel=>exact ⟨m - 1,q+1+y,_,rfl,rfl,by omega,by omega,by omega,hil2,ho4,HS2,hc4,hgw4⟩
   case measure=>simp [intOf];omega
  ·have hm1:m=0:=by omega
   subst hm1
   go_wp2
   go_ret
   exact ⟨_,ys,rfl,ho,by omega,HS.out,hc,hgw⟩
theorem l3DrawFrom_any (w0 w:World) (g:Nat) (h:DCur w0 w g) :
 Calls Tryz.prog 103 #[.pointer (some ⟨g,0,none⟩),.int .i64 1,.int .i64 10] w fun e w'=>ListD w0 w g 10 e w':=l3DrawFrom_gen w0 w g 1 10 h (by omega) (by omega) (by omega)
end Go.Proofs.YtmlmlemiidedcaaGreat
