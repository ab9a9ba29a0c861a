import Derived.Test.YtmlmlemiidedcaaGreatG08
import Derived.Deep.RegionHeld3
import Derived.Deep.LoopGhost
namespace Go.Proofs.YtmlmlemiidedcaaGreat
set_option maxHeartbeats 16000000
set_option maxRecDepth 100000
open Go.RowKit
theorem entryOk_yes (a:Ent) (w:World) (hf:Fits a) (h:okE a=true) :
 Calls Tryz.prog 107 #[.agg #[.string a.key,.string a.val,.int .i64 a.seq,.bool a.gone]] w fun e w'=>e=.returned (.bool true)∧Below w.heap.size w w':=by
 have:=entryOk_any a w hf;rwa [h] at this
theorem entryOk_no (a:Ent) (w:World) (hf:Fits a) (h:okE a=false) :
 Calls Tryz.prog 107 #[.agg #[.string a.key,.string a.val,.int .i64 a.seq,.bool a.gone]] w fun e w'=>e=.returned (.bool false)∧Below w.heap.size w w':=by
 have:=entryOk_any a w hf;rwa [h] at this
theorem entAt_new (W:World) (x:Ent) (t:TypeId):EntAt (W.alloc (.cells #[.string x.key,.string x.val,.int .i64 x.seq,.bool x.gone] t)) W.heap.size 0 x :=
 ⟨by simp [World.cell?_alloc_at],by simp [World.cell?_alloc_at],by simp [World.cell?_alloc_at],by simp [World.cell?_alloc_at]⟩
theorem EntAt.alloc {w:World} {b o:Nat} {e:Ent} (h:EntAt w b o e) (x:Obj):EntAt (w.alloc x) b o e:=h.below (below1 _ _)
theorem ordE_lt {a b:Ent} (h:ahd a b=true):ordE a b < 0:=(ordE_neg a b).2 h
theorem ordE_ge {a b:Ent} (h:ahd a b=false):0≤ordE a b:=by
 rcases Int.lt_or_le (ordE a b) 0 with h1 | h1
 ·rw [(ordE_neg a b).1 h1] at h;cases h
 ·exact h1
theorem implEntriesOk_any (v:Value) (es:List Ent) (w:World) (hr:RdE w v es) (hf:∀ e∈es,Fits e) :
 Calls Tryz.prog 73 #[v] w fun e w'=>e=.returned (.bool (okL es))∧Below w.heap.size w w':=by
 obtain ⟨a,cap,hv,hl,hm,_⟩:=id hr
 unfold maxLen at hm
 subst hv
 have HF:Hid (∀ e∈es,Fits e):=hf
 clear hf
 by_cases hbig:300 < es.length
 ·go_enter Tryz.func73,Tryz.ntmps73
  go_wp2
  go_ret
  exact ⟨ret_bool (by simp [okL];omega),Below.refl _ _⟩
 ·go_enter Tryz.func73,Tryz.ntmps73
  go_wp2
  go_loopw [10] (fun i wr=>∃ k:Nat,k≤es.length∧i=.int .i64 k∧Hid (okTo es k=true)∧Below w.heap.size w wr) (fun i _=>es.length - (intOf i).toNat)
  case atStart=>exact ⟨0,Nat.zero_le _,rfl,rfl,Below.refl _ _⟩
  case round =>
   obtain ⟨k,hk,rfl,HO,hb⟩:=hrel
   by_cases hlt:k < es.length
   ·obtain ⟨b,off,rfl,hc⟩:=hr.at rfl k hlt
    have hc2:=hc.below hb
    have hlt2:=hc2.lt
    obtain ⟨c0,c1,c2,c3⟩:=hc2
    have hfk:=HF.out _ (List.getElem_mem hlt)
    rw [← nth_eq hlt] at hfk
    obtain ⟨x,hx⟩:∃ x,x=nth es k:=⟨_,rfl⟩
    rw [← hx] at c0 c1 c2 c3 hfk
    have HX:Hid (x=nth es k):=hx
    clear hx hc
    cases hok:okE x with
    | false =>
     have RES:Hid (okL es=false):=okL_no_at hlt (by unfold okAt;rw [← HX.out,hok];rfl)
     go_wp2_with fail
     refine wp_region_noPanic ?_
     refine wp_region_held_drew (S:=fun w'=>EntAt w' wr.heap.size 0 x) (by kernel_rfl) (entAt_new _ _ _) (fun hH=>?_)
     refine kA 0 15 hH ?_
     refine wpAnyH_ready (rs:=[1]) (by kernel_rfl) (by simp) ?_
     refine AllReadyH.cons rfl (fun K hK=>?_) AllReadyH.nil
     go_simp
     refine (entryOk_no x _ hfk hok).mono ?_
     rintro e w' ⟨rfl,hb'⟩
     refine hK.out _ _ (hH.below hb') (fun hA=>?_)
     clear hK K
     try simp only [Act.put,sA,sZ,sS]
     refine kA 2 17 hA ?_
     refine kA 3 18 hA ?_
     refine kS 4 19 hA ?_
     refine kS 5 20 hA ?_
     refine kS 6 21 hA ?_
     refine kS 7 22 hA ?_
     refine kS 8 23 hA ?_
     refine kS 9 24 hA ?_
     refine kS 10 25 hA ?_
     refine kS 11 26 hA ?_
     refine kS 12 27 hA ?_
     refine kS 13 28 hA ?_
     refine kS 14 29 hA ?_
     refine kS 15 30 hA ?_
     refine kA 16 31 hA ?_
     refine wpAnyH_done (by kernel_rfl) ?_ _
     refine NoPanic.normal ?_
     go_wp2
     go_ret
     exact ⟨ret_bool RES.out.symm,(hb.alloc hb.size _).drew.trans (hb'.mono (by have:=hb.size;simp;omega))⟩
    | true =>
     by_cases hk0:k=0
     ·skip
      have HO2:Hid (okTo es (k+1)=true):=by
       show _=_
       rw [okTo_succ,HO.out];unfold okAt;rw [← HX.out,hok];simp [hk0]
      have hkn:decide (0 < k)=false:=by simpa using hk0
      clear hk0
      go_wp2_with fail
      refine wp_region_noPanic ?_
      refine wp_region_held_drew (S:=fun w'=>EntAt w' wr.heap.size 0 x) (by kernel_rfl) (entAt_new _ _ _) (fun hH=>?_)
      refine kA 0 15 hH ?_
      refine wpAnyH_ready (rs:=[1]) (by kernel_rfl) (by simp) ?_
      refine AllReadyH.cons rfl (fun K hK=>?_) AllReadyH.nil
      go_simp
      refine (entryOk_yes x _ hfk hok).mono ?_
      rintro e w' ⟨rfl,hb'⟩
      refine hK.out _ _ (hH.below hb') (fun hA=>?_)
      clear hK K
      try simp only [Act.put,sA,sZ,sS]
      refine kA 2 17 hA ?_
      refine kA 3 18 hA ?_
      refine kA 4 19 hA ?_
      refine kA 5 20 hA ?_
      refine kA 6 21 hA ?_
      refine kS 7 22 hA ?_
      refine kS 8 23 hA ?_
      refine kS 9 24 hA ?_
      refine kS 10 25 hA ?_
      refine kS 11 26 hA ?_
      refine kS 12 27 hA ?_
      refine kS 13 28 hA ?_
      refine kS 14 29 hA ?_
      refine kA 15 30 hA ?_
      refine kA 16 31 hA ?_
      refine wpAnyH_done (by kernel_rfl) ?_ _
      refine NoPanic.normal ?_
      go_wp2
      go_roundw
      case rel=>exact ⟨k+1,by omega,by go_num,HO2,(hb.alloc hb.size _).drew.trans (hb'.mono (by have:=hb.size;simp;omega))⟩
      case measure=>simp [intOf];omega
     ·skip
      obtain ⟨b2,off2,ha2,hd⟩:=hr.at rfl (k - 1) (by omega)
      simp only [Option.some.injEq,Addr.mk.injEq] at ha2
      obtain ⟨rfl,rfl,_⟩:=ha2
      have hd2:=hd.below hb
      obtain ⟨y,hy⟩:∃ y,y=nth es (k - 1):=⟨_,rfl⟩
      rw [← hy] at hd2
      have HY:Hid (y=nth es (k - 1)):=hy
      clear hy hd
      obtain ⟨j,hj⟩:∃ j,j=k - 1:=⟨k - 1,rfl⟩
      rw [← hj] at hd2
      have hkj:(k:Int) - 1=(j:Int):=by omega
      have hkp:decide (0 < k)=true:=by simp;omega
      have hj0:(0:Int)≤(j:Int):=by omega
      have hjn:j < es.length:=by omega
      have hwr:IntKind.i64.wrap (j:Int)=(j:Int):=by rw [IntKind.wrap_i64];omega
      have HK0:Hid (k≠0):=hk0
      clear hj hk0
      cases hah:ahd y x with
      | false =>
       have hor:=ordE_ge hah
       have RES:Hid (okL es=false):=okL_no_at hlt (by unfold okAt;rw [← HX.out,← HY.out,hok,hah];simpa using HK0.out)
       go_wp2_with fail
       refine wp_region_noPanic ?_
       refine wp_region_held_drew (S:=fun w'=>EntAt w' wr.heap.size 0 x∧EntAt w' b (off+j*4) y) (by kernel_rfl) ⟨entAt_new _ _ _,hd2.alloc _⟩ (fun hH=>?_)
       refine kA 0 15 hH ?_
       refine wpAnyH_ready (rs:=[1]) (by kernel_rfl) (by simp) ?_
       refine AllReadyH.cons rfl (fun K hK=>?_) AllReadyH.nil
       go_simp
       refine (entryOk_yes x _ hfk hok).mono ?_
       rintro e w' ⟨rfl,hb'⟩
       refine hK.out _ _ ⟨hH.1.below hb',hH.2.below hb'⟩ (fun hA=>?_)
       clear hK K
       try simp only [Act.put,sA,sZ,sS]
       refine kA 2 17 hA ?_
       refine kA 3 18 hA ?_
       refine kA 4 19 hA ?_
       refine kA 5 20 hA ?_
       refine kA 6 21 hA ?_
       refine kA 7 22 hA ?_
       refine kA 8 23 hA ?_
       refine kA 9 24 hA ?_
       refine kA 10 25 hA ?_
       refine kA 11 26 hA ?_
       refine kA 12 27 hA ?_
       refine wpAnyH_ready (rs:=[13]) (by kernel_rfl) (by simp) ?_
       refine AllReadyH.cons rfl (fun K hK=>?_) AllReadyH.nil
       go_simp
       refine (entryOrder_any y x _).mono ?_
       rintro e w2 ⟨rfl,hb2⟩
       refine hK.out _ _ ⟨hA.1.below hb2,hA.2.below hb2⟩ (fun hB=>?_)
       clear hK K
       try simp only [Act.put,sA,sZ,sS]
       refine kA 14 29 hB ?_
       refine kA 15 30 hB ?_
       refine kA 16 31 hB ?_
       refine wpAnyH_done (by kernel_rfl) ?_ _
       refine NoPanic.normal ?_
       have bz:=((hb.alloc hb.size _).drew.trans (hb'.mono (by have:=hb.size;simp;omega))).trans (hb2.mono (by have:=hb.size;have:=hb'.size;simp at this;omega))
       go_wp2
       go_ret
       exact ⟨ret_bool RES.out.symm,bz⟩
      | true =>
       have hor:=ordE_lt hah
       have HO2:Hid (okTo es (k+1)=true):=by
        show _=_
        rw [okTo_succ,HO.out];unfold okAt;rw [← HX.out,← HY.out,hok,hah];simp
       go_wp2_with fail
       refine wp_region_noPanic ?_
       refine wp_region_held_drew (S:=fun w'=>EntAt w' wr.heap.size 0 x∧EntAt w' b (off+j*4) y) (by kernel_rfl) ⟨entAt_new _ _ _,hd2.alloc _⟩ (fun hH=>?_)
       refine kA 0 15 hH ?_
       refine wpAnyH_ready (rs:=[1]) (by kernel_rfl) (by simp) ?_
       refine AllReadyH.cons rfl (fun K hK=>?_) AllReadyH.nil
       go_simp
       refine (entryOk_yes x _ hfk hok).mono ?_
       rintro e w' ⟨rfl,hb'⟩
       refine hK.out _ _ ⟨hH.1.below hb',hH.2.below hb'⟩ (fun hA=>?_)
       clear hK K
       try simp only [Act.put,sA,sZ,sS]
       refine kA 2 17 hA ?_
       refine kA 3 18 hA ?_
       refine kA 4 19 hA ?_
       refine kA 5 20 hA ?_
       refine kA 6 21 hA ?_
       refine kA 7 22 hA ?_
       refine kA 8 23 hA ?_
       refine kA 9 24 hA ?_
       refine kA 10 25 hA ?_
       refine kA 11 26 hA ?_
       refine kA 12 27 hA ?_
       refine wpAnyH_ready (rs:=[13]) (by kernel_rfl) (by simp) ?_
       refine AllReadyH.cons rfl (fun K hK=>?_) AllReadyH.nil
       go_simp
       refine (entryOrder_any y x _).mono ?_
       rintro e w2 ⟨rfl,hb2⟩
       refine hK.out _ _ ⟨hA.1.below hb2,hA.2.below hb2⟩ (fun hB=>?_)
       clear hK K
       try simp only [Act.put,sA,sZ,sS]
       refine kA 14 29 hB ?_
       refine kA 15 30 hB ?_
       refine kA 16 31 hB ?_
       refine wpAnyH_done (by kernel_rfl) ?_ _
       refine NoPanic.normal ?_
       have bz:=((hb.alloc hb.size _).drew.trans (hb'.mono (by have:=hb.size;simp;omega))).trans (hb2.mono (by have:=hb.size;have:=hb'.size;simp at this;omega))
       go_wp2
       go_roundw
       case rel=>exact ⟨k+1,by omega,by go_num,HO2,bz⟩
       case measure=>simp [intOf];omega
   ·have hke:k=es.length:=by omega
    subst hke
    go_wp2
    go_ret
    exact ⟨ret_bool (by simp [okL,HO.out];omega),hb⟩
open Go.RowKit
theorem entAt_boxF (W:World) (x:Ent) (t:TypeId):EntAt (W.alloc (.cells #[.string x.key,.string x.val,.int .i64 x.seq,.bool x.gone] t)) W.heap.size 0 x:=entAt_new W x t
theorem search_any (v:Value) (es:List Ent) (t:Ent) (w:World) (hr:RdE w v es) (hok:okL es=true) :
 Calls Tryz.prog 114 #[v,.agg #[.string t.key,.string t.val,.int .i64 t.seq,.bool t.gone],.func (.func 110) #[] #[]] w fun e w' =>
  e=.returned (.tuple #[.int .i64 (atE es t:Nat),.bool (hasKS es t)])∧Below w.heap.size w w':=by
 obtain ⟨a,cap,hv,hl,hm,_⟩:=id hr
 unfold maxLen at hm
 subst hv
 have hlen:=okL_len hok
 have hbx:=entAt_boxF w t 50
 have hb0:=below1 w (.cells #[.string t.key,.string t.val,.int .i64 t.seq,.bool t.gone] 50)
 go_enter Tryz.func114,Tryz.ntmps114
 go_wp2
 go_loopw [9,10] (fun s9 s10 wr=>∃ lo hi:Nat,s9=.int .i64 lo∧s10=.int .i64 hi∧lo≤hi∧hi≤es.length∧Hid (lo≤atE es t∧atE es t≤hi)∧EntAt wr w.heap.size 0 t∧Below w.heap.size w wr) (fun s9 s10 _=>(intOf s10).toNat - (intOf s9).toNat)
 case atStart=>exact ⟨0,es.length,rfl,rfl,Nat.zero_le _,Nat.le_refl _,⟨Nat.zero_le _,atE_le es t⟩,hbx,hb0⟩
 case round =>
  obtain ⟨lo,hi,rfl,rfl,hlh,hin,HA,hx0,hb⟩:=hrel
  clear hbx hb0
  by_cases hlt:lo < hi
  ·obtain ⟨m,hm2⟩:∃ m,m=(lo+hi) / 2:=⟨_,rfl⟩
   have hml:m < es.length:=by omega
   have HM:Hid (m=(lo+hi) / 2):=hm2
   obtain ⟨b,off,rfl,hc⟩:=(hr.below hb).at rfl m hml
   obtain ⟨y,hy⟩:∃ y,y=nth es m:=⟨_,rfl⟩
   rw [← hy] at hc
   have HY:Hid (y=nth es m):=hy
   clear hy
   have hmid:((lo:Int)+(hi:Int)) / 2=(m:Int):=by omega
   cases hah:ahd y t with
   | true =>
    have hor:=ordE_lt hah
    have HA2:Hid (m+1≤atE es t∧atE es t≤hi):=by
     refine ⟨?_,HA.out.2⟩
     rcases Nat.lt_or_ge m (atE es t) with h | h
     ·exact h
     ·have:=atE_hi hok t h hml
      rw [← HY.out,hah] at this;cases this
    clear hm2
    go_wp2_with fail
    refine wp_region_noPanic ?_
    refine wp_region_held_drew (S:=fun w'=>EntAt w' w.heap.size 0 t∧EntAt w' b (off+m*4) y) (by kernel_rfl) ⟨hx0,hc⟩ (fun hH=>?_)
    refine kA 0 24 hH ?_
    refine kA 1 25 hH ?_
    refine kA 2 26 hH ?_
    refine kA 3 27 hH ?_
    refine kA 4 28 hH ?_
    refine kA 5 29 hH ?_
    refine wpAnyH_ready (rs:=[6]) (by kernel_rfl) (by simp) ?_
    refine AllReadyH.cons rfl (fun K hK=>?_) AllReadyH.nil
    go_simp
    refine (entryOrder_any y t _).mono ?_
    rintro e w' ⟨rfl,hb'⟩
    refine hK.out _ _ ⟨hH.1.below hb',hH.2.below hb'⟩ (fun hB=>?_)
    clear hK K
    try simp only [Act.put,sA,sZ,sS]
    refine kA 7 31 hB ?_
    refine wpAnyH_done (by kernel_rfl) ?_ _
    refine NoPanic.normal ?_
    have bz:=hb.drew.trans (hb'.mono hb.size)
    go_wp2
    go_roundw
    case rel=>exact ⟨m+1,hi,by go_num,rfl,by have:=HM.out;omega,hin,HA2,hB.1,bz⟩
    case measure=>have:=HM.out;simp [intOf];omega
   | false =>
    have hor:=ordE_ge hah
    have HA2:Hid (lo≤atE es t∧atE es t≤m):=by
     refine ⟨HA.out.1,?_⟩
     rcases Nat.lt_or_ge m (atE es t) with h | h
     ·have:=atE_lo es t h
      rw [← HY.out,hah] at this;cases this
     ·exact h
    clear hm2
    go_wp2_with fail
    refine wp_region_noPanic ?_
    refine wp_region_held_drew (S:=fun w'=>EntAt w' w.heap.size 0 t∧EntAt w' b (off+m*4) y) (by kernel_rfl) ⟨hx0,hc⟩ (fun hH=>?_)
    refine kA 0 24 hH ?_
    refine kA 1 25 hH ?_
    refine kA 2 26 hH ?_
    refine kA 3 27 hH ?_
    refine kA 4 28 hH ?_
    refine kA 5 29 hH ?_
    refine wpAnyH_ready (rs:=[6]) (by kernel_rfl) (by simp) ?_
    refine AllReadyH.cons rfl (fun K hK=>?_) AllReadyH.nil
    go_simp
    refine (entryOrder_any y t _).mono ?_
    rintro e w' ⟨rfl,hb'⟩
    refine hK.out _ _ ⟨hH.1.below hb',hH.2.below hb'⟩ (fun hB=>?_)
    clear hK K
    try simp only [Act.put,sA,sZ,sS]
    refine kA 7 31 hB ?_
    refine wpAnyH_done (by kernel_rfl) ?_ _
    refine NoPanic.normal ?_
    have bz:=hb.drew.trans (hb'.mono hb.size)
    go_wp2
    go_roundw
    case rel=>exact ⟨lo,m,rfl,rfl,by have:=HM.out;omega,by omega,HA2,hB.1,bz⟩
    case measure=>have:=HM.out;simp [intOf];omega
  ·obtain rfl:hi=lo:=by omega
   have HP:Hid (atE es t=hi):=by have:=HA.out;unfold Hid;omega
   have HH:=has_at hok t
   rw [HP.out] at HH
   by_cases hpn:hi < es.length
   ·skip
    obtain ⟨b,off,rfl,hc⟩:=(hr.below hb).at rfl hi hpn
    obtain ⟨y,hy⟩:∃ y,y=nth es hi:=⟨_,rfl⟩
    rw [← hy] at hc HH
    have HR:Hid (hasKS es t=(ordE y t == 0)):=by
     unfold Hid
     rw [HH,decide_eq_true hpn,Bool.true_and,Bool.eq_iff_iff,beq_iff_eq]
     exact (ordE_zero y t).symm
    have hkl:decide (hi < es.length)=true:=by simpa using hpn
    clear hy HH
    go_wp2_with fail
    refine wp_region_noPanic ?_
    refine wp_region_held_drew (S:=fun w'=>EntAt w' w.heap.size 0 t∧EntAt w' b (off+hi*4) y) (by kernel_rfl) ⟨hx0,hc⟩ (fun hH=>?_)
    refine kA 0 35 hH ?_
    refine kA 1 36 hH ?_
    refine kA 2 37 hH ?_
    refine kA 3 38 hH ?_
    refine kA 4 39 hH ?_
    refine kA 5 40 hH ?_
    refine kA 6 41 hH ?_
    refine kA 7 42 hH ?_
    refine kA 8 43 hH ?_
    refine kA 9 44 hH ?_
    refine kA 10 45 hH ?_
    refine wpAnyH_ready (rs:=[11]) (by kernel_rfl) (by simp) ?_
    refine AllReadyH.cons rfl (fun K hK=>?_) AllReadyH.nil
    go_simp
    refine (entryOrder_any y t _).mono ?_
    rintro e w' ⟨rfl,hb'⟩
    refine hK.out _ _ ⟨hH.1.below hb',hH.2.below hb'⟩ (fun hB=>?_)
    clear hK K
    try simp only [Act.put,sA,sZ,sS]
    refine kA 12 47 hB ?_
    refine kA 13 48 hB ?_
    refine kA 14 6 hB ?_
    refine kA 15 7 hB ?_
    refine wpAnyH_done (by kernel_rfl) ?_ _
    refine NoPanic.normal ?_
    have bz:=hb.drew.trans (hb'.mono hb.size)
    go_wp2
    go_ret2
    exact ⟨by rw [HP.out,HR.out];rfl,bz⟩
   ·skip
    have HR:Hid (hasKS es t=false):=by
     unfold Hid
     rw [HH];simp [hpn]
    have hkl:decide (hi < es.length)=false:=by simpa using hpn
    clear HH
    go_wp2_with fail
    refine wp_region_noPanic ?_
    refine wp_region_held_drew (S:=fun w'=>EntAt w' w.heap.size 0 t) (by kernel_rfl) hx0 (fun hH=>?_)
    refine kA 0 35 hH ?_
    refine kA 1 36 hH ?_
    refine kA 2 37 hH ?_
    refine kA 3 38 hH ?_
    refine kA 4 39 hH ?_
    refine kS 5 40 hH ?_
    refine kS 6 41 hH ?_
    refine kS 7 42 hH ?_
    refine kS 8 43 hH ?_
    refine kS 9 44 hH ?_
    refine kS 10 45 hH ?_
    refine kS 11 46 hH ?_
    refine kS 12 47 hH ?_
    refine kA 13 48 hH ?_
    refine kA 14 6 hH ?_
    refine kA 15 7 hH ?_
    refine wpAnyH_done (by kernel_rfl) ?_ _
    refine NoPanic.normal ?_
    go_wp2
    go_ret2
    exact ⟨by rw [HP.out,HR.out];rfl,hb.drew⟩
theorem placeOf_any (v:Value) (es:List Ent) (key:ByteArray) (q:Int) (w:World) (hr:RdE w v es) (hok:okL es=true) :
 Calls Tryz.prog 79 #[v,.string key,.int .i64 q] w fun e w' =>
  e=.returned (.tuple #[.int .i64 (atE es ⟨key,⟨#[]⟩,q,false⟩:Nat),.bool (hasKS es ⟨key,⟨#[]⟩,q,false⟩)])∧Below w.heap.size w w':=by
 go_enter Tryz.func79,Tryz.ntmps79
 go_wp2_with fail
 refine (search_any v es ⟨key,⟨#[]⟩,q,false⟩ _ hr hok).mono ?_
 rintro e w1 ⟨rfl,hb1⟩
 go_wp2
 go_ret2
 exact ⟨rfl,hb1⟩
open Go.RowKit
theorem implOk_yes (v:Value) (es:List Ent) (w:World) (hr:RdE w v es) (hf:∀ e∈es,Fits e) (h:okL es=true) :
 Calls Tryz.prog 73 #[v] w fun e w'=>e=.returned (.bool true)∧Below w.heap.size w w':=by
 have:=implEntriesOk_any v es w hr hf;rwa [h] at this
theorem implOk_no (v:Value) (es:List Ent) (w:World) (hr:RdE w v es) (hf:∀ e∈es,Fits e) (h:okL es=false) :
 Calls Tryz.prog 73 #[v] w fun e w'=>e=.returned (.bool false)∧Below w.heap.size w w':=by
 have:=implEntriesOk_any v es w hr hf;rwa [h] at this
theorem seenIn_any (v:Value) (es:List Ent) (key:ByteArray) (q:Int) (w:World) (hr:RdE w v es) (hok:okL es=true) :
 Calls Tryz.prog 42 #[v,.string key,.int .i64 q] w fun e w'=>SeenPost w (seenL es key q) e w':=by
 obtain ⟨a,cap,hv,hl,hm,_⟩:=id hr
 unfold maxLen at hm
 subst hv
 have hz:=box_zero w 50
 have hz1:=below1 w (.cells #[.string ⟨#[]⟩,.string ⟨#[]⟩,.int .i64 0,.bool false] 50)
 have hr2:=hr.below hz1
 have hlen:=okL_len hok
 have RES:=seen_at hok key q ⟨key,⟨#[]⟩,q,false⟩ rfl rfl
 obtain ⟨p,hp⟩:∃ p,p=atE es ⟨key,⟨#[]⟩,q,false⟩:=⟨_,rfl⟩
 have hpl:p≤es.length:=by rw [hp];exact atE_le _ _
 obtain ⟨h0,hh0⟩:∃ h0,h0=hasKS es ⟨key,⟨#[]⟩,q,false⟩:=⟨_,rfl⟩
 rw [← hp] at RES
 have HP:Hid (∀ u w',RdE w' u es→Calls Tryz.prog 79 #[u,.string key,.int .i64 q] w' fun e w''=>e=.returned (.tuple #[.int .i64 (p:Nat),.bool h0])∧Below w'.heap.size w' w''):=fun u w' h=>by rw [hp,hh0];exact placeOf_any u es key q w' h hok
 have RES2:Hid (seenL es key q=if p < es.length∧(nth es p).key=key then some (nth es p) else none):=RES
 clear hp hh0 RES
 by_cases hpn:p < es.length
 ·have hpe:((p:Int) == (es.length:Int))=false:=by simp;omega
  obtain ⟨y,hy⟩:∃ y,y=nth es p:=⟨_,rfl⟩
  have KB:=beq_kEq y.key key
  cases hke:kEq y.key key with
  | false =>
   rw [hke] at KB
   have RES:Hid (seenL es key q=none):=by
    unfold Hid
    rw [RES2.out,if_neg]
    rintro ⟨_,h⟩
    rw [← hy] at h
    simp [kEq,h] at hke
   go_enter Tryz.func42,Tryz.ntmps42
   go_wp2_with fail
   refine (HP.out _ _ hr2).mono ?_
   rintro e w2 ⟨rfl,hb2⟩
   obtain ⟨z0,z1,z2,z3,f0,f1,f2,f3⟩:=(hz.below hb2).facts
   have bz:=hz1.trans (hb2.mono (by simp))
   obtain ⟨b,off,rfl,hc⟩:=(hr2.below hb2).at rfl p hpn
   rw [← hy] at hc
   obtain ⟨c0,c1,c2,c3⟩:=hc
   clear hz hb2 hz1 hy hr2
   go_wp2
   exact bodyPost_ret (v:=.tuple #[.agg #[.string ⟨#[]⟩,.string ⟨#[]⟩,.int .i64 0,.bool false],.bool false]) (by simp [results,Tryz.results42,go_sem,z0,z1,z2,z3]) rfl (seenPost_none RES.out (below4 bz (Nat.le_refl _) _ _ _ _ _ _ _ _))
  | true =>
   rw [hke] at KB
   have RES:Hid (seenL es key q=some y):=by
    unfold Hid
    rw [RES2.out,if_pos ⟨hpn,by rw [← hy];unfold kEq at hke;exact of_decide_eq_true hke⟩,← hy]
   go_enter Tryz.func42,Tryz.ntmps42
   go_wp2_with fail
   refine (HP.out _ _ hr2).mono ?_
   rintro e w2 ⟨rfl,hb2⟩
   obtain ⟨z0,z1,z2,z3,f0,f1,f2,f3⟩:=(hz.below hb2).facts
   have bz:=hz1.trans (hb2.mono (by simp))
   obtain ⟨b,off,rfl,hc⟩:=(hr2.below hb2).at rfl p hpn
   rw [← hy] at hc
   obtain ⟨c0,c1,c2,c3⟩:=hc
   clear hz hb2 hz1 hy hr2
   go_wp2
   exact bodyPost_ret (v:=.tuple #[.agg #[.string y.key,.string y.val,.int .i64 y.seq,.bool y.gone],.bool true]) (by simp [results,Tryz.results42,go_sem,z0,z1,z2,z3]) rfl (seenPost_some RES.out (below4 bz (Nat.le_refl _) _ _ _ _ _ _ _ _))
 ·have hpe:((p:Int) == (es.length:Int))=true:=by simp;omega
  have RES:Hid (seenL es key q=none):=by unfold Hid;rw [RES2.out,if_neg (fun h=>hpn h.1)]
  go_enter Tryz.func42,Tryz.ntmps42
  go_wp2_with fail
  refine (HP.out _ _ hr2).mono ?_
  rintro e w2 ⟨rfl,hb2⟩
  obtain ⟨z0,z1,z2,z3,f0,f1,f2,f3⟩:=(hz.below hb2).facts
  have bz:=hz1.trans (hb2.mono (by simp))
  clear hz hb2 hz1 hr2
  go_wp2
  exact bodyPost_ret (v:=.tuple #[.agg #[.string ⟨#[]⟩,.string ⟨#[]⟩,.int .i64 0,.bool false],.bool false]) (by simp [results,Tryz.results42,go_sem,z0,z1,z2,z3]) rfl (seenPost_none RES.out (below4 bz (Nat.le_refl _) _ _ _ _ _ _ _ _))
end Go.Proofs.YtmlmlemiidedcaaGreat
