import Derived.Test.YtmlmlemiidedcaaGreatG01
import Derived.BigQuiet
import Derived.Laws.Cover1
import Derived.Deep.RegionWith
import Derived.Deep.RegionHeld3
namespace Go.Proofs.YtmlmlemiidedcaaGreat
set_option maxHeartbeats 16000000
set_option maxRecDepth 100000
open Go.RowKit
theorem beq_kEq (a b:ByteArray):(a.toList == b.toList)=kEq a b:=by
 rw [Bool.eq_iff_iff,beq_iff_eq]
 unfold kEq
 rw [decide_eq_true_eq]
 exact ⟨ba_toList_inj,fun h=>by rw [h]⟩
theorem ahd_w1 {a b:Ent} (h:Op.bytesLess a.key.toList b.key.toList=true):true=ahd a b:=by
 have:kLt a.key b.key=true:=h
 simp [ahd,this]
theorem ahd_w2 {a b:Ent} (_h:¬ Op.bytesLess a.key.toList b.key.toList=true) (h2:a.key.toList=b.key.toList):decide (b.seq < a.seq)=ahd a b:=by
 have h3:=ba_toList_inj h2
 simp [ahd,h3,kLt_irrefl,kEq]
theorem ahd_w3 {a b:Ent} (h:¬ Op.bytesLess a.key.toList b.key.toList=true) (h2:¬ a.key.toList=b.key.toList):false=ahd a b:=by
 have h3:a.key≠b.key:=fun e=>h2 (by rw [e])
 have h4:kLt a.key b.key=false:=by simpa [kLt] using h
 simp [ahd,h3,h4,kEq]
theorem l3Ahead_any (a b:Ent) (w:World) :
 Calls Tryz.prog 116 #[.agg #[.string a.key,.string a.val,.int .i64 a.seq,.bool a.gone],.agg #[.string b.key,.string b.val,.int .i64 b.seq,.bool b.gone]] w fun e w'=>e=.returned (.bool (ahd a b))∧Below w.heap.size w w':=by
 go_enter Tryz.func116,Tryz.ntmps116
 go_wp2
 all_goals go_ret
 ·exact ⟨ret_bool (ahd_w1 ‹_›),below2 _ _ _⟩
 ·exact ⟨ret_bool (ahd_w2 ‹_› ‹_›),below2 _ _ _⟩
 ·exact ⟨ret_bool (ahd_w3 ‹_› ‹_›),below2 _ _ _⟩
theorem l1In_any (x lo hi:Int) (w:World) :
 Calls Tryz.prog 47 #[.int .i64 x,.int .i64 lo,.int .i64 hi] w fun e w'=>e=.returned (.bool (decide (lo≤x) && decide (x≤hi)))∧w'=w:=by
 go_enter Tryz.func47,Tryz.ntmps47
 go_wp2
 all_goals go_ret
 ·exact ⟨by simp_all,rfl⟩
 ·exact ⟨ret_bool (by rw [Bool.eq_iff_iff];simp;omega),rfl⟩
theorem empty_iff (s:ByteArray):s.toList=[]↔s.size=0:=by
 rw [ByteArray.toList_eq,List.eq_nil_iff_length_eq_zero,Array.length_toList]
 exact Iff.rfl
theorem okE_iff (a:Ent):okE a=true↔1≤(a.key.size:Int)∧(a.key.size:Int)≤40∧(a.val.size:Int)≤200∧(a.gone=true→a.val.size=0)∧1≤a.seq∧a.seq≤1000000:=by
 simp only [okE,Bool.and_eq_true,Bool.or_eq_true,Bool.not_eq_true',decide_eq_true_eq]
 generalize a.val.size=v
 generalize a.key.size=k
 cases a.gone<;>simp<;>omega
theorem l3Entry_any (a:Ent) (w:World) (hf:Fits a) :
 Calls Tryz.prog 115 #[.agg #[.string a.key,.string a.val,.int .i64 a.seq,.bool a.gone]] w fun e w'=>e=.returned (.bool (okE a))∧Below w.heap.size w w':=by
 obtain ⟨f1,f2,f3,f4⟩:=hf
 go_enter Tryz.func115,Tryz.ntmps115
 go_wp2_with (go_at_call 47;refine (l1In_any _ _ _ _).mono ?_;rintro e w' ⟨rfl,rfl⟩)
 all_goals go_ret
 all_goals refine ⟨ret_bool ?_,below1 _ _⟩
 all_goals rw [Bool.eq_iff_iff,okE_iff]
 all_goals simp_all [empty_iff]
 all_goals omega
theorem entryOk_any (a:Ent) (w:World) (hf:Fits a) :
 Calls Tryz.prog 107 #[.agg #[.string a.key,.string a.val,.int .i64 a.seq,.bool a.gone]] w fun e w'=>e=.returned (.bool (okE a))∧Below w.heap.size w w':=by
 obtain ⟨f1,f2,f3,f4⟩:=hf
 go_enter Tryz.func107,Tryz.ntmps107
 go_wp2
 all_goals go_ret
 all_goals refine ⟨ret_bool ?_,below1 _ _⟩
 all_goals rw [Bool.eq_iff_iff,okE_iff]
 all_goals simp_all [empty_iff]
 all_goals omega
theorem cmpK_w1 {a b:ByteArray} (h:Op.bytesLess a.toList b.toList=true) : -1=cmpK a b:=by
 have:kLt a b=true:=h
 simp [cmpK,this]
theorem cmpK_w2 {a b:ByteArray} (h:Op.bytesLess a.toList b.toList=false) (h2:¬ a.toList=b.toList):1=cmpK a b:=by
 have h3:kLt a b=false:=h
 have h4:kLt b a=true:=by
  cases h5:kLt b a with
  | true=>rfl
  | false=>exact absurd (congrArg ByteArray.toList (kLt_tri h3 h5)) h2
 simp [cmpK,h3,h4]
theorem cmpK_w3 {a b:ByteArray} (h2:a.toList=b.toList):0=cmpK a b:=by
 have:=ba_toList_inj h2
 subst this
 simp [cmpK,kLt_irrefl]
theorem isNaNs_any (s:ByteArray) (w:World):Calls Tryz.prog 148 #[.string s] w fun e w'=>e=.returned (.bool false)∧w'=w:=by
 go_enter Tryz.func148,Tryz.ntmps148
 go_wp2
 go_ret
 exact ⟨by simp,rfl⟩
theorem isNaNi_any (s:Int) (w:World):Calls Tryz.prog 149 #[.int .i64 s] w fun e w'=>e=.returned (.bool false)∧w'=w:=by
 go_enter Tryz.func149,Tryz.ntmps149
 go_wp2
 go_ret
 exact ⟨by simp,rfl⟩
theorem cmpStr_any (a b:ByteArray) (w:World):Calls Tryz.prog 131 #[.string a,.string b] w fun e w'=>e=.returned (.int .i64 (cmpK a b))∧w'=w:=by
 go_enter Tryz.func131,Tryz.ntmps131
 go_wp2_with (go_at_call 148;refine (isNaNs_any _ _).mono ?_;rintro e w' ⟨rfl,rfl⟩)
 all_goals go_ret
 ·exact ⟨ret_intE (cmpK_w1 ‹_›),rfl⟩
 ·exact ⟨ret_intE (cmpK_w2 ‹_› (by simp_all)),rfl⟩
 ·exact ⟨ret_intE (cmpK_w3 (by simp_all)),rfl⟩
theorem cmpInt_any (a b:Int) (w:World):Calls Tryz.prog 132 #[.int .i64 a,.int .i64 b] w fun e w'=>e=.returned (.int .i64 (cmpI a b))∧w'=w:=by
 go_enter Tryz.func132,Tryz.ntmps132
 go_wp2_with (go_at_call 149;refine (isNaNi_any _ _).mono ?_;rintro e w' ⟨rfl,rfl⟩)
 all_goals go_ret
 all_goals exact ⟨ret_intE (by unfold cmpI;first | rw [if_pos ‹_›] | (rw [if_neg (by omega)];first | rw [if_pos ‹_›] | rw [if_neg (by omega)])),rfl⟩
theorem cmpK_bd (a b:ByteArray) : -1≤cmpK a b∧cmpK a b≤1:=by unfold cmpK;split<;>(try split)<;>omega
theorem cmpI_bd (a b:Int) : -1≤cmpI a b∧cmpI a b≤1:=by unfold cmpI;split<;>(try split)<;>omega
theorem or_any (x y:Int) (b:Nat) (w:World) (h0:w.cell? ⟨b,0,none⟩=some (.int .i64 x)) (h1:w.cell? ⟨b,1,none⟩=some (.int .i64 y)) (bx : -1≤x∧x≤1) (hy1 : -1≤y∧y≤1) :
 Calls Tryz.prog 130 #[.slice (some ⟨b,0,none⟩) 2 2] w fun e w'=>e=.returned (.int .i64 (if x≠0 then x else y))∧w'=w:=by
 by_cases hx:x=0
 ·have hy':(if x≠0 then x else y)=y:=by simp [hx]
  rw [hy']
  clear hy'
  subst hx
  by_cases hy:y=0
  ·subst hy
   go_enter Tryz.func130,Tryz.ntmps130
   go_wp2
   refine wp_loop_rounds 3 ?_
   rw [rounds_succ]
   go_wp2
   rw [rounds_succ]
   go_wp2
   rw [rounds_succ]
   go_wp2
   go_ret
   exact ⟨rfl,rfl⟩
  ·have hy2:(y != 0)=true:=by simpa using hy
   go_enter Tryz.func130,Tryz.ntmps130
   go_wp2
   refine wp_loop_rounds 3 ?_
   rw [rounds_succ]
   go_wp2
   rw [rounds_succ]
   go_wp2
   go_ret
   exact ⟨rfl,rfl⟩
 ·have hx':(if x≠0 then x else y)=x:=by simp [hx]
  rw [hx']
  clear hx'
  have hx2:(x != 0)=true:=by simpa using hx
  go_enter Tryz.func130,Tryz.ntmps130
  go_wp2
  refine wp_loop_rounds 3 ?_
  rw [rounds_succ]
  go_wp2
  go_ret
  exact ⟨rfl,rfl⟩
open Go.RowKit
theorem tkA (i d:Nat) {P:Program} {ops:Array Oper} {Q:Exit→Act→World→Prop} {md:Region.Mode} {S:World→Prop} {oi:Oper} {v:Value} {fuel:Nat} {listed:Array Bool} {a:Act} {w:World} (hS:S w)
 (h:wpAnyH P md ops (NoPanic Q) S fuel (listed.setIfInBounds i true) (a.put (some d) v) w) (hi:ops[i]? = some oi:=by rfl) (hd:oi.dst=some d:=by rfl)
 (hs:Region.noSelect ops=true:=by kernel_rfl) (hf:Region.free md ops listed i=true:=by kernel_rfl) (hr:(Region.ready md ops listed).contains i=true:=by kernel_rfl) (hw:Region.wanted oi (yielded ops a.tmps)=true:=by kernel_rfl)
 (hy:∀ w,S w→(execOp a.eval oi).run P w=.ok (.value v) w:=by intro w hS;(try dsimp only [EntAt,Nat.zero_add] at hS);go_simp;(try with_reducible rfl)):wpAnyH P md ops (NoPanic Q) S (fuel+1) listed a w :=
 takeH hi hd hs hf hr (fun _ _ _ h=>h) (Or.inl ⟨hw,hy⟩) hS h
theorem kA (i d:Nat) {P:Program} {ops:Array Oper} {Q:Exit→Act→World→Prop} {md:Region.Mode} {S:World→Prop} {oi:Oper} {v:Value} {fuel:Nat} {listed:Array Bool} {a a':Act} {w:World} (hS:S w) (h:wpAnyH P md ops (NoPanic Q) S fuel (listed.setIfInBounds i true) a' w) (hi:ops[i]? = some oi:=by rfl) (hd:oi.dst=some d:=by rfl) (hs:Region.noSelect ops=true:=by kernel_rfl) (hf:Region.free md ops listed i=true:=by kernel_rfl) (hr:(Region.ready md ops listed).contains i=true:=by kernel_rfl) (hw:Region.wanted oi (yielded ops a.tmps)=true:=by kernel_rfl) (hy:∀ w,S w→(execOp a.eval oi).run P w=.ok (.value v) w:=by intro w hS;(try dsimp only [EntAt,Nat.zero_add] at hS);go_simp;(try with_reducible rfl)) (ha:a.put (some d) v=a':=by (try simp only [Act.put,sA,sZ,sS]);(try rfl)):wpAnyH P md ops (NoPanic Q) S (fuel+1) listed a w:=takeH hi hd hs hf hr (fun _ _ _ h=>h) (Or.inl ⟨hw,hy⟩) hS (ha ▸ h)
theorem l3Entry_yes (a:Ent) (w:World) (hf:Fits a) (h:okE a=true) :
 Calls Tryz.prog 115 #[.agg #[.string a.key,.string a.val,.int .i64 a.seq,.bool a.gone]] w fun e w'=>e=.returned (.bool true)∧Below w.heap.size w w':=by
 have:=l3Entry_any a w hf;rwa [h] at this
theorem l3Entry_no (a:Ent) (w:World) (hf:Fits a) (h:okE a=false) :
 Calls Tryz.prog 115 #[.agg #[.string a.key,.string a.val,.int .i64 a.seq,.bool a.gone]] w fun e w'=>e=.returned (.bool false)∧Below w.heap.size w w':=by
 have:=l3Entry_any a w hf;rwa [h] at this
theorem specEntriesOk_any (v:Value) (es:List Ent) (w:World) (hr:RdE w v es) (hf:∀ e∈es,Fits e) :
 Calls Tryz.prog 84 #[v] w fun e w'=>e=.returned (.bool (okL es))∧Below w.heap.size w w':=by
 obtain ⟨a,cap,hv,hl,hm,_⟩:=id hr
 unfold maxLen at hm
 subst hv
 have HF:Hid (∀ e∈es,Fits e):=hf
 clear hf
 by_cases hbig:300 < es.length
 ·go_enter Tryz.func84,Tryz.ntmps84
  go_wp2
  go_ret
  exact ⟨ret_bool (by simp [okL];omega),Below.refl _ _⟩
 ·go_enter Tryz.func84,Tryz.ntmps84
  go_wp2
  go_loopw [3] (fun i wr=>∃ k:Nat,k≤es.length∧i=.int .i64 k∧Hid (okTo es k=true)∧Below w.heap.size w wr) (fun i _=>es.length - (intOf i).toNat)
  case atStart=>exact ⟨0,Nat.zero_le _,rfl,rfl,Below.refl _ _⟩
  case round =>
   obtain ⟨k,hk,rfl,HO,hb⟩:=hrel
   by_cases hlt:k < es.length
   ·obtain ⟨b,off,rfl,hc⟩:=hr.at rfl k hlt
    have hc2:=hc.below hb
    have hlt2:=hc2.lt
    obtain ⟨c0,c1,c2,c3⟩:=hc2
    have hfk:=HF.out _ (List.getElem_mem hlt)
    rw [← nth_eq hlt] at hfk
    obtain ⟨x,hx⟩:∃ x,x=nth es k:=⟨_,rfl⟩
    rw [← hx] at c0 c1 c2 c3 hfk
    have HX:Hid (x=nth es k):=hx
    clear hx hc
    cases hok:okE x with
    | false =>
     have RES:Hid (okL es=false):=okL_no_at hlt (by unfold okAt;rw [← HX.out,hok];rfl)
     go_wp2_with fail
     refine wp_region_noPanic ?_
     refine wp_region_held_drew (S:=fun w'=>EntAt w' b (off+k*4) x) (by kernel_rfl) ⟨c0,c1,c2,c3⟩ (fun hH=>?_)
     refine kA 0 13 hH ?_
     refine kA 1 14 hH ?_
     refine kA 2 15 hH ?_
     refine kA 3 16 hH ?_
     refine wpAnyH_ready (rs:=[4]) (by kernel_rfl) (by simp) ?_
     refine AllReadyH.cons rfl (fun K hK=>?_) AllReadyH.nil
     go_simp
     refine (l3Entry_no x _ hfk hok).mono ?_
     rintro e w' ⟨rfl,hb'⟩
     refine hK.out _ _ (hH.below hb') (fun hA=>?_)
     clear hK K
     try simp only [Act.put,sA,sZ,sS]
     refine kA 5 18 hA ?_
     refine kA 6 19 hA ?_
     refine kS 7 20 hA ?_
     refine kS 8 21 hA ?_
     refine kS 9 22 hA ?_
     refine kS 10 23 hA ?_
     refine kS 11 24 hA ?_
     refine kS 12 25 hA ?_
     refine kS 13 26 hA ?_
     refine kS 14 27 hA ?_
     refine kS 15 28 hA ?_
     refine kS 16 29 hA ?_
     refine kS 17 30 hA ?_
     refine kS 18 31 hA ?_
     refine kS 19 32 hA ?_
     refine kS 20 33 hA ?_
     refine kS 21 34 hA ?_
     refine kA 22 35 hA ?_
     refine wpAnyH_done (by kernel_rfl) ?_ _
     refine NoPanic.normal ?_
     go_wp2
     go_ret
     exact ⟨ret_bool RES.out.symm,hb.drew.trans (hb'.mono hb.size)⟩
    | true =>
     by_cases hk0:k=0
     ·skip
      have HO2:Hid (okTo es (k+1)=true):=by
       show _=_
       rw [okTo_succ,HO.out];unfold okAt;rw [← HX.out,hok];simp [hk0]
      have hkn:decide (0 < k)=false:=by simpa using hk0
      clear hk0
      go_wp2_with fail
      refine wp_region_noPanic ?_
      refine wp_region_held_drew (S:=fun w'=>EntAt w' b (off+k*4) x) (by kernel_rfl) ⟨c0,c1,c2,c3⟩ (fun hH=>?_)
      refine kA 0 13 hH ?_
      refine kA 1 14 hH ?_
      refine kA 2 15 hH ?_
      refine kA 3 16 hH ?_
      refine wpAnyH_ready (rs:=[4]) (by kernel_rfl) (by simp) ?_
      refine AllReadyH.cons rfl (fun K hK=>?_) AllReadyH.nil
      go_simp
      refine (l3Entry_yes x _ hfk hok).mono ?_
      rintro e w' ⟨rfl,hb'⟩
      refine hK.out _ _ (hH.below hb') (fun hA=>?_)
      clear hK K
      try simp only [Act.put,sA,sZ,sS]
      refine kA 5 18 hA ?_
      refine kA 6 19 hA ?_
      refine kA 7 20 hA ?_
      refine kA 8 21 hA ?_
      refine kA 9 22 hA ?_
      refine kS 10 23 hA ?_
      refine kS 11 24 hA ?_
      refine kS 12 25 hA ?_
      refine kS 13 26 hA ?_
      refine kS 14 27 hA ?_
      refine kS 15 28 hA ?_
      refine kS 16 29 hA ?_
      refine kS 17 30 hA ?_
      refine kS 18 31 hA ?_
      refine kS 19 32 hA ?_
      refine kS 20 33 hA ?_
      refine kA 21 34 hA ?_
      refine kA 22 35 hA ?_
      refine wpAnyH_done (by kernel_rfl) ?_ _
      refine NoPanic.normal ?_
      go_wp2
      go_roundw
      case rel=>exact ⟨k+1,by omega,by go_num,HO2,hb.drew.trans (hb'.mono hb.size)⟩
      case measure=>simp [intOf];omega
     ·skip
      obtain ⟨b2,off2,ha2,hd⟩:=hr.at rfl (k - 1) (by omega)
      simp only [Option.some.injEq,Addr.mk.injEq] at ha2
      obtain ⟨rfl,rfl,_⟩:=ha2
      have hd2:=hd.below hb
      obtain ⟨d0,d1,d2,d3⟩:=hd2
      obtain ⟨y,hy⟩:∃ y,y=nth es (k - 1):=⟨_,rfl⟩
      rw [← hy] at d0 d1 d2 d3
      have HY:Hid (y=nth es (k - 1)):=hy
      clear hy hd
      obtain ⟨j,hj⟩:∃ j,j=k - 1:=⟨k - 1,rfl⟩
      rw [← hj] at d0 d1 d2 d3
      have HJ:Hid (j=k - 1):=hj
      have hkj:(k:Int) - 1=(j:Int):=by omega
      have hkp:decide (0 < k)=true:=by simp;omega
      have hbn:b < wr.drew.heap.size:=hlt2
      have hj1:(j:Int) < (es.length:Int):=by omega
      have hj0:(0:Int)≤(j:Int):=by omega
      have hjn:j < es.length:=by omega
      have hwr:IntKind.i64.wrap (j:Int)=(j:Int):=by rw [IntKind.wrap_i64];omega
      have hk1:(k:Int) < (es.length:Int):=by omega
      clear hj hk0
      go_wp2_with fail
      go_region_held3 (fun w'=>w'.cell? ⟨b,off+k*4,none⟩=some (.string x.key)∧w'.cell? ⟨b,off+k*4+1,none⟩=some (.string x.val)∧w'.cell? ⟨b,off+k*4+2,none⟩=some (.int .i64 x.seq)∧w'.cell? ⟨b,off+k*4+3,none⟩=some (.bool x.gone) ∧
       w'.cell? ⟨b,off+j*4,none⟩=some (.string y.key)∧w'.cell? ⟨b,off+j*4+1,none⟩=some (.string y.val)∧w'.cell? ⟨b,off+j*4+2,none⟩=some (.int .i64 y.seq)∧w'.cell? ⟨b,off+j*4+3,none⟩=some (.bool y.gone)) (go_keep)
       (first
        | (go_at_call 115;refine (l3Entry_yes x _ hfk hok).mono ?_;rintro e w1 ⟨rfl,hb1⟩;have hcc1:∀ o,w1.cell? ⟨b,o,none⟩=wr.cell? ⟨b,o,none⟩:=fun o=>(bcell hb1).1 b o (by simpa using hlt2);have hz1:b < w1.heap.size:=by have:=hb1.size;simp at this;omega)
        | (go_at_call 116;refine (l3Ahead_any y x _).mono ?_;rintro e w2 ⟨rfl,hb2⟩;have hcc2:∀ o,w2.cell? ⟨b,o,none⟩=wr.cell? ⟨b,o,none⟩:=fun o=>((bcell hb2).1 b o hz1).trans (hcc1 o)))
      have bz:=(hb.drew.trans (hb1.mono hb.size)).trans (hb2.mono (by have:=hb.size;have:=hb1.size;simp at this;omega))
      cases hah:ahd y x with
      | false =>
       have RES:Hid (okL es=false):=okL_no_at hlt (by unfold okAt;rw [← HX.out,← HY.out,hok,hah];simp;omega)
       go_wp2
       go_ret
       exact ⟨ret_bool RES.out.symm,bz⟩
      | true =>
       have HO2:Hid (okTo es (k+1)=true):=by
        show _=_
        rw [okTo_succ,HO.out];unfold okAt;rw [← HX.out,← HY.out,hok,hah];simp
       go_wp2
       go_roundw
       case rel=>exact ⟨k+1,by omega,by go_num,HO2,bz⟩
       case measure=>simp [intOf];omega
   ·have hke:k=es.length:=by omega
    subst hke
    go_wp2
    go_ret
    exact ⟨ret_bool (by simp [okL,HO.out];omega),hb⟩
open Go.RowKit
def SeenPost (w:World) (o:Option Ent) (e:Ending) (w':World):Prop :=
 e=.returned (.tuple #[.agg #[.string (o.getD zeroE).key,.string (o.getD zeroE).val,.int .i64 (o.getD zeroE).seq,.bool (o.getD zeroE).gone],.bool o.isSome])∧Below w.heap.size w w'
theorem seenPost_some {w w':World} {o:Option Ent} {x:Ent} (ho:o=some x) (hb:Below w.heap.size w w'):SeenPost w o (.returned (.tuple #[.agg #[.string x.key,.string x.val,.int .i64 x.seq,.bool x.gone],.bool true])) w':=by
 subst ho;exact ⟨rfl,hb⟩
theorem seenPost_none {w w':World} {o:Option Ent} (ho:o=none) (hb:Below w.heap.size w w'):SeenPost w o (.returned (.tuple #[.agg #[.string ⟨#[]⟩,.string ⟨#[]⟩,.int .i64 0,.bool false],.bool false])) w':=by
 subst ho;exact ⟨rfl,hb⟩
theorem l3Seen_any (v:Value) (es:List Ent) (key:ByteArray) (q:Int) (w:World) (hr:RdE w v es) :
 Calls Tryz.prog 49 #[v,.string key,.int .i64 q] w fun e w'=>SeenPost w (seenL es key q) e w':=by
 obtain ⟨a,cap,hv,hl,hm,_⟩:=id hr
 unfold maxLen at hm
 subst hv
 go_enter Tryz.func49,Tryz.ntmps49
 go_wp2
 go_loop [8] (fun i=>∃ k:Nat,k≤es.length∧i=.int .i64 k∧Hid (∀ j,j < k→seenP key q (nth es j)=false)) (fun i=>es.length - (intOf i).toNat)
 case atStart=>exact ⟨0,Nat.zero_le _,rfl,fun j hj=>absurd hj (Nat.not_lt_zero _)⟩
 case round =>
  obtain ⟨k,hk,rfl,HO⟩:=hrel
  by_cases hlt:k < es.length
  ·obtain ⟨b,off,rfl,hc⟩:=hr.at rfl k hlt
   have hlt2:=hc.lt
   obtain ⟨c0,c1,c2,c3⟩:=hc
   obtain ⟨x,hx⟩:∃ x,x=nth es k:=⟨_,rfl⟩
   rw [← hx] at c0 c1 c2 c3
   have HX:Hid (x=nth es k):=hx
   clear hx
   have KB:=beq_kEq x.key key
   cases hke:kEq x.key key with
   | false =>
    rw [hke] at KB
    have HO2:Hid (∀ j,j < k+1→seenP key q (nth es j)=false):=by
     intro j hj
     by_cases hjk:j=k
     ·subst hjk;rw [← HX.out];simp [seenP,hke]
     ·exact HO.out j (by omega)
    go_wp2
    go_round
    case rel=>exact ⟨k+1,by omega,by go_num,HO2⟩
    case measure=>simp [intOf];omega
   | true =>
    rw [hke] at KB
    by_cases hq:x.seq≤q
    ·have RES:Hid (seenL es key q=some x):=by
      show _=_
      rw [seenL_scan es key q k hlt HO.out (by rw [← HX.out];simp [seenP,hke,hq]),← HX.out]
     go_wp2
     exact bodyPost_ret (v:=.tuple #[.agg #[.string x.key,.string x.val,.int .i64 x.seq,.bool x.gone],.bool true]) (by simp [results,Tryz.results49,go_sem]) rfl (seenPost_some RES.out (below1 _ _))
    ·have HO2:Hid (∀ j,j < k+1→seenP key q (nth es j)=false):=by
      intro j hj
      by_cases hjk:j=k
      ·subst hjk;rw [← HX.out];simp [seenP,hq]
      ·exact HO.out j (by omega)
     go_wp2
     go_round
     case rel=>exact ⟨k+1,by omega,by go_num,HO2⟩
     case measure=>simp [intOf];omega
  ·have hke:k=es.length:=by omega
   subst hke
   have RES:Hid (seenL es key q=none):=seenL_none es key q HO.out
   go_wp2
   exact bodyPost_ret (v:=.tuple #[.agg #[.string ⟨#[]⟩,.string ⟨#[]⟩,.int .i64 0,.bool false],.bool false]) (by simp [results,Tryz.results49,go_sem]) rfl (seenPost_none RES.out (below1 _ _))
theorem specOk_yes (v:Value) (es:List Ent) (w:World) (hr:RdE w v es) (hf:∀ e∈es,Fits e) (h:okL es=true) :
 Calls Tryz.prog 84 #[v] w fun e w'=>e=.returned (.bool true)∧Below w.heap.size w w':=by
 have:=specEntriesOk_any v es w hr hf;rwa [h] at this
theorem specOk_no (v:Value) (es:List Ent) (w:World) (hr:RdE w v es) (hf:∀ e∈es,Fits e) (h:okL es=false) :
 Calls Tryz.prog 84 #[v] w fun e w'=>e=.returned (.bool false)∧Below w.heap.size w w':=by
 have:=specEntriesOk_any v es w hr hf;rwa [h] at this
def BoxAt (w:World) (b:Nat) (x:Ent):Prop:=EntAt w b 0 x∧∀ o,w.frozen? ⟨b,o,none⟩=false
theorem BoxAt.below {w w':World} {b:Nat} {x:Ent} (h:BoxAt w b x) (hb:Below w.heap.size w w'):BoxAt w' b x :=
 ⟨h.1.below hb,fun o=>((bcell hb).2 b o h.1.lt).trans (h.2 o)⟩
theorem box_zero (w:World) (t:TypeId):BoxAt (w.alloc (.cells #[.string ⟨#[]⟩,.string ⟨#[]⟩,.int .i64 0,.bool false] t)) w.heap.size zeroE :=
 ⟨⟨by simp [zeroE],by simp [zeroE],by simp [zeroE],by simp [zeroE]⟩,fun o=>by simp⟩
theorem BoxAt.facts {w:World} {b:Nat} {x:Ent} (h:BoxAt w b x):w.cell? ⟨b,0,none⟩=some (.string x.key)∧w.cell? ⟨b,1,none⟩=some (.string x.val)∧w.cell? ⟨b,2,none⟩=some (.int .i64 x.seq)∧w.cell? ⟨b,3,none⟩=some (.bool x.gone) ∧
 w.frozen? ⟨b,0,none⟩=false∧w.frozen? ⟨b,1,none⟩=false∧w.frozen? ⟨b,2,none⟩=false∧w.frozen? ⟨b,3,none⟩=false:=by
 obtain ⟨⟨h0,h1,h2,h3⟩,hf⟩:=h
 simp only [Nat.zero_add] at h1 h2 h3
 exact ⟨h0,h1,h2,h3,hf 0,hf 1,hf 2,hf 3⟩
theorem l3Seen_at (v:Value) (es:List Ent) (key:ByteArray) (q:Int) (x:Ent) (s:Bool) (w:World) (hr:RdE w v es) (hx:(seenL es key q).getD zeroE=x) (hs:(seenL es key q).isSome=s) :
 Calls Tryz.prog 49 #[v,.string key,.int .i64 q] w fun e w'=>e=.returned (.tuple #[.agg #[.string x.key,.string x.val,.int .i64 x.seq,.bool x.gone],.bool s])∧Below w.heap.size w w':=by
 have:=l3Seen_any v es key q w hr
 unfold SeenPost at this
 rwa [hx,hs] at this
theorem below4 {B:Nat} {w0 w:World} (h:Below B w0 w) {g:Nat} (hg:B≤g) (a b c d:Value) (i j k l:Nat):Below B w0 ((((w.setCell ⟨g,i,none⟩ a).setCell ⟨g,j,none⟩ b).setCell ⟨g,k,none⟩ c).setCell ⟨g,l,none⟩ d) :=
 (((h.setCell (by exact hg) _).setCell (by exact hg) _).setCell (by exact hg) _).setCell (by exact hg) _
end Go.Proofs.YtmlmlemiidedcaaGreat
