import Derived.Test.YtmlmlemiidedcaaGreatG29
import Derived.Test.YtmlmlemiidedcaaGreatG31
import Derived.Lib.AppendZeros
namespace Go.Proofs.YtmlmlemiidedcaaGreat
set_option maxHeartbeats 16000000
set_option maxRecDepth 100000
open Go.RowKit
def aheadOf (ss:List Int) (k:Nat):Int:=if k=0 then -1 else ss.getD (k - 1) 0
theorem snapAt_no1 {seq:Int} {ss:List Int} {k:Nat} {x p:Int} (hx:ss.getD k 0=x) (hp:p=aheadOf ss k) (h:x≤p):snapAt seq ss k=false:=by
 unfold snapAt
 rw [hx]
 unfold aheadOf at hp
 by_cases hk:k=0
 ·rw [if_pos hk] at hp
  rw [decide_eq_false (show ¬ (0:Int)≤x by omega)];rfl
 ·rw [if_neg hk] at hp
  rw [decide_eq_false hk,decide_eq_false (show ¬ ss.getD (k - 1) 0 < x by omega)];simp
theorem snapAt_no2 {seq:Int} {ss:List Int} {k:Nat} {x:Int} (hx:ss.getD k 0=x) (h:seq < x):snapAt seq ss k=false:=by
 unfold snapAt
 rw [hx,decide_eq_false (show ¬ x≤seq by omega)];simp
theorem snapAt_yes {seq:Int} {ss:List Int} {k:Nat} {x p:Int} (hx:ss.getD k 0=x) (hp:p=aheadOf ss k) (h0 : -1≤p) (h:¬ x≤p) (h2:¬ seq < x):snapAt seq ss k=true:=by
 unfold snapAt
 rw [hx,decide_eq_true (show (0:Int)≤x by omega),decide_eq_true (show x≤seq by omega)]
 unfold aheadOf at hp
 by_cases hk:k=0
 ·rw [decide_eq_true hk];rfl
 ·rw [if_neg hk] at hp
  rw [decide_eq_true (show ss.getD (k - 1) 0 < x by omega)];simp
theorem implSnaps_any (v:Value) (ss:List Int) (seq:Int) (w:World) (hr:RdI w v ss) :
 Calls Tryz.prog 72 #[v,.int .i64 seq] w fun e w'=>e=.returned (.bool (decide (ss.length≤10) && snapsOk seq ss))∧Below w.heap.size w w':=by
 obtain ⟨a,cap,hv,hl,hm,_⟩:=id hr
 obtain ⟨nn,hnn⟩:∃ nn,nn=ss.length:=⟨_,rfl⟩
 have HNN:Hid (nn=ss.length):=hnn
 rw [← hnn] at hv hl ⊢
 subst hv
 unfold maxLen at hm
 clear hnn
 by_cases h10:10 < nn
 ·have RES:Hid ((decide (nn≤10) && snapsOk seq ss)=false):=by unfold Hid;rw [decide_eq_false (show ¬ nn≤10 by omega)];rfl
  have h10i:(10:Int) < (nn:Int):=by omega
  go_enter Tryz.func72,Tryz.ntmps72
  go_wp2
  go_ret
  exact ⟨ret_bool RES.out.symm,Below.refl _ _⟩
 ·have h10i:¬ (10:Int) < (nn:Int):=by omega
  have RES:Hid ((decide (nn≤10) && snapsOk seq ss)=snapsOk seq ss):=by unfold Hid;rw [decide_eq_true (show nn≤10 by omega)];rfl
  rw [RES.out]
  clear RES
  go_enter Tryz.func72,Tryz.ntmps72
  go_wp2
  go_loopw [5,13] (fun ah i wr=>∃ (k:Nat) (p:Int),k≤nn∧i=.int .i64 k∧ah=.int .i64 p∧-1≤p∧Hid (p=aheadOf ss k)∧Hid (∀ j,j < k→snapAt seq ss j=true)∧Below w.heap.size w wr) (fun _ i _=>nn - (intOf i).toNat)
  case atStart=>exact ⟨0,-1,Nat.zero_le _,rfl,rfl,by omega,rfl,(fun j h=>by omega),Below.refl _ _⟩
  case round =>
   obtain ⟨k,p,hk,rfl,rfl,hp1,HP,HH,hb⟩:=hrel
   by_cases hlt:k < nn
   ·have hkl:k < ss.length:=by rw [← HNN.out];exact hlt
    obtain ⟨b,off,rfl,hc⟩:=(hr.below hb).at k hkl
    obtain ⟨x,hxx⟩:∃ x,x=ss[k]:=⟨_,rfl⟩
    rw [← hxx] at hc
    have hgx:ss.getD k 0=x:=by rw [hxx];exact getD_at hkl
    have hkc:k < cap:=by omega
    by_cases h1:x≤p
    ·skip
     have RES:Hid (snapsOk seq ss=false):=snaps_no hkl (snapAt_no1 hgx HP.out h1)
     clear hxx hgx hkl HH
     go_wp2
     go_ret
     exact ⟨ret_bool RES.out.symm,hb⟩
    ·by_cases h2:seq < x
     ·skip
      have RES:Hid (snapsOk seq ss=false):=snaps_no hkl (snapAt_no2 hgx h2)
      clear hxx hgx hkl HH
      go_wp2
      go_ret
      exact ⟨ret_bool RES.out.symm,hb⟩
     ·skip
      have HH2:Hid (∀ j,j < k+1→snapAt seq ss j=true):=fun j hj=>by
       by_cases e:j=k
       ·rw [e];exact snapAt_yes hgx HP.out hp1 h1 h2
       ·exact HH.out j (by omega)
      have HP2:Hid (x=aheadOf ss (k+1)):=by unfold Hid aheadOf;rw [if_neg (by omega)];exact hgx.symm
      clear hxx hgx hkl HH HP
      go_wp2
      go_roundw
      case rel=>exact ⟨k+1,x,by omega,by go_num,rfl,by omega,HP2,HH2,hb⟩
      case measure=>simp [intOf];omega
   ·skip
    have RES:Hid (snapsOk seq ss=true):=snaps_yes (fun i hi=>HH.out i (by have:=HNN.out;omega))
    go_wp2
    go_ret
    exact ⟨ret_bool RES.out.symm,hb⟩
theorem isNewer_any (vm vl:Value) (mem l:List Ent) (w:World) (hm:RdE w vm mem) (hl:RdE w vl l) (hok:okL l=true) :
 Calls Tryz.prog 76 #[vm,vl] w fun e w'=>e=.returned (.bool (newIn mem l))∧Below w.heap.size w w':=by
 obtain ⟨a,cap,hv,hla,hma,_⟩:=id hm
 obtain ⟨nn,hnn⟩:∃ nn,nn=mem.length:=⟨_,rfl⟩
 have HNN:Hid (nn=mem.length):=hnn
 rw [← hnn] at hv hla
 subst hv
 unfold maxLen at hma
 have HS:Hid (∀ key W,RdE W vl l→Calls Tryz.prog 42 #[vl,.string key,.int .i64 1000000] W fun e w'=>SeenPost W (seenL l key 1000000) e w'):=fun key W h=>seenIn_any vl l key 1000000 W h hok
 clear hnn
 go_enter Tryz.func76,Tryz.ntmps76
 go_wp2
 go_loopw [11] (fun i wr=>∃ k:Nat,k≤nn∧i=.int .i64 k∧Hid (∀ j,j < k→newAt l (nth mem j)=true)∧Below w.heap.size w wr) (fun i _=>nn - (intOf i).toNat)
 case atStart=>exact ⟨0,Nat.zero_le _,rfl,(fun j h=>by omega),Below.refl _ _⟩
 case round =>
  obtain ⟨k,hk,rfl,HH,hb⟩:=hrel
  by_cases hlt:k < nn
  ·have hkl:k < mem.length:=by rw [← HNN.out];exact hlt
   obtain ⟨b,off,rfl,hc⟩:=(hm.below hb).at HNN.out k hkl
   obtain ⟨x,hx⟩:∃ x,x=nth mem k:=⟨_,rfl⟩
   rw [← hx] at hc
   obtain ⟨c0,c1,c2,c3⟩:=id hc
   have hkc:k < cap:=by omega
   have hbx:=entAt_boxS wr x 50
   have b1:=below1 wr (.cells #[.string x.key,.string x.val,.int .i64 x.seq,.bool x.gone] 50)
   have bw1:=hb.trans (b1.mono hb.size)
   have HC:Hid (Calls _ _ _ _ _):=HS.out x.key _ (hl.below bw1)
   have HN:Hid (seenL l x.key 1000000=none→newAt l (nth mem k)=true):=fun h=>by rw [← hx];exact newAt_none h
   have HY:Hid (∀ y,seenL l x.key 1000000=some y→newAt l (nth mem k)=decide (y.seq < x.seq)):=fun y h=>by rw [← hx];exact newAt_some h
   have HX:Hid (newAt l (nth mem k)=false→newIn mem l=false):=fun h=>newIn_no hkl h
   clear hx hkl
   generalize seenL l x.key 1000000=o at HC HN HY
   cases o with
   | none =>
    have HH2:Hid (∀ j,j < k+1→newAt l (nth mem j)=true):=fun j hj=>by
     by_cases e:j=k
     ·rw [e];exact HN.out rfl
     ·exact HH.out j (by omega)
    go_wp2_with fail
    refine HC.out.mono ?_
    rintro e w2 ⟨he,hb2⟩
    obtain rfl:e=.returned (.tuple #[.agg #[.string ⟨#[]⟩,.string ⟨#[]⟩,.int .i64 0,.bool false],.bool false]):=he
    have hx2:=hbx.below hb2
    have b2:=bw1.trans (hb2.mono bw1.size)
    obtain ⟨d0,d1,d2,d3⟩:=id hx2
    clear HC HN HY HX hbx b1 bw1 c0 c1 c2 c3 hc hb hb2
    go_wp2
    go_roundw
    case rel=>exact ⟨k+1,by omega,by go_num,HH2,b2.alloc b2.size _⟩
    case measure=>simp [intOf];omega
   | some y =>
    by_cases hlt2:y.seq < x.seq
    ·skip
     have HH2:Hid (∀ j,j < k+1→newAt l (nth mem j)=true):=fun j hj=>by
      by_cases e:j=k
      ·rw [e,HY.out y rfl];exact decide_eq_true hlt2
      ·exact HH.out j (by omega)
     go_wp2_with fail
     refine HC.out.mono ?_
     rintro e w2 ⟨he,hb2⟩
     obtain rfl:e=.returned (.tuple #[.agg #[.string y.key,.string y.val,.int .i64 y.seq,.bool y.gone],.bool true]):=he
     have hx2:=hbx.below hb2
     have b2:=bw1.trans (hb2.mono bw1.size)
     have bb3:=below1 w2 (.cells #[.string y.key,.string y.val,.int .i64 y.seq,.bool y.gone] 50)
     obtain ⟨d0,d1,d2,d3⟩:=hx2.below bb3
     obtain ⟨e0,e1,e2,e3⟩:=entAt_boxS w2 y 50
     have hge:¬ x.seq≤y.seq:=by omega
     clear HC HN HY HX hbx b1 bw1 c0 c1 c2 c3 hc hb hb2 bb3
     go_wp2
     go_roundw
     case rel=>exact ⟨k+1,by omega,by go_num,HH2,b2.alloc b2.size _⟩
     case measure=>simp [intOf];omega
    ·skip
     have RES:Hid (newIn mem l=false):=HX.out (by rw [HY.out y rfl];exact decide_eq_false hlt2)
     go_wp2_with fail
     refine HC.out.mono ?_
     rintro e w2 ⟨he,hb2⟩
     obtain rfl:e=.returned (.tuple #[.agg #[.string y.key,.string y.val,.int .i64 y.seq,.bool y.gone],.bool true]):=he
     have hx2:=hbx.below hb2
     have b2:=bw1.trans (hb2.mono bw1.size)
     have bb3:=below1 w2 (.cells #[.string y.key,.string y.val,.int .i64 y.seq,.bool y.gone] 50)
     obtain ⟨d0,d1,d2,d3⟩:=hx2.below bb3
     obtain ⟨e0,e1,e2,e3⟩:=entAt_boxS w2 y 50
     have hge:x.seq≤y.seq:=by omega
     clear HC HN HY HX hbx b1 bw1 c0 c1 c2 c3 hc hb hb2 bb3
     go_wp2
     go_ret
     exact ⟨ret_bool RES.out.symm,b2.alloc b2.size _⟩
  ·skip
   have RES:Hid (newIn mem l=true):=newIn_yes (fun i hi=>HH.out i (by have:=HNN.out;omega))
   go_wp2
   go_ret
   exact ⟨ret_bool RES.out.symm,hb⟩
theorem past_no {ls:List (List Ent)} {k:Nat} {l:List Ent} {q:Int} (h:ls[k]? = some l) {i:Nat} (hi:i < l.length) (hn:q < (nth l i).seq):past ls q=false:=by
 unfold past
 rw [List.all_eq_false]
 refine ⟨l,List.mem_of_getElem? h,?_⟩
 rw [top_no hi (by omega)];simp
theorem past_yes {ls:List (List Ent)} {q:Int} (h:∀ (k:Nat) (l:List Ent),ls[k]? = some l→∀ i,i < l.length→(nth l i).seq≤q):past ls q=true:=by
 unfold past
 rw [List.all_eq_true]
 intro l hl
 obtain ⟨k,hk,rfl⟩:=List.getElem_of_mem hl
 exact top_yes (h k _ (List.getElem?_eq_getElem hk))
theorem noneIsPast_any (v:Value) (ps:List (Value×List Ent)) (seq:Int) (w:World) (hp:Pieces w v ps) :
 Calls Tryz.prog 77 #[v,.int .i64 seq] w fun e w'=>e=.returned (.bool (past (ps.map (·.2)) seq))∧Below w.heap.size w w':=by
 obtain ⟨a,cap,hv,hla,hma,hat⟩:=hp.at
 obtain ⟨ls,hls⟩:∃ ls,ls=ps.map (·.2):=⟨_,rfl⟩
 have hln:ls.length=ps.length:=by rw [hls,List.length_map]
 rw [← hls] at hat ⊢
 obtain ⟨nn,hnn⟩:∃ nn,nn=ps.length:=⟨_,rfl⟩
 rw [← hnn] at hv hla hat hln
 have AT:Hid (∀ k,k < nn→_):=hat
 have HLN:Hid (ls.length=nn):=hln
 unfold maxLen at hma
 subst hv
 clear hat hln hnn hls hp
 go_enter Tryz.func77,Tryz.ntmps77
 go_wp2
 go_loopw [11] (fun i wr=>∃ k:Nat,k≤nn∧i=.int .i64 k∧Hid (∀ (j:Nat) (l:List Ent),j < k→ls[j]? = some l→∀ i,i < l.length→(nth l i).seq≤seq)∧Below w.heap.size w wr) (fun i _=>nn - (intOf i).toNat)
 case atStart=>exact ⟨0,Nat.zero_le _,rfl,(fun j l h=>absurd h (Nat.not_lt_zero _)),Below.refl _ _⟩
 case round =>
  obtain ⟨k,hk,rfl,HH,hb⟩:=hrel
  by_cases hlt:k < nn
  ·obtain ⟨b,off,aa,zn,cc,zs,rfl,hc,hrz,hlz⟩:=AT.out k hlt wr hb
   have HLZ:Hid (ls[k]? = some zs):=hlz
   have hkc:k < cap:=by omega
   obtain ⟨a2,c2,hv2,hl2,hm2,_⟩:=id hrz
   simp only [Value.slice.injEq] at hv2
   obtain ⟨e1,e2,e3⟩:=hv2
   have HZN:Hid (zn=zs.length):=e2
   subst e1
   subst e3
   rw [← e2] at hl2
   unfold maxLen at hm2
   clear hlz e2
   go_wp2
   go_loopw [17] (fun i wr2=>∃ j:Nat,j≤zn∧i=.int .i64 j∧Hid (∀ i,i < j→(nth zs i).seq≤seq)∧Below wr.heap.size wr wr2) (fun i _=>zn - (intOf i).toNat)
   case atStart=>exact ⟨0,Nat.zero_le _,rfl,(fun j h=>by omega),Below.refl _ _⟩
   case round =>
    obtain ⟨j,hj,rfl,HJ,hb2⟩:=hrel
    by_cases hlj:j < zn
    ·have hjl:j < zs.length:=by rw [← HZN.out];exact hlj
     obtain ⟨b2,off2,rfl,hc2⟩:=(hrz.below hb2).at HZN.out j hjl
     obtain ⟨y,hy⟩:∃ y,y=nth zs j:=⟨_,rfl⟩
     rw [← hy] at hc2
     obtain ⟨d0,d1,d2,d3⟩:=id hc2
     have hjc:j < cc:=by omega
     by_cases hgt:seq < y.seq
     ·skip
      have RES:Hid (past ls seq=false):=past_no HLZ.out hjl (by rw [← hy];exact hgt)
      clear hy hjl
      go_wp2
      go_ret
      exact ⟨ret_bool RES.out.symm,(hb.trans (hb2.mono hb.size)).alloc (hb.trans (hb2.mono hb.size)).size _⟩
     ·skip
      have HJ2:Hid (∀ i,i < j+1→(nth zs i).seq≤seq):=fun i hi=>by
       by_cases e:i=j
       ·rw [e,← hy];omega
       ·exact HJ.out i (by omega)
      clear hy hjl HJ
      go_wp2
      go_roundw
      case rel=>exact ⟨j+1,by omega,by go_num,HJ2,hb2.alloc hb2.size _⟩
      case measure=>simp [intOf];omega
    ·skip
     have HH2:Hid (∀ (i:Nat) (l:List Ent),i < k+1→ls[i]? = some l→∀ i,i < l.length→(nth l i).seq≤seq):=fun i l hi hl=>by
      by_cases e:i=k
      ·rw [e,HLZ.out] at hl
       rw [← Option.some.inj hl]
       exact fun i hi=>HJ.out i (by have:=HZN.out;omega)
      ·exact HH.out i l (by omega) hl
     have b3:=hb.trans (hb2.mono hb.size)
     clear HJ HH hb hb2
     go_wp2
     go_roundw
     case rel=>exact ⟨k+1,by omega,by go_num,HH2,b3⟩
     case measure=>simp [intOf];omega
  ·skip
   have RES:Hid (past ls seq=true):=past_yes (fun j l hl=>HH.out j l (by have:=(List.getElem?_eq_some_iff.1 hl).1;have:=HLN.out;omega) hl)
   go_wp2
   go_ret
   exact ⟨ret_bool RES.out.symm,hb⟩
theorem lenS_take {ls:List (List Ent)} {k:Nat} {l:List Ent} (h:ls[k]? = some l):lenS (ls.take (k+1))=lenS (ls.take k)+l.length:=by
 have hk:k < ls.length:=(List.getElem?_eq_some_iff.1 h).1
 have hl:ls[k]=l:=(List.getElem?_eq_some_iff.1 h).2
 unfold lenS
 rw [List.take_succ_eq_append_getElem hk,List.map_append,List.sum_append,hl]
 simp
theorem noneIsTwice_any (v:Value) (ps:List (Value×List Ent)) (w:World) (hp:Pieces w v ps) (hn:ps.length≤20) (hok:∀ p∈ps,okL p.2=true) :
 Calls Tryz.prog 78 #[v] w fun e w'=>e=.returned (.bool (decide ((mergedL (ps.map (·.2))).length=lenS (ps.map (·.2)))))∧Below w.heap.size w w':=by
 obtain ⟨a,cap,hv,hla,hma,hat⟩:=hp.at
 have HM:Hid (∀ W,Below w.heap.size w W→Calls Tryz.prog 94 #[v] W fun e w'=>RowPost W (mergedL (ps.map (·.2))) e w'):=fun W hb=>mergedByHeap_any v ps W (hp.below hb) hn hok
 obtain ⟨ls,hls⟩:∃ ls,ls=ps.map (·.2):=⟨_,rfl⟩
 have hln:ls.length=ps.length:=by rw [hls,List.length_map]
 have HOK:Hid (∀ l∈ls,l.length≤300):=fun l hl=>by
  rw [hls] at hl
  obtain ⟨p,hp',rfl⟩:=List.mem_map.1 hl
  exact okL_len (hok p hp')
 have HML:Hid ((mergedL ls).length≤6000):=by
  have:=merged_le ps (fun p hp=>okL_len (hok p hp))
  unfold Hid
  rw [hls]
  omega
 rw [← hls] at hat HM ⊢
 obtain ⟨nn,hnn⟩:∃ nn,nn=ps.length:=⟨_,rfl⟩
 rw [← hnn] at hv hla hat hln hn
 have AT:Hid (∀ k,k < nn→_):=hat
 have HLN:Hid (ls.length=nn):=hln
 unfold maxLen at hma
 subst hv
 clear hat hln hnn hls hp hok
 go_enter Tryz.func78,Tryz.ntmps78
 go_wp2
 go_loopw [3,8] (fun s i wr=>∃ (k z:Nat),k≤nn∧i=.int .i64 k∧s=.int .i64 z∧z≤300*k∧Hid (z=lenS (ls.take k))∧Below w.heap.size w wr) (fun _ i _=>nn - (intOf i).toNat)
 case atStart=>exact ⟨0,0,Nat.zero_le _,rfl,rfl,Nat.le_refl _,by unfold Hid;simp [lenS],Below.refl _ _⟩
 case round =>
  obtain ⟨k,z,hk,rfl,rfl,hz,HZ,hb⟩:=hrel
  by_cases hlt:k < nn
  ·obtain ⟨b,off,aa,zn,cc,zs,rfl,hc,hrz,hlz⟩:=AT.out k hlt wr hb
   have HLZ:Hid (ls[k]? = some zs):=hlz
   have hzl:=HOK.out zs (List.mem_of_getElem? hlz)
   have hkc:k < cap:=by omega
   obtain ⟨a2,c2,hv2,_⟩:=id hrz
   simp only [Value.slice.injEq] at hv2
   have HZN:Hid (zn=zs.length):=hv2.2.1
   rw [← hv2.2.1] at hzl
   have HZ2:Hid (z+zn=lenS (ls.take (k+1))):=by unfold Hid;rw [lenS_take HLZ.out,HZ.out,HZN.out]
   clear hlz hv2 hrz
   go_wp2
   go_roundw
   case rel=>exact ⟨k+1,z+zn,by omega,by go_num,by go_num,by omega,HZ2,hb⟩
   case measure=>simp [intOf];omega
  ·skip
   have hke:k=nn:=by omega
   have HZ2:Hid (z=lenS ls):=by have:=HZ.out;rw [hke,← HLN.out,List.take_length] at this;exact this
   have hml:=HML.out
   clear hke HZ
   go_wp2_with fail
   refine (HM.out _ hb).mono ?_
   rintro e w2 ⟨u,rfl,ho2,hb2⟩
   have b2:=hb.trans (hb2.mono hb.size)
   obtain ⟨a2,c2,hv2,-⟩:=id ho2.rd
   obtain ⟨m,hmm⟩:∃ m,m=(mergedL ls).length:=⟨_,rfl⟩
   rw [← hmm] at hv2 hml
   subst hv2
   have HMM:Hid (m=(mergedL ls).length):=hmm
   clear hmm ho2 hb2 hb HM AT
   by_cases hmz:m=z
   ·have RES:Hid (decide ((mergedL ls).length=lenS ls)=true):=by unfold Hid;rw [← HMM.out,← HZ2.out];exact decide_eq_true hmz
    subst hmz
    go_wp2
    go_ret
    exact ⟨ret_bool RES.out.symm,b2⟩
   ·have RES:Hid (decide ((mergedL ls).length=lenS ls)=false):=by unfold Hid;rw [← HMM.out,← HZ2.out];exact decide_eq_false hmz
    have hmi:((m:Int) == (z:Int))=false:=by rw [beq_eq_false_iff_ne];omega
    go_wp2
    go_ret
    exact ⟨ret_bool RES.out.symm,b2⟩
open Go.RowKit
end Go.Proofs.YtmlmlemiidedcaaGreat
