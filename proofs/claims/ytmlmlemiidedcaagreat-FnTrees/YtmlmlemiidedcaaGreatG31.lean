import Derived.Test.YtmlmlemiidedcaaGreatG25
import Derived.Deep.RegionLaw
import Derived.Lib.SliceRun
import Derived.RangeFuncNested
import Derived.RangeFuncBound
import Derived.RangeFuncCalls
import Derived.RangeFuncLeaves
import Derived.RangeFuncBox
import Derived.Shelf.Abstract
import Derived.Shelf.RegionOpen
import Derived.OwnWalkIn
import Derived.TacticsInMore
import Derived.LoopNIn
import Derived.LoopIn
import Derived.Deep.RegionHeld3
namespace Go.Proofs.YtmlmlemiidedcaaGreat
set_option maxHeartbeats 16000000
set_option maxRecDepth 100000
open Go.RowKit
open Go.RowKit
open Go.RowKit Go.Shelf
attribute [local go_sem] Oper.semAt_some
abbrev RT (w:World):={ t:TV // RdI w t.vb t.T.bits∧RdS w t.vk t.T.blocks∧∀ s∈t.T.blocks,s.size≤1000000000 }
def KpT (n₀:Nat) (W W':World):Prop:=Below n₀ W W'∧∀ (k:Nat) (cs:Array Value) (fz:Nat×Nat),W.heap[k]? = some (.cells cs 25 fz)→W'.heap[k]? = W.heap[k]?
theorem KpT.trans {n₀:Nat} {A B C:World} (h:KpT n₀ A B) (k:KpT n₀ B C):KpT n₀ A C :=
 ⟨h.1.trans k.1,fun i cs fz hi=>(k.2 i cs fz ((h.2 i cs fz hi).trans hi)).trans (h.2 i cs fz hi)⟩
theorem KpT.putObj {n₀:Nat} {w:World} (hB:n₀≤w.heap.size) (W:World) (l:Nat) (o o':Obj) (hl:w.heap.size≤l) (ho:W.heap[l]? = some o) (hc:o.isCells=false) (hw:o.isWalk=false):KpT n₀ W (W.putObj l o'):=by
 refine ⟨belowK_b hB W l o o' hl ho hc hw,fun k cs fz hk=>World.putObj_heap_other (fun e=>?_)⟩
 subst e;rw [ho] at hk;cases hk;cases hc
theorem KpT.alloc {n₀:Nat} {W:World} (h:n₀≤W.heap.size) (o:Obj):KpT n₀ W (W.alloc o) :=
 ⟨(Below.refl n₀ W).alloc h o,fun k _ _ hk=>Below.heap_alloc W o k (Array.getElem?_eq_some_iff.1 hk).1⟩
theorem rt_nth {w:World} {zs:List (RT w)} {k:Nat} (h:k < zs.length):nthT (zs.map (·.1)) k=(zs[k]).1:=by rw [nthT_eq (by simpa using h)];simp
theorem lv_cells {w:World} {G:Nat} {vy vo:Value} (h:w.heap[G]? = some (.cells #[vy,vo] 25 (0,0))):w.cell? ⟨G,0,none⟩=some vy∧w.cell? ⟨G,1,none⟩=some vo:=by
 constructor<;>simp [World.cell?,h]
theorem take_snoc2 {α:Type} {zs:List α} {k:Nat} (h:k < zs.length) (pre:List α):pre++zs.take (k+1)=(pre++zs.take k)++[zs[k]]:=by
 rw [List.take_succ_eq_append_getElem h,List.append_assoc]
theorem take_snoc1 {α:Type} {zs:List α} {k:Nat} (h:k < zs.length) (_:List α):zs.take (k+1)=zs.take k++[zs[k]]:=List.take_succ_eq_append_getElem h
theorem tables1_in (w0:World) (n:Nat) (hn:1≤n) (l Bn:Nat) (vy vo:Value) (ys os:List (RT w0)) (J Jx:List (RT w0)→World→Prop)
 (hY:∀ pre x W,J pre W→pre.length < ys.length+os.length→YieldAt Fence.wide (n - 1) Tryz.prog l #[.agg #[.string x.1.T.first,.string x.1.T.last,x.1.vb,x.1.vk]] W fun e W' =>
  (e=.returned (.bool true)∧J (pre++[x]) W'∧KpT w0.heap.size W W')∨(e=.returned (.bool false)∧Jx (pre++[x]) W'))
 (W:World) (hJ:AbidesFrom W.heap.size J) (h1:W.cell? ⟨Bn,1,none⟩=some vy) (h2:W.cell? ⟨Bn,2,none⟩=some vo) (hry:RdTs w0 vy (ys.map (·.1))) (hro:RdTs w0 vo (os.map (·.1))) (hb:Below w0.heap.size w0 W) (h0:J [] W) :
 CallsIn Fence.wide n Tryz.prog 111 #[.func (.yield l) #[] #[],.pointer (some ⟨Bn,0,none⟩)] W fun e W'=>(∃ v,e=.returned v) ∧
  ((∃ zs,zs=ys++os∧J zs W')∨(∃ pre,pre <+: ys++os∧Jx pre W')):=by
 obtain ⟨ay,cy,hvy,hly,hmy,-⟩:=id hry
 obtain ⟨ao,co,hvo,hlo,hmo,-⟩:=id hro
 rw [List.length_map] at hvy hly hvo hlo
 obtain ⟨yn,hyn⟩:∃ yn,yn=ys.length:=⟨_,rfl⟩
 obtain ⟨on,hon⟩:∃ on,on=os.length:=⟨_,rfl⟩
 have HYN:Hid (yn=ys.length):=hyn
 have HON:Hid (on=os.length):=hon
 rw [← hyn] at hvy hly hY
 rw [← hon] at hvo hlo hY
 subst hvy
 subst hvo
 unfold maxLen at hmy hmo
 have HY:Hid (∀ pre x W,J pre W→pre.length < yn+on→_):=hY
 have HJ:Hid (AbidesFrom W.heap.size J):=hJ
 have hJ1:J [] (W.alloc (.cells #[.slice ay yn cy,.slice ao on co] 25)):=hJ [] W _ none h0 (World.grownBy_alloc W _ none) (fun r e=>by cases e)
 have hb1:Below w0.heap.size w0 (W.alloc (.cells #[.slice ay yn cy,.slice ao on co] 25)):=hb.alloc hb.size _
 have hG:(W.alloc (.cells #[.slice ay yn cy,.slice ao on co] 25)).heap[W.heap.size]? = some (.cells #[.slice ay yn cy,.slice ao on co] 25 (0,0)):=World.alloc_heap_new W _
 clear hyn hon hY hJ h0
 refine callsIn_of_wp Tryz.func111 rfl trivial ?_ rfl
 simp only [Tryz.ntmps111,List.size_toArray,List.length_cons,List.length_nil,Nat.reduceAdd,Nat.reduceSub,Array.replicate_succ,Array.replicate_zero,List.push_toArray,List.append_toArray,List.nil_append,List.cons_append]
 gi_wp2
 gi_loopw [13] (fun i wr=>∃ j:Nat,j≤2∧i=.int .i64 j∧J (if j=0 then [] else if j=1 then ys else ys++os) wr∧wr.heap[W.heap.size]? = some (.cells #[.slice ay yn cy,.slice ao on co] 25 (0,0))∧Below w0.heap.size w0 wr∧W.heap.size≤wr.heap.size) (fun i _=>2 - (intOf i).toNat)
 case atStart=>exact ⟨0,Nat.zero_le _,rfl,hJ1,hG,hb1,by simp⟩
 case round =>
  obtain ⟨j,hj,rfl,hJs,hGs,hbs,hWs⟩:=hrel
  clear hJ1 hb1 hG hb h1 h2
  obtain ⟨g0,g1⟩:=lv_cells hGs
  obtain rfl | rfl | rfl:j=0∨j=1∨j=2:=by omega
  ·gi_wp2
   gi_loopw [19] (fun i wr=>∃ k:Nat,k≤yn∧i=.int .i64 k∧J (ys.take k) wr∧wr.heap[W.heap.size]? = some (.cells #[.slice ay yn cy,.slice ao on co] 25 (0,0))∧Below w0.heap.size w0 wr∧W.heap.size≤wr.heap.size) (fun i _=>yn - (intOf i).toNat)
   case atStart=>exact ⟨0,Nat.zero_le _,rfl,by simpa using hJs,hGs,hbs,hWs⟩
   case round =>
    clear hJs hGs hbs g0 g1 hWs
    obtain ⟨k,hk,rfl,hJs,hGs,hbs,hWs⟩:=hrel
    by_cases hlt:k < yn
    ·have hkl:k < ys.length:=by rw [← HYN.out];exact hlt
     obtain ⟨b,off,rfl,hc,-,-⟩:=(hry.below hbs).at k (by rw [List.length_map];exact hkl)
     rw [rt_nth hkl] at hc
     obtain ⟨x,hx⟩:∃ x,x=ys[k]:=⟨_,rfl⟩
     rw [← hx] at hc
     have HTK:Hid (ys.take (k+1)=(ys.take k)++[x]):=by rw [hx];exact take_snoc1 hkl []
     have hlen:(ys.take k).length < yn+on:=by
      have h1:=HYN.out
      have h2:=HON.out
      simp
      omega
     have HPF:Hid ((ys.take k)++[x] <+: ys++os):=by
      rw [← HTK.out]
      exact (List.take_prefix _ _).trans (List.prefix_append _ _)
     obtain ⟨c0,c1,c2,c3⟩:=id hc
     have hkc:k < cy:=by omega
     have hYx:=fun W hJ=>HY.out (ys.take k) x W hJ hlen
     obtain ⟨ab,cb,hvb,-⟩:=id x.2.1
     obtain ⟨ak,ck,hvk,-⟩:=id x.2.2.1
     generalize x.1.T.bits.length=bn at hvb
     generalize x.1.T.blocks.length=kn at hvk
     rw [hvb] at c2 hYx
     rw [hvk] at c3 hYx
     have hJ2:=HJ.out _ wr _ none hJs (World.grownBy_alloc wr (.cells #[.string x.1.T.first,.string x.1.T.last,.slice ab bn cb,.slice ak kn ck] 79) none) (fun r e=>by cases e)
     have hb2:=hbs.alloc hbs.size (.cells #[.string x.1.T.first,.string x.1.T.last,.slice ab bn cb,.slice ak kn ck] 79)
     have hG2:=(Below.heap_alloc wr (.cells #[.string x.1.T.first,.string x.1.T.last,.slice ab bn cb,.slice ak kn ck] 79) _ (Array.getElem?_eq_some_iff.1 hGs).1).trans hGs
     have hs2:W.heap.size≤(wr.alloc (.cells #[.string x.1.T.first,.string x.1.T.last,.slice ab bn cb,.slice ak kn ck] 79)).heap.size:=by simp;omega
     obtain ⟨fn,tmps,assign,body,hy,hR⟩:=hYx _ hJ2
     have HR:Hid (RoundIn _ _ _ _ _ _ _ _ _ _):=hR
     clear hR hx hkl hJs hGs hbs hWs hJ2 hc hlen hYx hvb hvk
     gi_wp2
     refine HR.out.mono ?_
     rintro e W3 (⟨rfl,hJ3,hk3⟩ | ⟨rfl,hJx3⟩)
     ·have hG3:=(hk3.2 _ _ _ hG2).trans hG2
      have hb3:=hb2.trans hk3.1
      have hs3:W.heap.size≤W3.heap.size:=Nat.le_trans hs2 (by have:=(Array.getElem?_eq_some_iff.1 hG3).1;exact Nat.le_of_lt_succ (Nat.lt_succ_of_le (Nat.le_trans (Nat.le_refl _) hk3.1.size)))
      rw [← HTK.out] at hJ3
      clear HR hy hk3 hG2 hb2 hs2 c0 c1 c2 c3
      gi_wp2
      go_roundw
      case rel=>exact ⟨k+1,by omega,by go_num,hJ3,hG3,hb3,hs3⟩
      case measure=>simp [intOf];omega
     ·clear HR hy
      gi_wp2
      refine bodyPost_ret (results_none rfl _ _ _) rfl ?_
      exact ⟨⟨_,rfl⟩,.inr ⟨_,HPF.out,hJx3⟩⟩
    ·have hke:k=yn:=by omega
     rw [hke,HYN.out,List.take_length] at hJs
     clear hke
     gi_wp2
     go_roundw
     case rel=>exact ⟨1,by omega,by go_num,hJs,hGs,hbs,hWs⟩
     case measure=>simp [intOf]
  ·gi_wp2
   gi_loopw [19] (fun i wr=>∃ k:Nat,k≤on∧i=.int .i64 k∧J (ys++os.take k) wr∧wr.heap[W.heap.size]? = some (.cells #[.slice ay yn cy,.slice ao on co] 25 (0,0))∧Below w0.heap.size w0 wr∧W.heap.size≤wr.heap.size) (fun i _=>on - (intOf i).toNat)
   case atStart=>exact ⟨0,Nat.zero_le _,rfl,by simpa using hJs,hGs,hbs,hWs⟩
   case round =>
    clear hJs hGs hbs g0 g1 hWs
    obtain ⟨k,hk,rfl,hJs,hGs,hbs,hWs⟩:=hrel
    by_cases hlt:k < on
    ·have hkl:k < os.length:=by rw [← HON.out];exact hlt
     obtain ⟨b,off,rfl,hc,-,-⟩:=(hro.below hbs).at k (by rw [List.length_map];exact hkl)
     rw [rt_nth hkl] at hc
     obtain ⟨x,hx⟩:∃ x,x=os[k]:=⟨_,rfl⟩
     rw [← hx] at hc
     have HTK:Hid (ys++os.take (k+1)=(ys++os.take k)++[x]):=by rw [hx];exact take_snoc2 hkl ys
     have hlen:(ys++os.take k).length < yn+on:=by
      have h1:=HYN.out
      have h2:=HON.out
      simp
      omega
     have HPF:Hid ((ys++os.take k)++[x] <+: ys++os):=by
      rw [← HTK.out]
      exact List.prefix_append_right_inj ys |>.2 (List.take_prefix _ _)
     obtain ⟨c0,c1,c2,c3⟩:=id hc
     have hkc:k < co:=by omega
     have hYx:=fun W hJ=>HY.out (ys++os.take k) x W hJ hlen
     obtain ⟨ab,cb,hvb,-⟩:=id x.2.1
     obtain ⟨ak,ck,hvk,-⟩:=id x.2.2.1
     generalize x.1.T.bits.length=bn at hvb
     generalize x.1.T.blocks.length=kn at hvk
     rw [hvb] at c2 hYx
     rw [hvk] at c3 hYx
     have hJ2:=HJ.out _ wr _ none hJs (World.grownBy_alloc wr (.cells #[.string x.1.T.first,.string x.1.T.last,.slice ab bn cb,.slice ak kn ck] 79) none) (fun r e=>by cases e)
     have hb2:=hbs.alloc hbs.size (.cells #[.string x.1.T.first,.string x.1.T.last,.slice ab bn cb,.slice ak kn ck] 79)
     have hG2:=(Below.heap_alloc wr (.cells #[.string x.1.T.first,.string x.1.T.last,.slice ab bn cb,.slice ak kn ck] 79) _ (Array.getElem?_eq_some_iff.1 hGs).1).trans hGs
     have hs2:W.heap.size≤(wr.alloc (.cells #[.string x.1.T.first,.string x.1.T.last,.slice ab bn cb,.slice ak kn ck] 79)).heap.size:=by simp;omega
     obtain ⟨fn,tmps,assign,body,hy,hR⟩:=hYx _ hJ2
     have HR:Hid (RoundIn _ _ _ _ _ _ _ _ _ _):=hR
     clear hR hx hkl hJs hGs hbs hWs hJ2 hc hlen hYx hvb hvk
     gi_wp2
     refine HR.out.mono ?_
     rintro e W3 (⟨rfl,hJ3,hk3⟩ | ⟨rfl,hJx3⟩)
     ·have hG3:=(hk3.2 _ _ _ hG2).trans hG2
      have hb3:=hb2.trans hk3.1
      have hs3:W.heap.size≤W3.heap.size:=Nat.le_trans hs2 (by have:=(Array.getElem?_eq_some_iff.1 hG3).1;exact Nat.le_of_lt_succ (Nat.lt_succ_of_le (Nat.le_trans (Nat.le_refl _) hk3.1.size)))
      rw [← HTK.out] at hJ3
      clear HR hy hk3 hG2 hb2 hs2 c0 c1 c2 c3
      gi_wp2
      go_roundw
      case rel=>exact ⟨k+1,by omega,by go_num,hJ3,hG3,hb3,hs3⟩
      case measure=>simp [intOf];omega
     ·clear HR hy
      gi_wp2
      refine bodyPost_ret (results_none rfl _ _ _) rfl ?_
      exact ⟨⟨_,rfl⟩,.inr ⟨_,HPF.out,hJx3⟩⟩
    ·have hke:k=on:=by omega
     rw [hke,HON.out,List.take_length] at hJs
     clear hke
     gi_wp2
     go_roundw
     case rel=>exact ⟨2,by omega,by go_num,hJs,hGs,hbs,hWs⟩
     case measure=>simp [intOf]
  ·gi_wp2
   go_end0
   exact ⟨⟨_,rfl⟩,.inl ⟨_,rfl,hJs⟩⟩
theorem tables_any (X:TrX) (w:World) :
 Calls Tryz.prog 74 #[.agg #[X.vm,X.vy,X.vo,.int .i64 X.seq,X.vs]] w fun e w'=>e=.returned (.func (.func 111) #[] #[.pointer (some ⟨w.heap.size,0,none⟩)])∧w'=w.alloc (.cells #[X.vm,X.vy,X.vo,.int .i64 X.seq,X.vs] 28):=by
 go_enter Tryz.func74,Tryz.ntmps74
 go_wp2
 go_ret
 exact ⟨rfl,rfl⟩
theorem tables_stops (w0:World) (n:Nat) (hn:1≤n) (Bn:Nat) (vy vo:Value) (ys os:List (RT w0)) (w:World) (hBn:Bn < w.heap.size) (h0:w0.heap.size≤w.heap.size) (c1:w.cell? ⟨Bn,1,none⟩=some vy) (c2:w.cell? ⟨Bn,2,none⟩=some vo) (hry:RdTs w0 vy (ys.map (·.1))) (hro:RdTs w0 vo (os.map (·.1))) (hb:Below w0.heap.size w0 w) :
 SeqStopsK Fence.wide n Tryz.prog 111 #[.pointer (some ⟨Bn,0,none⟩)] (fun x:RT w0=>#[.agg #[.string x.1.T.first,.string x.1.T.last,x.1.vb,x.1.vk]]) (KpT w0.heap.size) (fun zs=>zs=ys++os) (fun pre=>pre <+: ys++os) (ys.length+os.length) w:=fun l J Jx W hW hJ _ hY h1 =>
 tables1_in w0 n hn l Bn vy vo ys os J Jx hY W hJ ((hW.cell (p:=⟨Bn,1,none⟩) hBn).trans c1) ((hW.cell (p:=⟨Bn,2,none⟩) hBn).trans c2) hry hro (hb.trans (hW.mono h0)) h1
def newAt (l:List Ent) (x:Ent):Bool:=match seenL l x.key 1000000 with
 | some y=>decide (y.seq < x.seq)
 | none=>true
def newIn (mem l:List Ent):Bool:=mem.all (newAt l)
theorem newAt_none {l:List Ent} {x:Ent} (h:seenL l x.key 1000000=none):newAt l x=true:=by unfold newAt;rw [h]
theorem newAt_some {l:List Ent} {x y:Ent} (h:seenL l x.key 1000000=some y):newAt l x=decide (y.seq < x.seq):=by unfold newAt;rw [h]
theorem newAt_iff {l:List Ent} (hl:okL l=true) (x:Ent):newAt l x=true↔∀ y∈l,x.key=y.key→y.seq < x.seq:=by
 have ho:=((okL_iff _).1 hl).2.1
 have hs:Sr l:=okL_sr hl
 have up:∀ y∈l,y.seq≤1000000:=fun y hy=>by
  have:=ho y hy
  simp only [okE,Bool.and_eq_true,decide_eq_true_eq] at this
  exact this.2
 cases h:seenL l x.key 1000000 with
 | none =>
  rw [newAt_none h]
  rw [seen_none] at h
  simp only [true_iff]
  intro y hy hk
  exact absurd (up y hy) (h y hy hk.symm)
 | some e =>
  rw [newAt_some h,decide_eq_true_eq]
  rw [seen_iff hs] at h
  obtain ⟨g1,g2,g3,g4⟩:=h
  constructor
  ·intro hlt y hy hk
   have:=g4 y hy hk.symm (up y hy)
   omega
  ·intro hall
   exact hall e g1 g2.symm
theorem newIn_iff {mem l:List Ent} (hl:okL l=true):newIn mem l=true↔∀ x∈mem,∀ y∈l,x.key=y.key→y.seq < x.seq:=by
 unfold newIn
 rw [List.all_eq_true]
 exact ⟨fun h x hx=>(newAt_iff hl x).1 (h x hx),fun h x hx=>(newAt_iff hl x).2 (h x hx)⟩
theorem newIn_no {mem l:List Ent} {i:Nat} (hi:i < mem.length) (h:newAt l (nth mem i)=false):newIn mem l=false:=by
 unfold newIn
 rw [List.all_eq_false]
 exact ⟨nth mem i,by rw [nth_eq hi];exact List.getElem_mem hi,by rw [h];simp⟩
theorem newIn_yes {mem l:List Ent} (h:∀ i,i < mem.length→newAt l (nth mem i)=true):newIn mem l=true:=by
 unfold newIn
 rw [List.all_eq_true]
 intro x hx
 obtain ⟨i,hi,rfl⟩:=List.getElem_of_mem hx
 rw [← nth_eq hi]
 exact h i hi
def past (ls:List (List Ent)) (q:Int):Bool:=ls.all (fun l=>l.all (fun e=>decide (e.seq≤q)))
def tabOk (mem:List Ent) (t:Tbl):Bool:=tableOk t && newIn mem (entriesL t)
def headOk (T:Tre):Bool:=decide (T.young.length≤6) && decide (T.old.length≤1) && decide (0≤T.seq) && decide (T.seq≤1000000) && (decide (T.snaps.length≤10) && snapsOk T.seq T.snaps) && okL T.mem
def tailOk (T:Tre):Bool:=past (lsT T) T.seq && decide ((mergedL (lsT T)).length=lenS (lsT T))
theorem unp_eq (T:Tre):treeOk T=(headOk T && (T.young++T.old).all (tabOk T.mem) && tailOk T):=by
 rw [Bool.eq_iff_iff,treeOk_iff]
 simp only [headOk,tailOk,tabOk,past,Bool.and_eq_true,decide_eq_true_eq,List.all_eq_true]
 constructor
 ·intro h
  refine ⟨⟨⟨⟨⟨⟨⟨h.young,h.old⟩,h.seq0⟩,h.seq1⟩,h.few,h.snaps⟩,h.mem⟩,fun t ht=>⟨h.full t ht,?_⟩⟩,fun l hl e he=>h.top l hl e he,(merged_dsj (lsT_sr h.mem)).2 h.apart⟩
  rw [newIn_iff (tableOk_parts (h.full t ht)).1]
  exact fun x hx=>h.newer x hx _ (List.mem_map.2 ⟨t,ht,rfl⟩)
 ·rintro ⟨⟨⟨⟨⟨⟨⟨h1,h2⟩,h3⟩,h4⟩,h5,h6⟩,h7⟩,h8⟩,h9,h10⟩
  refine ⟨h7,h1,h2,fun t ht=>(h8 t ht).1,(merged_dsj (lsT_sr h7)).1 h10,h3,h4,h5,h6,h9,fun x hx l hl=>?_⟩
  obtain ⟨t,ht,rfl⟩:=List.mem_map.1 hl
  have:=h8 t ht
  exact (newIn_iff (tableOk_parts this.1).1).1 this.2 x hx
theorem unp_head {T:Tre} (h:headOk T=false):treeOk T=false:=by rw [unp_eq,h];rfl
theorem unp_tab {T:Tre} {t:Tbl} (ht:t∈T.young++T.old) (h:tabOk T.mem t=false):treeOk T=false:=by
 rw [unp_eq]
 have:(T.young++T.old).all (tabOk T.mem)=false:=by
  rw [List.all_eq_false]
  exact ⟨t,ht,by rw [h];simp⟩
 rw [this];simp
theorem unp_tail {T:Tre} (h:tailOk T=false):treeOk T=false:=by rw [unp_eq,h];simp
theorem unp_yes {T:Tre} (h1:headOk T=true) (h2:∀ t∈T.young++T.old,tabOk T.mem t=true) (h3:tailOk T=true):treeOk T=true:=by
 rw [unp_eq,h1,h3,List.all_eq_true.2 h2];rfl
def unpL (T:Tre):List (List Ent):=if treeOk T=true then lsT T else []
theorem unpL_yes {T:Tre} (h:treeOk T=true):unpL T=lsT T:=if_pos h
theorem unpL_no {T:Tre} (h:treeOk T=false):unpL T=[]:=if_neg (by rw [h];simp)
def noE:Ent:=⟨⟨#[]⟩,⟨#[]⟩,0,true⟩
def stepB (b:Ent):Option Ent→Ent
 | some e=>if b.seq < e.seq then e else b
 | none=>b
def foldB (k:ByteArray) (q:Int) (b:Ent) (ls:List (List Ent)):Ent:=ls.foldl (fun b l=>stepB b (seenL l k q)) b
theorem foldB_fact (k:ByteArray) (q:Int):∀ (ls:List (List Ent)) (b:Ent),(foldB k q b ls=b∨∃ l∈ls,seenL l k q=some (foldB k q b ls))∧b.seq≤(foldB k q b ls).seq∧∀ m∈ls,∀ e,seenL m k q=some e→e.seq≤(foldB k q b ls).seq:=by
 intro ls
 induction ls with
 | nil=>intro b;exact ⟨.inl rfl,Int.le_refl _,fun m hm=>by cases hm⟩
 | cons l r ih =>
  intro b
  have e:foldB k q b (l::r)=foldB k q (stepB b (seenL l k q)) r:=rfl
  rw [e]
  obtain ⟨h1,h2,h3⟩:=ih (stepB b (seenL l k q))
  cases hs:seenL l k q with
  | none =>
   rw [hs] at h1 h2 h3
   have eb:stepB b none=b:=rfl
   rw [eb] at h1 h2 h3 ⊢
   refine ⟨?_,h2,fun m hm e he=>?_⟩
   ·rcases h1 with h1 | ⟨m,hm,h1⟩
    ·exact .inl h1
    ·exact .inr ⟨m,List.mem_cons_of_mem _ hm,h1⟩
   ·rcases List.mem_cons.1 hm with rfl | hm
    ·rw [hs] at he;cases he
    ·exact h3 m hm e he
  | some y =>
   rw [hs] at h1 h2 h3
   by_cases hlt:b.seq < y.seq
   ·have eb:stepB b (some y)=y:=if_pos hlt
    rw [eb] at h1 h2 h3 ⊢
    refine ⟨?_,by omega,fun m hm e he=>?_⟩
    ·rcases h1 with h1 | ⟨m,hm,h1⟩
     ·exact .inr ⟨l,List.mem_cons_self,by rw [h1];exact hs⟩
     ·exact .inr ⟨m,List.mem_cons_of_mem _ hm,h1⟩
    ·rcases List.mem_cons.1 hm with rfl | hm
     ·rw [hs] at he;rw [← Option.some.inj he];exact h2
     ·exact h3 m hm e he
   ·have eb:stepB b (some y)=b:=if_neg hlt
    rw [eb] at h1 h2 h3 ⊢
    refine ⟨?_,h2,fun m hm e he=>?_⟩
    ·rcases h1 with h1 | ⟨m,hm,h1⟩
     ·exact .inl h1
     ·exact .inr ⟨m,List.mem_cons_of_mem _ hm,h1⟩
    ·rcases List.mem_cons.1 hm with rfl | hm
     ·rw [hs] at he;rw [← Option.some.inj he];omega
     ·exact h3 m hm e he
theorem foldB_tree {T:Tre} (h:TreeP T) (k:ByteArray) (q:Int):foldB k q noE (lsT T)=(seenL (mergedL (lsT T)) k q).getD noE:=by
 obtain ⟨h1,h2,h3⟩:=foldB_fact k q (lsT T) noE
 have okm:∀ l∈lsT T,okL l=true:=fun l hl=>by
  rcases List.mem_cons.1 hl with rfl | hl
  ·exact h.mem
  ·obtain ⟨t,ht,rfl⟩:=List.mem_map.1 hl
   exact (tableOk_parts (h.full t ht)).1
 have inM:∀ l∈lsT T,∀ e,seenL l k q=some e→e∈mergedL (lsT T)∧e.key=k∧e.seq≤q:=fun l hl e he=>by
  have:=(seen_iff (okL_sr (okm l hl)) k q e).1 he
  exact ⟨(h.all e).2 ⟨l,hl,this.1⟩,this.2.1,this.2.2.1⟩
 cases hs:seenL (mergedL (lsT T)) k q with
 | none =>
  rw [seen_none] at hs
  rcases h1 with h1 | ⟨l,hl,h1⟩
  ·exact h1
  ·obtain ⟨a,b,c⟩:=inM l hl _ h1
   exact absurd c (hs _ a b)
 | some e =>
  rw [seen_iff h.sr] at hs
  obtain ⟨g1,g2,g3,g4⟩:=hs
  obtain ⟨l,hl,hel⟩:=(h.all e).1 g1
  have he1:1≤e.seq:=by
   have:=((okL_iff _).1 (okm l hl)).2.1 e hel
   simp only [okE,Bool.and_eq_true,decide_eq_true_eq] at this
   exact this.1.2
  have her:e.seq≤(foldB k q noE (lsT T)).seq:=by
   cases hl2:seenL l k q with
   | none=>rw [seen_none] at hl2;exact absurd g3 (hl2 e hel g2)
   | some y =>
    have hy:=(seen_iff (okL_sr (okm l hl)) k q y).1 hl2
    have:=hy.2.2.2 e hel g2 g3
    have:=h3 l hl y hl2
    omega
  rcases h1 with h1 | ⟨m,hm,h1⟩
  ·rw [h1] at her
   have:noE.seq=0:=rfl
   omega
  ·obtain ⟨a,b,c⟩:=inM m hm _ h1
   have:=g4 _ a b c
   show foldB k q noE (lsT T)=e
   exact ks_eq h.sr a g1 (by rw [b,g2]) (by omega)
theorem fold_read (T:Tre) (k:ByteArray) (q:Int):((foldB k q noE (unpL T)).val,!(foldB k q noE (unpL T)).gone)=((readT T k q).getD ⟨#[]⟩,(readT T k q).isSome):=by
 cases ht:treeOk T with
 | false =>
  rw [unpL_no ht]
  unfold readT
  rw [if_neg (by rw [ht];simp)]
  rfl
 | true =>
  have h:=(treeOk_iff T).1 ht
  rw [unpL_yes ht,foldB_tree h,readT_eq h]
  unfold readL
  cases hs:seenL (mergedL (lsT T)) k q with
  | none=>rfl
  | some e =>
   rw [seen_iff h.sr] at hs
   obtain ⟨l,hl,hel⟩:=(h.all e).1 hs.1
   have hok:okE e=true:=by
    rcases List.mem_cons.1 hl with rfl | hl
    ·exact ((okL_iff _).1 h.mem).2.1 e hel
    ·exact entries_okE h hl hel
   simp only [okE,Bool.and_eq_true,decide_eq_true_eq,Bool.or_eq_true,Bool.not_eq_true'] at hok
   obtain ⟨⟨⟨⟨_,_⟩,hg⟩,_⟩,_⟩:=hok
   show (e.val,!e.gone)=((tellE (some e)).getD ⟨#[]⟩,(tellE (some e)).isSome)
   unfold tellE
   cases hgo:e.gone with
   | false=>simp [hgo]
   | true =>
    rw [hgo] at hg
    have hz:e.val=⟨#[]⟩:=by
     rcases hg with hg | hg
     ·cases hg
     ·apply ByteArray.ext
      exact Array.eq_empty_of_size_eq_zero hg
    simp [hz,hgo]
end Go.Proofs.YtmlmlemiidedcaaGreat
