import Derived.RangeFuncNested
import Derived.RangeFuncBound
import Derived.RangeFuncCalls
import Derived.RangeFuncLeaves
import Derived.RangeFuncBox
import Derived.Shelf.Abstract
import Derived.Shelf.RegionOpen
import Derived.OwnWalkIn
import Derived.TacticsInMore
import Derived.LoopNIn
import Derived.LoopIn
import Derived.Deep.RegionHeld3
import Derived.Test.YtjlnchhgkfnldaaGreatG26
namespace Go.Proofs.YtjlnchhgkfnldaaGreat
set_option maxHeartbeats 16000000
set_option maxRecDepth 100000
open Go.RowKit
open Go.RowKit Go.Shelf
attribute [local go_sem] Oper.semAt_some
abbrev RT (w:World):={ t:TV // RdI w t.vb t.T.bits∧RdS w t.vk t.T.blocks∧∀ s∈t.T.blocks,s.size≤1000000000 }
def KpT(n₀:Nat)(W W':World):Prop:=Below n₀ W W'∧∀ (k:Nat) (cs:Array Value) (fz:Nat×Nat),W.heap[k]? = some (.cells cs 25 fz)→W'.heap[k]? = W.heap[k]?
theorem KpT.trans{n₀:Nat}{A B C:World}(h:KpT n₀ A B)(k:KpT n₀ B C):KpT n₀ A C :=
 ⟨h.1.trans k.1,fun i cs fz hi=>(k.2 i cs fz ((h.2 i cs fz hi).trans hi)).trans (h.2 i cs fz hi)⟩
theorem KpT.putObj{n₀:Nat}{w:World}(hB:n₀≤w.heap.size)(W:World)(l:Nat)(o o':Obj)(hl:w.heap.size≤l)(ho:W.heap[l]? = some o)(hc:o.isCells=false)(hw:o.isWalk=false):KpT n₀ W (W.putObj l o'):=by
 refine⟨belowK_b hB W l o o' hl ho hc hw,fun k cs fz hk=>World.putObj_heap_other (fun e=>?_)⟩;subst e;rw[ho] at hk;cases hk;cases hc
theorem KpT.alloc{n₀:Nat}{W:World}(h:n₀≤W.heap.size)(o:Obj):KpT n₀ W (W.alloc o) :=
 ⟨(Below.refl n₀ W).alloc h o,fun k _ _ hk=>Below.heap_alloc W o k (Array.getElem?_eq_some_iff.1 hk).1⟩
theorem rt_nth{w:World}{zs:List (RT w)}{k:Nat}(h:k<zs.length):nthT (zs.map (·.1)) k=(zs[k]).1:=by rw[zba (by simpa using h)];simp
theorem lv_cells{w:World}{G:Nat}{vy vo:Value}(h:w.heap[G]? = some (.cells #[vy,vo] 25 (0,0))):w.cell? ⟨G,0,none⟩=some vy∧w.cell? ⟨G,1,none⟩=some vo:=by
 constructor<;>simp[World.cell?,h]
theorem znf{α:Type}{zs:List α}{k:Nat}(h:k<zs.length)(pre:List α):pre++zs.take (k+1)=(pre++zs.take k)++[zs[k]]:=by
 rw[List.take_succ_eq_append_getElem h,List.append_assoc]
theorem znd{α:Type}{zs:List α}{k:Nat}(h:k<zs.length)(_:List α):zs.take (k+1)=zs.take k++[zs[k]]:=List.take_succ_eq_append_getElem h
theorem zms(w0:World)(n:Nat)(hn:1≤n)(l Bn:Nat)(vy vo:Value)(ys os:List (RT w0))(J Jx:List (RT w0)→World→Prop)
 (hY:∀ pre x W,J pre W→pre.length<ys.length+os.length→YieldAt Fence.wide (n-1) Tryz.prog l #[.agg #[.string x.1.T.first,.string x.1.T.last,x.1.vb,x.1.vk]] W fun e W' =>
  (e=.returned (.bool true)∧J (pre++[x]) W'∧KpT w0.heap.size W W')∨(e=.returned (.bool false)∧Jx (pre++[x]) W'))
 (W:World) (hJ:AbidesFrom W.heap.size J) (h1:W.cell? ⟨Bn,1,none⟩=some vy) (h2:W.cell? ⟨Bn,2,none⟩=some vo) (hry:RdTs w0 vy (ys.map (·.1))) (hro:RdTs w0 vo (os.map (·.1))) (hb:Below w0.heap.size w0 W) (h0:J [] W) :
 CallsIn Fence.wide n Tryz.prog 105 #[.func (.yield l) #[] #[],.pointer (some ⟨Bn,0,none⟩)] W fun e W'=>(∃ v,e=.returned v) ∧
  ((∃ zs,zs=ys++os∧J zs W')∨(∃ pre,pre <+: ys++os∧Jx pre W')):=by
 obtain⟨ay,cy,hvy,hly,hmy,-⟩:=id hry;obtain⟨ao,co,hvo,hlo,hmo,-⟩:=id hro;rw[List.length_map] at hvy hly hvo hlo;obtain⟨yn,hyn⟩:∃ yn,yn=ys.length:=⟨_,rfl⟩;obtain⟨on,hon⟩:∃ on,on=os.length:=⟨_,rfl⟩;have HYN:Hid (yn=ys.length):=hyn;have HON:Hid (on=os.length):=hon;rw[← hyn] at hvy hly hY;rw[← hon] at hvo hlo hY;subst hvy;subst hvo;unfold maxLen at hmy hmo;have HY:Hid (∀ pre x W,J pre W→pre.length<yn+on→_):=hY;have HJ:Hid (AbidesFrom W.heap.size J):=hJ;have hJ1:J [] (W.alloc (.cells #[.slice ay yn cy,.slice ao on co] 25)):=hJ [] W _ none h0 (World.grownBy_alloc W _ none) (fun r e=>by cases e);have hb1:Below w0.heap.size w0 (W.alloc (.cells #[.slice ay yn cy,.slice ao on co] 25)):=hb.alloc hb.size _;have hG:(W.alloc (.cells #[.slice ay yn cy,.slice ao on co] 25)).heap[W.heap.size]? = some (.cells #[.slice ay yn cy,.slice ao on co] 25 (0,0)):=World.alloc_heap_new W _;clear hyn hon hY hJ h0;refine callsIn_of_wp Tryz.func105 rfl trivial ?_ rfl;simp only[Tryz.ntmps105,List.size_toArray,List.length_cons,List.length_nil,Nat.reduceAdd,Nat.reduceSub,Array.replicate_succ,Array.replicate_zero,List.push_toArray,List.append_toArray,List.nil_append,List.cons_append];gi_wp2
 gi_loopw [13] (fun i wr=>∃ j:Nat,j≤2∧i=.int .i64 j∧J (if j=0 then [] else if j=1 then ys else ys++os) wr∧wr.heap[W.heap.size]? = some (.cells #[.slice ay yn cy,.slice ao on co] 25 (0,0))∧Below w0.heap.size w0 wr∧W.heap.size≤wr.heap.size) (fun i _=>2-(intOf i).toNat)
 case atStart=>exact⟨0,Nat.zero_le _,rfl,hJ1,hG,hb1,by simp⟩
 case round =>
  obtain⟨j,hj,rfl,hJs,hGs,hbs,hWs⟩:=hrel;clear hJ1 hb1 hG hb h1 h2;obtain⟨g0,g1⟩:=lv_cells hGs;obtain rfl | rfl | rfl:j=0∨j=1∨j=2:=by omega
  ·gi_wp2
   gi_loopw [19] (fun i wr=>∃ k:Nat,k≤yn∧i=.int .i64 k∧J (ys.take k) wr∧wr.heap[W.heap.size]? = some (.cells #[.slice ay yn cy,.slice ao on co] 25 (0,0))∧Below w0.heap.size w0 wr∧W.heap.size≤wr.heap.size) (fun i _=>yn-(intOf i).toNat)
   case atStart=>exact⟨0,Nat.zero_le _,rfl,by simpa using hJs,hGs,hbs,hWs⟩
   case round =>
    clear hJs hGs hbs g0 g1 hWs;obtain⟨k,hk,rfl,hJs,hGs,hbs,hWs⟩:=hrel;by_cases hlt:k<yn
    ·have hkl:k<ys.length:=(by rw[← HYN.out];exact hlt);obtain⟨b,off,rfl,hc,-,-⟩:=(hry.below hbs).at k (by rw[List.length_map];exact hkl);rw[rt_nth hkl] at hc;obtain⟨x,hx⟩:∃ x,x=ys[k]:=⟨_,rfl⟩;rw[← hx] at hc;have HTK:Hid (ys.take (k+1)=(ys.take k)++[x]):=(by rw[hx];exact znd hkl []);have hlen:(ys.take k).length<yn+on:=by
      have h1:=HYN.out;have h2:=HON.out;simp;omega
     have HPF:Hid ((ys.take k)++[x] <+: ys++os):=by
      rw[← HTK.out];exact(List.take_prefix _ _).trans (List.prefix_append _ _)
     obtain⟨c0,c1,c2,c3⟩:=id hc;have hkc:k<cy:=(by omega);have hYx:=fun W hJ=>HY.out (ys.take k) x W hJ hlen
     obtain⟨ab,cb,hvb,-⟩:=id x.2.1;obtain⟨ak,ck,hvk,-⟩:=id x.2.2.1;generalize x.1.T.bits.length=bn at hvb;generalize x.1.T.blocks.length=kn at hvk;rw[hvb] at c2 hYx;rw[hvk] at c3 hYx;have hJ2:=HJ.out _ wr _ none hJs (World.grownBy_alloc wr (.cells #[.string x.1.T.first,.string x.1.T.last,.slice ab bn cb,.slice ak kn ck] 56) none) (fun r e=>by cases e);have hb2:=hbs.alloc hbs.size (.cells #[.string x.1.T.first,.string x.1.T.last,.slice ab bn cb,.slice ak kn ck] 56);have hG2:=(Below.heap_alloc wr (.cells #[.string x.1.T.first,.string x.1.T.last,.slice ab bn cb,.slice ak kn ck] 56) _ (Array.getElem?_eq_some_iff.1 hGs).1).trans hGs;have hs2:W.heap.size≤(wr.alloc (.cells #[.string x.1.T.first,.string x.1.T.last,.slice ab bn cb,.slice ak kn ck] 56)).heap.size:=(by simp;omega);obtain⟨fn,tmps,assign,body,hy,hR⟩:=hYx _ hJ2;have HR:Hid (RoundIn _ _ _ _ _ _ _ _ _ _):=hR;clear hR hx hkl hJs hGs hbs hWs hJ2 hc hlen hYx hvb hvk;gi_wp2
     refine HR.out.mono ?_;rintro e W3 (⟨rfl,hJ3,hk3⟩ | ⟨rfl,hJx3⟩)
     ·have hG3:=(hk3.2 _ _ _ hG2).trans hG2;have hb3:=hb2.trans hk3.1;have hs3:W.heap.size≤W3.heap.size:=nT hs2 (by have:=(Array.getElem?_eq_some_iff.1 hG3).1;exact Nat.le_of_lt_succ (Nat.lt_succ_of_le (nT (nR _) hk3.1.size)));rw[← HTK.out] at hJ3;clear HR hy hk3 hG2 hb2 hs2 c0 c1 c2 c3;gi_wp2
      go_roundw
      case rel=>exact⟨k+1,by omega,by go_num,hJ3,hG3,hb3,hs3⟩
      case measure=>simp[intOf];omega
     ·clear HR hy;gi_wp2
      refine bodyPost_ret (results_none rfl _ _ _) rfl ?_;exact⟨⟨_,rfl⟩,.inr ⟨_,HPF.out,hJx3⟩⟩
    ·have hke:k=yn:=(by omega);rw[hke,HYN.out,List.take_length] at hJs;clear hke;gi_wp2
     go_roundw
     case rel=>exact⟨1,by omega,by go_num,hJs,hGs,hbs,hWs⟩
     case measure=>simp[intOf]
  ·gi_wp2
   gi_loopw [19] (fun i wr=>∃ k:Nat,k≤on∧i=.int .i64 k∧J (ys++os.take k) wr∧wr.heap[W.heap.size]? = some (.cells #[.slice ay yn cy,.slice ao on co] 25 (0,0))∧Below w0.heap.size w0 wr∧W.heap.size≤wr.heap.size) (fun i _=>on-(intOf i).toNat)
   case atStart=>exact⟨0,Nat.zero_le _,rfl,by simpa using hJs,hGs,hbs,hWs⟩
   case round =>
    clear hJs hGs hbs g0 g1 hWs;obtain⟨k,hk,rfl,hJs,hGs,hbs,hWs⟩:=hrel;by_cases hlt:k<on
    ·have hkl:k<os.length:=(by rw[← HON.out];exact hlt);obtain⟨b,off,rfl,hc,-,-⟩:=(hro.below hbs).at k (by rw[List.length_map];exact hkl);rw[rt_nth hkl] at hc;obtain⟨x,hx⟩:∃ x,x=os[k]:=⟨_,rfl⟩;rw[← hx] at hc;have HTK:Hid (ys++os.take (k+1)=(ys++os.take k)++[x]):=(by rw[hx];exact znf hkl ys);have hlen:(ys++os.take k).length<yn+on:=by
      have h1:=HYN.out;have h2:=HON.out;simp;omega
     have HPF:Hid ((ys++os.take k)++[x] <+: ys++os):=by
      rw[← HTK.out];exact List.prefix_append_right_inj ys |>.2 (List.take_prefix _ _)
     obtain⟨c0,c1,c2,c3⟩:=id hc;have hkc:k<co:=(by omega);have hYx:=fun W hJ=>HY.out (ys++os.take k) x W hJ hlen
     obtain⟨ab,cb,hvb,-⟩:=id x.2.1;obtain⟨ak,ck,hvk,-⟩:=id x.2.2.1;generalize x.1.T.bits.length=bn at hvb;generalize x.1.T.blocks.length=kn at hvk;rw[hvb] at c2 hYx;rw[hvk] at c3 hYx;have hJ2:=HJ.out _ wr _ none hJs (World.grownBy_alloc wr (.cells #[.string x.1.T.first,.string x.1.T.last,.slice ab bn cb,.slice ak kn ck] 56) none) (fun r e=>by cases e);have hb2:=hbs.alloc hbs.size (.cells #[.string x.1.T.first,.string x.1.T.last,.slice ab bn cb,.slice ak kn ck] 56);have hG2:=(Below.heap_alloc wr (.cells #[.string x.1.T.first,.string x.1.T.last,.slice ab bn cb,.slice ak kn ck] 56) _ (Array.getElem?_eq_some_iff.1 hGs).1).trans hGs;have hs2:W.heap.size≤(wr.alloc (.cells #[.string x.1.T.first,.string x.1.T.last,.slice ab bn cb,.slice ak kn ck] 56)).heap.size:=(by simp;omega);obtain⟨fn,tmps,assign,body,hy,hR⟩:=hYx _ hJ2;have HR:Hid (RoundIn _ _ _ _ _ _ _ _ _ _):=hR;clear hR hx hkl hJs hGs hbs hWs hJ2 hc hlen hYx hvb hvk;gi_wp2
     refine HR.out.mono ?_;rintro e W3 (⟨rfl,hJ3,hk3⟩ | ⟨rfl,hJx3⟩)
     ·have hG3:=(hk3.2 _ _ _ hG2).trans hG2;have hb3:=hb2.trans hk3.1;have hs3:W.heap.size≤W3.heap.size:=nT hs2 (by have:=(Array.getElem?_eq_some_iff.1 hG3).1;exact Nat.le_of_lt_succ (Nat.lt_succ_of_le (nT (nR _) hk3.1.size)));rw[← HTK.out] at hJ3;clear HR hy hk3 hG2 hb2 hs2 c0 c1 c2 c3;gi_wp2
      go_roundw
      case rel=>exact⟨k+1,by omega,by go_num,hJ3,hG3,hb3,hs3⟩
      case measure=>simp[intOf];omega
     ·clear HR hy;gi_wp2
      refine bodyPost_ret (results_none rfl _ _ _) rfl ?_;exact⟨⟨_,rfl⟩,.inr ⟨_,HPF.out,hJx3⟩⟩
    ·have hke:k=on:=(by omega);rw[hke,HON.out,List.take_length] at hJs;clear hke;gi_wp2
     go_roundw
     case rel=>exact⟨2,by omega,by go_num,hJs,hGs,hbs,hWs⟩
     case measure=>simp[intOf]
  ·gi_wp2
   go_end0
   exact⟨⟨_,rfl⟩,.inl ⟨_,rfl,hJs⟩⟩
theorem zmA(X:TrX)(w:World) :
 Calls Tryz.prog 68 #[.agg #[X.vm,X.vy,X.vo,.int .i64 X.seq,X.vs]] w fun e w'=>e=.returned (.func (.func 105) #[] #[.pointer (some ⟨w.heap.size,0,none⟩)])∧w'=w.alloc (.cells #[X.vm,X.vy,X.vo,.int .i64 X.seq,X.vs] 28):=by
 go_enter Tryz.func68,Tryz.ntmps68
 go_wp2;go_ret;exact⟨rfl,rfl⟩
theorem zju(w0:World)(n:Nat)(hn:1≤n)(Bn:Nat)(vy vo:Value)(ys os:List (RT w0))(w:World)(hBn:Bn<w.heap.size)(h0:w0.heap.size≤w.heap.size)(c1:w.cell? ⟨Bn,1,none⟩=some vy)(c2:w.cell? ⟨Bn,2,none⟩=some vo)(hry:RdTs w0 vy (ys.map (·.1)))(hro:RdTs w0 vo (os.map (·.1)))(hb:Below w0.heap.size w0 w) :
 SeqStopsK Fence.wide n Tryz.prog 105 #[.pointer (some ⟨Bn,0,none⟩)] (fun x:RT w0=>#[.agg #[.string x.1.T.first,.string x.1.T.last,x.1.vb,x.1.vk]]) (KpT w0.heap.size) (fun zs=>zs=ys++os) (fun pre=>pre <+: ys++os) (ys.length+os.length) w:=fun l J Jx W hW hJ _ hY h1 =>
 zms w0 n hn l Bn vy vo ys os J Jx hY W hJ ((hW.cell (p:=⟨Bn,1,none⟩) hBn).trans c1) ((hW.cell (p:=⟨Bn,2,none⟩) hBn).trans c2) hry hro (hb.trans (hW.mono h0)) h1
def newAt(l:List Ent)(x:Ent):Bool:=match seenL l x.key 1000000 with
 | some y=>decide (y.seq<x.seq)
 | none=>true
def newIn(mem l:List Ent):Bool:=mem.all (newAt l)
theorem zhH{l:List Ent}{x:Ent}(h:seenL l x.key 1000000=none):newAt l x=true:=by unfold newAt;rw[h]
theorem zhg{l:List Ent}{x y:Ent}(h:seenL l x.key 1000000=some y):newAt l x=decide (y.seq<x.seq):=by unfold newAt;rw[h]
theorem zka{l:List Ent}(hl:okL l=true)(x:Ent):newAt l x=true↔∀ y∈l,x.key=y.key→y.seq<x.seq:=by
 have ho:=((zaD _).1 hl).2.1;have hs:Sr l:=zaV hl;have up:∀ y∈l,y.seq≤1000000:=fun y hy=>by
  have:=ho y hy;simp only[okE,Bool.and_eq_true,decide_eq_true_eq] at this;exact this.2
 cases h:seenL l x.key 1000000 with
 | none =>
  rw[zhH h];rw[zdp] at h;simp only[true_iff];intro y hy hk;exact absurd (up y hy) (h y hy hk.symm)
 | some e =>
  rw[zhg h,decide_eq_true_eq];rw[zbZ hs] at h;obtain⟨g1,g2,g3,g4⟩:=h;constructor
  ·intro hlt y hy hk;have:=g4 y hy hk.symm (up y hy);omega
  ·intro hall;exact hall e g1 g2.symm
theorem ziN{mem l:List Ent}(hl:okL l=true):newIn mem l=true↔∀ x∈mem,∀ y∈l,x.key=y.key→y.seq<x.seq:=by
 unfold newIn;rw[List.all_eq_true];exact⟨fun h x hx=>(zka hl x).1 (h x hx),fun h x hx=>(zka hl x).2 (h x hx)⟩
theorem newIn_no{mem l:List Ent}{i:Nat}(hi:i<mem.length)(h:newAt l (nth mem i)=false):newIn mem l=false:=by
 unfold newIn;rw[List.all_eq_false];exact⟨nth mem i,by rw[zU hi];exact List.getElem_mem hi,by rw[h];simp⟩
theorem zpd{mem l:List Ent}(h:∀ i,i<mem.length→newAt l (nth mem i)=true):newIn mem l=true:=by
 unfold newIn;rw[List.all_eq_true];intro x hx;obtain⟨i,hi,rfl⟩:=List.getElem_of_mem hx;rw[← zU hi];exact h i hi
def past(ls:List (List Ent))(q:Int):Bool:=ls.all (fun l=>l.all (fun e=>decide (e.seq≤q)))
def tabOk(mem:List Ent)(t:Tbl):Bool:=zT t&&newIn mem (zu t)
def zcC(T:Tre):Bool:=decide (T.young.length≤6)&&decide (T.old.length≤1)&&decide (0≤T.seq)&&decide (T.seq≤1000000)&&(decide (T.snaps.length≤10)&&zar T.seq T.snaps)&&okL T.mem
def zfI(T:Tre):Bool:=past (lsT T) T.seq&&decide ((zj (lsT T)).length=lenS (lsT T))
theorem zlJ(T:Tre):zI T=(zcC T&&(T.young++T.old).all (tabOk T.mem)&&zfI T):=by
 rw[Bool.eq_iff_iff,zQ];simp only[zcC,zfI,tabOk,past,Bool.and_eq_true,decide_eq_true_eq,List.all_eq_true];constructor
 ·intro h;refine⟨⟨⟨⟨⟨⟨⟨h.young,h.old⟩,h.seq0⟩,h.seq1⟩,h.few,h.snaps⟩,h.mem⟩,fun t ht=>⟨h.full t ht,?_⟩⟩,fun l hl e he=>h.top l hl e he,(zd3 (zfa h.mem)).2 h.apart⟩;rw[ziN (zac (h.full t ht)).1];exact fun x hx=>h.newer x hx _ (List.mem_map.2 ⟨t,ht,rfl⟩)
 ·rintro ⟨⟨⟨⟨⟨⟨⟨h1,h2⟩,h3⟩,h4⟩,h5,h6⟩,h7⟩,h8⟩,h9,h10⟩;refine⟨h7,h1,h2,fun t ht=>(h8 t ht).1,(zd3 (zfa h7)).1 h10,h3,h4,h5,h6,h9,fun x hx l hl=>?_⟩;obtain⟨t,ht,rfl⟩:=List.mem_map.1 hl;have:=h8 t ht;exact(ziN (zac this.1).1).1 this.2 x hx
theorem zdU{T:Tre}(h:zcC T=false):zI T=false:=by rw[zlJ,h];rfl
theorem unp_tab{T:Tre}{t:Tbl}(ht:t∈T.young++T.old)(h:tabOk T.mem t=false):zI T=false:=by
 rw[zlJ];have:(T.young++T.old).all (tabOk T.mem)=false:=by
  rw[List.all_eq_false];exact⟨t,ht,by rw[h];simp⟩
 rw[this];simp
theorem zmc{T:Tre}(h:zfI T=false):zI T=false:=by rw[zlJ,h];simp
theorem unp_yes{T:Tre}(h1:zcC T=true)(h2:∀ t∈T.young++T.old,tabOk T.mem t=true)(h3:zfI T=true):zI T=true:=by
 rw[zlJ,h1,h3,List.all_eq_true.2 h2];rfl
def unpL(T:Tre):List (List Ent):=if zI T=true then lsT T else []
theorem zd1{T:Tre}(h:zI T=true):unpL T=lsT T:=if_pos h
theorem zh0{T:Tre}(h:zI T=false):unpL T=[]:=if_neg (by rw[h];simp)
def noE:Ent:=⟨⟨#[]⟩,⟨#[]⟩,0,true⟩
def stepB(b:Ent):Option Ent→Ent
 | some e=>if b.seq<e.seq then e else b
 | none=>b
def foldB(k:ByteArray)(q:Int)(b:Ent)(ls:List (List Ent)):Ent:=ls.foldl (fun b l=>stepB b (seenL l k q)) b
theorem zmM(k:ByteArray)(q:Int):∀ (ls:List (List Ent)) (b:Ent),(foldB k q b ls=b∨∃ l∈ls,seenL l k q=some (foldB k q b ls))∧b.seq≤(foldB k q b ls).seq∧∀ m∈ls,∀ e,seenL m k q=some e→e.seq≤(foldB k q b ls).seq:=by
 intro ls;induction ls with
 | nil=>intro b;exact⟨.inl rfl,Int.le_refl _,fun m hm=>by cases hm⟩
 | cons l r ih =>
  intro b;have e:foldB k q b (l::r)=foldB k q (stepB b (seenL l k q)) r:=rfl;rw[e];obtain⟨h1,h2,h3⟩:=ih (stepB b (seenL l k q));cases hs:seenL l k q with
  | none =>
   rw[hs] at h1 h2 h3;have eb:stepB b none=b:=rfl;rw[eb] at h1 h2 h3 ⊢;refine⟨?_,h2,fun m hm e he=>?_⟩
   ·rcases h1 with h1 | ⟨m,hm,h1⟩
    ·exact .inl h1
    ·exact .inr ⟨m,List.mem_cons_of_mem _ hm,h1⟩
   ·rcases List.mem_cons.1 hm with rfl | hm
    ·rw[hs] at he;cases he
    ·exact h3 m hm e he
  | some y =>
   rw[hs] at h1 h2 h3;by_cases hlt:b.seq<y.seq
   ·have eb:stepB b (some y)=y:=if_pos hlt;rw[eb] at h1 h2 h3 ⊢;refine⟨?_,by omega,fun m hm e he=>?_⟩
    ·rcases h1 with h1 | ⟨m,hm,h1⟩
     ·exact .inr ⟨l,List.mem_cons_self,by rw[h1];exact hs⟩
     ·exact .inr ⟨m,List.mem_cons_of_mem _ hm,h1⟩
    ·rcases List.mem_cons.1 hm with rfl | hm
     ·rw[hs] at he;rw[← Option.some.inj he];exact h2
     ·exact h3 m hm e he
   ·have eb:stepB b (some y)=b:=if_neg hlt;rw[eb] at h1 h2 h3 ⊢;refine⟨?_,h2,fun m hm e he=>?_⟩
    ·rcases h1 with h1 | ⟨m,hm,h1⟩
     ·exact .inl h1
     ·exact .inr ⟨m,List.mem_cons_of_mem _ hm,h1⟩
    ·rcases List.mem_cons.1 hm with rfl | hm
     ·rw[hs] at he;rw[← Option.some.inj he];omega
     ·exact h3 m hm e he
theorem znn{T:Tre}(h:TreeP T)(k:ByteArray)(q:Int):foldB k q noE (lsT T)=(seenL (zj (lsT T)) k q).getD noE:=by
 obtain⟨h1,h2,h3⟩:=zmM k q (lsT T) noE;have okm:∀ l∈lsT T,okL l=true:=fun l hl=>by
  rcases List.mem_cons.1 hl with rfl | hl
  ·exact h.mem
  ·obtain⟨t,ht,rfl⟩:=List.mem_map.1 hl;exact(zac (h.full t ht)).1
 have inM:∀ l∈lsT T,∀ e,seenL l k q=some e→e∈zj (lsT T)∧e.key=k∧e.seq≤q:=fun l hl e he=>by
  have:=(zbZ (zaV (okm l hl)) k q e).1 he;exact⟨(h.all e).2 ⟨l,hl,this.1⟩,this.2.1,this.2.2.1⟩
 cases hs:seenL (zj (lsT T)) k q with
 | none =>
  rw[zdp] at hs;rcases h1 with h1 | ⟨l,hl,h1⟩
  ·exact h1
  ·obtain⟨a,b,c⟩:=inM l hl _ h1;exact absurd c (hs _ a b)
 | some e =>
  rw[zbZ h.sr] at hs;obtain⟨g1,g2,g3,g4⟩:=hs;obtain⟨l,hl,hel⟩:=(h.all e).1 g1;have he1:1≤e.seq:=by
   have:=((zaD _).1 (okm l hl)).2.1 e hel;simp only[okE,Bool.and_eq_true,decide_eq_true_eq] at this;exact this.1.2
  have her:e.seq≤(foldB k q noE (lsT T)).seq:=by
   cases hl2:seenL l k q with
   | none=>rw[zdp] at hl2;exact absurd g3 (hl2 e hel g2)
   | some y =>
    have hy:=(zbZ (zaV (okm l hl)) k q y).1 hl2;have:=hy.2.2.2 e hel g2 g3;have:=h3 l hl y hl2;omega
  rcases h1 with h1 | ⟨m,hm,h1⟩
  ·rw[h1] at her;have:noE.seq=0:=rfl;omega
  ·obtain⟨a,b,c⟩:=inM m hm _ h1;have:=g4 _ a b c;show foldB k q noE (lsT T)=e;exact ks_eq h.sr a g1 (by rw[b,g2]) (by omega)
theorem zo5(T:Tre)(k:ByteArray)(q:Int):((foldB k q noE (unpL T)).val,!(foldB k q noE (unpL T)).gone)=((readT T k q).getD ⟨#[]⟩,(readT T k q).isSome):=by
 cases ht:zI T with
 | false =>
  rw[zh0 ht];unfold readT;rw[if_neg (by rw[ht];simp)];rfl
 | true =>
  have h:=(zQ T).1 ht;rw[zd1 ht,znn h,zdY h];unfold readL;cases hs:seenL (zj (lsT T)) k q with
  | none=>rfl
  | some e =>
   rw[zbZ h.sr] at hs;obtain⟨l,hl,hel⟩:=(h.all e).1 hs.1;have hok:okE e=true:=by
    rcases List.mem_cons.1 hl with rfl | hl
    ·exact((zaD _).1 h.mem).2.1 e hel
    ·exact zgM h hl hel
   simp only[okE,Bool.and_eq_true,decide_eq_true_eq,Bool.or_eq_true,Bool.not_eq_true'] at hok;obtain⟨⟨⟨⟨_,_⟩,hg⟩,_⟩,_⟩:=hok;show (e.val,!e.gone)=((tellE (some e)).getD ⟨#[]⟩,(tellE (some e)).isSome);unfold tellE;cases hgo:e.gone with
   | false=>simp[hgo]
   | true =>
    rw[hgo] at hg;have hz:e.val=⟨#[]⟩:=by
     rcases hg with hg | hg
     ·cases hg
     ·apply ByteArray.ext;exact Array.eq_empty_of_size_eq_zero hg
    simp[hz,hgo]
open Go.RowKit
def zet(ss:List Int)(k:Nat):Int:=if k=0 then -1 else ss.getD (k-1) 0
theorem zmH{seq:Int}{ss:List Int}{k:Nat}{x p:Int}(hx:ss.getD k 0=x)(hp:p=zet ss k)(h:x≤p):zbB seq ss k=false:=by
 unfold zbB;rw[hx];unfold zet at hp;by_cases hk:k=0
 ·rw[if_pos hk] at hp;rw[decide_eq_false (show ¬ (0:Int)≤x by omega)];rfl
 ·rw[if_neg hk] at hp;rw[decide_eq_false hk,decide_eq_false (show ¬ ss.getD (k-1) 0<x by omega)];simp
theorem zmC{seq:Int}{ss:List Int}{k:Nat}{x:Int}(hx:ss.getD k 0=x)(h:seq<x):zbB seq ss k=false:=by
 unfold zbB;rw[hx,decide_eq_false (show ¬ x≤seq by omega)];simp
theorem zno{seq:Int}{ss:List Int}{k:Nat}{x p:Int}(hx:ss.getD k 0=x)(hp:p=zet ss k)(h0 : -1≤p)(h:¬ x≤p)(h2:¬ seq<x):zbB seq ss k=true:=by
 unfold zbB;rw[hx,decide_eq_true (show (0:Int)≤x by omega),decide_eq_true (show x≤seq by omega)];unfold zet at hp;by_cases hk:k=0
 ·rw[decide_eq_true hk];rfl
 ·rw[if_neg hk] at hp;rw[decide_eq_true (show ss.getD (k-1) 0<x by omega)];simp
theorem zhU(v:Value)(ss:List Int)(seq:Int)(w:World)(hr:RdI w v ss) :
 Calls Tryz.prog 67 #[v,.int .i64 seq] w fun e w'=>e=.returned (.bool (decide (ss.length≤10)&&zar seq ss))∧Below w.heap.size w w':=by
 obtain⟨a,cap,hv,hl,hm,_⟩:=id hr;obtain⟨nn,hnn⟩:∃ nn,nn=ss.length:=⟨_,rfl⟩;have HNN:Hid (nn=ss.length):=hnn;rw[← hnn] at hv hl ⊢;subst hv;unfold maxLen at hm;clear hnn;by_cases h10:10<nn
 ·have RES:Hid ((decide (nn≤10)&&zar seq ss)=false):=by unfold Hid;rw[decide_eq_false (show ¬ nn≤10 by omega)];rfl
  have h10i:(10:Int)<(nn:Int):=by omega
  go_enter Tryz.func67,Tryz.ntmps67
  go_wp2;go_ret;exact⟨zN RES.out.symm,Below.refl _ _⟩
 ·have h10i:¬ (10:Int)<(nn:Int):=by omega
  have RES:Hid ((decide (nn≤10)&&zar seq ss)=zar seq ss):=by unfold Hid;rw[decide_eq_true (show nn≤10 by omega)];rfl
  rw[RES.out];clear RES;go_enter Tryz.func67,Tryz.ntmps67
  go_wp2;go_loopw [5,13] (fun ah i wr=>∃ (k:Nat) (p:Int),k≤nn∧i=.int .i64 k∧ah=.int .i64 p∧-1≤p∧Hid (p=zet ss k)∧Hid (∀ j,j<k→zbB seq ss j=true)∧Below w.heap.size w wr) (fun _ i _=>nn-(intOf i).toNat)
  case atStart=>exact⟨0,-1,Nat.zero_le _,rfl,rfl,by omega,rfl,(fun j h=>by omega),Below.refl _ _⟩
  case round =>
   obtain⟨k,p,hk,rfl,rfl,hp1,HP,HH,hb⟩:=hrel;by_cases hlt:k<nn
   ·have hkl:k<ss.length:=(by rw[← HNN.out];exact hlt);obtain⟨b,off,rfl,hc⟩:=(hr.below hb).at k hkl;obtain⟨x,hxx⟩:∃ x,x=ss[k]:=⟨_,rfl⟩;rw[← hxx] at hc;have hgx:ss.getD k 0=x:=(by rw[hxx];exact zkS hkl);have hkc:k<cap:=(by omega);by_cases h1:x≤p
    ·skip
     have RES:Hid (zar seq ss=false):=zfQ hkl (zmH hgx HP.out h1);clear hxx hgx hkl HH;go_wp2;go_ret;exact⟨zN RES.out.symm,hb⟩
    ·by_cases h2:seq<x
     ·skip
      have RES:Hid (zar seq ss=false):=zfQ hkl (zmC hgx h2);clear hxx hgx hkl HH;go_wp2;go_ret;exact⟨zN RES.out.symm,hb⟩
     ·skip
      have HH2:Hid (∀ j,j<k+1→zbB seq ss j=true):=fun j hj=>by
       by_cases e:j=k
       ·rw[e];exact zno hgx HP.out hp1 h1 h2
       ·exact HH.out j (by omega)
      have HP2:Hid (x=zet ss (k+1)):=(by unfold Hid zet;rw[if_neg (by omega)];exact hgx.symm);clear hxx hgx hkl HH HP;go_wp2;go_roundw
      case rel=>exact⟨k+1,x,by omega,by go_num,rfl,by omega,HP2,HH2,hb⟩
      case measure=>simp[intOf];omega
   ·skip
    have RES:Hid (zar seq ss=true):=zjc (fun i hi=>HH.out i (by have:=HNN.out;omega));go_wp2;go_ret;exact⟨zN RES.out.symm,hb⟩
theorem zkn(vm vl:Value)(mem l:List Ent)(w:World)(hm:RdE w vm mem)(hl:RdE w vl l)(hok:okL l=true) :
 Calls Tryz.prog 70 #[vm,vl] w fun e w'=>e=.returned (.bool (newIn mem l))∧Below w.heap.size w w':=by
 obtain⟨a,cap,hv,hla,hma,_⟩:=id hm;obtain⟨nn,hnn⟩:∃ nn,nn=mem.length:=⟨_,rfl⟩;have HNN:Hid (nn=mem.length):=hnn;rw[← hnn] at hv hla;subst hv;unfold maxLen at hma;have HS:Hid (∀ key W,RdE W vl l→Calls Tryz.prog 49 #[vl,.string key,.int .i64 1000000] W fun e w'=>zdZ W (seenL l key 1000000) e w'):=fun key W h=>zht vl l key 1000000 W h hok
 clear hnn;go_enter Tryz.func70,Tryz.ntmps70
 go_wp2;go_loopw [11] (fun i wr=>∃ k:Nat,k≤nn∧i=.int .i64 k∧Hid (∀ j,j<k→newAt l (nth mem j)=true)∧Below w.heap.size w wr) (fun i _=>nn-(intOf i).toNat)
 case atStart=>exact⟨0,Nat.zero_le _,rfl,(fun j h=>by omega),Below.refl _ _⟩
 case round =>
  obtain⟨k,hk,rfl,HH,hb⟩:=hrel;by_cases hlt:k<nn
  ·have hkl:k<mem.length:=(by rw[← HNN.out];exact hlt);obtain⟨b,off,rfl,hc⟩:=(hm.below hb).at HNN.out k hkl;obtain⟨x,hx⟩:∃ x,x=nth mem k:=⟨_,rfl⟩;rw[← hx] at hc;obtain⟨c0,c1,c2,c3⟩:=id hc;have hkc:k<cap:=(by omega);have hbx:=zbJ wr x 40;have b1:=ze wr (.cells #[.string x.key,.string x.val,.int .i64 x.seq,.bool x.gone] 40);have bw1:=hb.trans (b1.mono hb.size);have HC:Hid (Calls _ _ _ _ _):=HS.out x.key _ (hl.below bw1);have HN:Hid (seenL l x.key 1000000=none→newAt l (nth mem k)=true):=fun h=>by rw[← hx];exact zhH h
   have HY:Hid (∀ y,seenL l x.key 1000000=some y→newAt l (nth mem k)=decide (y.seq<x.seq)):=fun y h=>by rw[← hx];exact zhg h
   have HX:Hid (newAt l (nth mem k)=false→newIn mem l=false):=fun h=>newIn_no hkl h
   clear hx hkl;generalize seenL l x.key 1000000=o at HC HN HY;cases o with
   | none =>
    have HH2:Hid (∀ j,j<k+1→newAt l (nth mem j)=true):=fun j hj=>by
     by_cases e:j=k
     ·rw[e];exact HN.out rfl
     ·exact HH.out j (by omega)
    go_wp2_with fail
    refine HC.out.mono ?_;rintro e w2 ⟨he,hb2⟩;obtain rfl:e=.returned (.tuple #[.agg #[.string ⟨#[]⟩,.string ⟨#[]⟩,.int .i64 0,.bool false],.bool false]):=he;have hx2:=hbx.below hb2;have b2:=bw1.trans (hb2.mono bw1.size);obtain⟨d0,d1,d2,d3⟩:=id hx2;clear HC HN HY HX hbx b1 bw1 c0 c1 c2 c3 hc hb hb2;go_wp2;go_roundw
    case rel=>exact⟨k+1,by omega,by go_num,HH2,b2.alloc b2.size _⟩
    case measure=>simp[intOf];omega
   | some y =>
    by_cases hlt2:y.seq<x.seq
    ·skip
     have HH2:Hid (∀ j,j<k+1→newAt l (nth mem j)=true):=fun j hj=>by
      by_cases e:j=k
      ·rw[e,HY.out y rfl];exact decide_eq_true hlt2
      ·exact HH.out j (by omega)
     go_wp2_with fail
     refine HC.out.mono ?_;rintro e w2 ⟨he,hb2⟩;obtain rfl:e=.returned (.tuple #[.agg #[.string y.key,.string y.val,.int .i64 y.seq,.bool y.gone],.bool true]):=he;have hx2:=hbx.below hb2;have b2:=bw1.trans (hb2.mono bw1.size);have bb3:=ze w2 (.cells #[.string y.key,.string y.val,.int .i64 y.seq,.bool y.gone] 40);obtain⟨d0,d1,d2,d3⟩:=hx2.below bb3;obtain⟨e0,e1,e2,e3⟩:=zbJ w2 y 40;have hge:¬ x.seq≤y.seq:=(by omega);clear HC HN HY HX hbx b1 bw1 c0 c1 c2 c3 hc hb hb2 bb3;go_wp2;go_roundw
     case rel=>exact⟨k+1,by omega,by go_num,HH2,b2.alloc b2.size _⟩
     case measure=>simp[intOf];omega
    ·skip
     have RES:Hid (newIn mem l=false):=HX.out (by rw[HY.out y rfl];exact decide_eq_false hlt2);go_wp2_with fail
     refine HC.out.mono ?_;rintro e w2 ⟨he,hb2⟩;obtain rfl:e=.returned (.tuple #[.agg #[.string y.key,.string y.val,.int .i64 y.seq,.bool y.gone],.bool true]):=he;have hx2:=hbx.below hb2;have b2:=bw1.trans (hb2.mono bw1.size);have bb3:=ze w2 (.cells #[.string y.key,.string y.val,.int .i64 y.seq,.bool y.gone] 40);obtain⟨d0,d1,d2,d3⟩:=hx2.below bb3;obtain⟨e0,e1,e2,e3⟩:=zbJ w2 y 40;have hge:x.seq≤y.seq:=(by omega);clear HC HN HY HX hbx b1 bw1 c0 c1 c2 c3 hc hb hb2 bb3;go_wp2;go_ret;exact⟨zN RES.out.symm,b2.alloc b2.size _⟩
  ·skip
   have RES:Hid (newIn mem l=true):=zpd (fun i hi=>HH.out i (by have:=HNN.out;omega));go_wp2;go_ret;exact⟨zN RES.out.symm,hb⟩
theorem past_no{ls:List (List Ent)}{k:Nat}{l:List Ent}{q:Int}(h:ls[k]? = some l){i:Nat}(hi:i<l.length)(hn:q<(nth l i).seq):past ls q=false:=by
 unfold past;rw[List.all_eq_false];refine⟨l,List.mem_of_getElem? h,?_⟩;rw[top_no hi (by omega)];simp
theorem past_yes{ls:List (List Ent)}{q:Int}(h:∀ (k:Nat) (l:List Ent),ls[k]? = some l→∀ i,i<l.length→(nth l i).seq≤q):past ls q=true:=by
 unfold past;rw[List.all_eq_true];intro l hl;obtain⟨k,hk,rfl⟩:=List.getElem_of_mem hl;exact znD (h k _ (List.getElem?_eq_getElem hk))
theorem zg0(v:Value)(ps:List (Value×List Ent))(seq:Int)(w:World)(hp:Pieces w v ps) :
 Calls Tryz.prog 71 #[v,.int .i64 seq] w fun e w'=>e=.returned (.bool (past (ps.map (·.2)) seq))∧Below w.heap.size w w':=by
 obtain⟨a,cap,hv,hla,hma,hat⟩:=hp.at;obtain⟨ls,hls⟩:∃ ls,ls=ps.map (·.2):=⟨_,rfl⟩;have hln:ls.length=ps.length:=by rw[hls,List.length_map]
 rw[← hls] at hat ⊢;obtain⟨nn,hnn⟩:∃ nn,nn=ps.length:=⟨_,rfl⟩;rw[← hnn] at hv hla hat hln;have AT:Hid (∀ k,k<nn→_):=hat;have HLN:Hid (ls.length=nn):=hln;unfold maxLen at hma;subst hv;clear hat hln hnn hls hp;go_enter Tryz.func71,Tryz.ntmps71
 go_wp2;go_loopw [11] (fun i wr=>∃ k:Nat,k≤nn∧i=.int .i64 k∧Hid (∀ (j:Nat) (l:List Ent),j<k→ls[j]? = some l→∀ i,i<l.length→(nth l i).seq≤seq)∧Below w.heap.size w wr) (fun i _=>nn-(intOf i).toNat)
 case atStart=>exact⟨0,Nat.zero_le _,rfl,(fun j l h=>absurd h (Nat.not_lt_zero _)),Below.refl _ _⟩
 case round =>
  obtain⟨k,hk,rfl,HH,hb⟩:=hrel;by_cases hlt:k<nn
  ·obtain⟨b,off,aa,zn,cc,zs,rfl,hc,hrz,hlz⟩:=AT.out k hlt wr hb;have HLZ:Hid (ls[k]? = some zs):=hlz;have hkc:k<cap:=(by omega);obtain⟨a2,c2,hv2,hl2,hm2,_⟩:=id hrz;simp only[Value.slice.injEq] at hv2;obtain⟨e1,e2,e3⟩:=hv2;have HZN:Hid (zn=zs.length):=e2;subst e1;subst e3;rw[← e2] at hl2;unfold maxLen at hm2;clear hlz e2;go_wp2;go_loopw [17] (fun i wr2=>∃ j:Nat,j≤zn∧i=.int .i64 j∧Hid (∀ i,i<j→(nth zs i).seq≤seq)∧Below wr.heap.size wr wr2) (fun i _=>zn-(intOf i).toNat)
   case atStart=>exact⟨0,Nat.zero_le _,rfl,(fun j h=>by omega),Below.refl _ _⟩
   case round =>
    obtain⟨j,hj,rfl,HJ,hb2⟩:=hrel;by_cases hlj:j<zn
    ·have hjl:j<zs.length:=(by rw[← HZN.out];exact hlj);obtain⟨b2,off2,rfl,hc2⟩:=(hrz.below hb2).at HZN.out j hjl;obtain⟨y,hy⟩:∃ y,y=nth zs j:=⟨_,rfl⟩;rw[← hy] at hc2;obtain⟨d0,d1,d2,d3⟩:=id hc2;have hjc:j<cc:=(by omega);by_cases hgt:seq<y.seq
     ·skip
      have RES:Hid (past ls seq=false):=past_no HLZ.out hjl (by rw[← hy];exact hgt);clear hy hjl;go_wp2;go_ret;exact⟨zN RES.out.symm,(hb.trans (hb2.mono hb.size)).alloc (hb.trans (hb2.mono hb.size)).size _⟩
     ·skip
      have HJ2:Hid (∀ i,i<j+1→(nth zs i).seq≤seq):=fun i hi=>by
       by_cases e:i=j
       ·rw[e,← hy];omega
       ·exact HJ.out i (by omega)
      clear hy hjl HJ;go_wp2;go_roundw
      case rel=>exact⟨j+1,by omega,by go_num,HJ2,hb2.alloc hb2.size _⟩
      case measure=>simp[intOf];omega
    ·skip
     have HH2:Hid (∀ (i:Nat) (l:List Ent),i<k+1→ls[i]? = some l→∀ i,i<l.length→(nth l i).seq≤seq):=fun i l hi hl=>by
      by_cases e:i=k
      ·rw[e,HLZ.out] at hl;rw[← Option.some.inj hl];exact fun i hi=>HJ.out i (by have:=HZN.out;omega)
      ·exact HH.out i l (by omega) hl
     have b3:=hb.trans (hb2.mono hb.size);clear HJ HH hb hb2;go_wp2;go_roundw
     case rel=>exact⟨k+1,by omega,by go_num,HH2,b3⟩
     case measure=>simp[intOf];omega
  ·skip
   have RES:Hid (past ls seq=true):=past_yes (fun j l hl=>HH.out j l (by have:=(List.getElem?_eq_some_iff.1 hl).1;have:=HLN.out;omega) hl);go_wp2;go_ret;exact⟨zN RES.out.symm,hb⟩
theorem znt{ls:List (List Ent)}{k:Nat}{l:List Ent}(h:ls[k]? = some l):lenS (ls.take (k+1))=lenS (ls.take k)+l.length:=by
 have hk:k<ls.length:=(List.getElem?_eq_some_iff.1 h).1;have hl:ls[k]=l:=(List.getElem?_eq_some_iff.1 h).2;unfold lenS;rw[List.take_succ_eq_append_getElem hk,List.map_append,List.sum_append,hl];simp
theorem zf3(v:Value)(ps:List (Value×List Ent))(w:World)(hp:Pieces w v ps)(hn:ps.length≤20)(hok:∀ p∈ps,okL p.2=true) :
 Calls Tryz.prog 72 #[v] w fun e w'=>e=.returned (.bool (decide ((zj (ps.map (·.2))).length=lenS (ps.map (·.2)))))∧Below w.heap.size w w':=by
 obtain⟨a,cap,hv,hla,hma,hat⟩:=hp.at;have HM:Hid (∀ W,Below w.heap.size w W→Calls Tryz.prog 74 #[v] W fun e w'=>zbq W (zj (ps.map (·.2))) e w'):=fun W hb=>zdi v ps W (hp.below hb) hn hok
 obtain⟨ls,hls⟩:∃ ls,ls=ps.map (·.2):=⟨_,rfl⟩;have hln:ls.length=ps.length:=by rw[hls,List.length_map]
 have HOK:Hid (∀ l∈ls,l.length≤300):=fun l hl=>by
  rw[hls] at hl;obtain⟨p,hp',rfl⟩:=List.mem_map.1 hl;exact zad (hok p hp')
 have HML:Hid ((zj ls).length≤6000):=by
  have:=zga ps (fun p hp=>zad (hok p hp));unfold Hid;rw[hls];omega
 rw[← hls] at hat HM ⊢;obtain⟨nn,hnn⟩:∃ nn,nn=ps.length:=⟨_,rfl⟩;rw[← hnn] at hv hla hat hln hn;have AT:Hid (∀ k,k<nn→_):=hat;have HLN:Hid (ls.length=nn):=hln;unfold maxLen at hma;subst hv;clear hat hln hnn hls hp hok;go_enter Tryz.func72,Tryz.ntmps72
 go_wp2;go_loopw [3,8] (fun s i wr=>∃ (k z:Nat),k≤nn∧i=.int .i64 k∧s=.int .i64 z∧z≤300*k∧Hid (z=lenS (ls.take k))∧Below w.heap.size w wr) (fun _ i _=>nn-(intOf i).toNat)
 case atStart=>exact⟨0,0,Nat.zero_le _,rfl,rfl,nR _,by unfold Hid;simp[lenS],Below.refl _ _⟩
 case round =>
  obtain⟨k,z,hk,rfl,rfl,hz,HZ,hb⟩:=hrel;by_cases hlt:k<nn
  ·obtain⟨b,off,aa,zn,cc,zs,rfl,hc,hrz,hlz⟩:=AT.out k hlt wr hb;have HLZ:Hid (ls[k]? = some zs):=hlz;have hzl:=HOK.out zs (List.mem_of_getElem? hlz);have hkc:k<cap:=(by omega);obtain⟨a2,c2,hv2,_⟩:=id hrz;simp only[Value.slice.injEq] at hv2;have HZN:Hid (zn=zs.length):=hv2.2.1;rw[← hv2.2.1] at hzl;have HZ2:Hid (z+zn=lenS (ls.take (k+1))):=(by unfold Hid;rw[znt HLZ.out,HZ.out,HZN.out]);clear hlz hv2 hrz;go_wp2;go_roundw
   case rel=>exact⟨k+1,z+zn,by omega,by go_num,by go_num,by omega,HZ2,hb⟩
   case measure=>simp[intOf];omega
  ·skip
   have hke:k=nn:=(by omega);have HZ2:Hid (z=lenS ls):=(by have:=HZ.out;rw[hke,← HLN.out,List.take_length] at this;exact this);have hml:=HML.out;clear hke HZ;go_wp2_with fail
   refine(HM.out _ hb).mono ?_;rintro e w2 ⟨u,rfl,ho2,hb2⟩;have b2:=hb.trans (hb2.mono hb.size);obtain⟨a2,c2,hv2,-⟩:=id ho2.rd;obtain⟨m,hmm⟩:∃ m,m=(zj ls).length:=⟨_,rfl⟩;rw[← hmm] at hv2 hml;subst hv2;have HMM:Hid (m=(zj ls).length):=hmm;clear hmm ho2 hb2 hb HM AT;by_cases hmz:m=z
   ·have RES:Hid (decide ((zj ls).length=lenS ls)=true):=(by unfold Hid;rw[← HMM.out,← HZ2.out];exact decide_eq_true hmz);subst hmz;go_wp2;go_ret;exact⟨zN RES.out.symm,b2⟩
   ·have RES:Hid (decide ((zj ls).length=lenS ls)=false):=(by unfold Hid;rw[← HMM.out,← HZ2.out];exact decide_eq_false hmz);have hmi:((m:Int)==(z:Int))=false:=(by rw[beq_eq_false_iff_ne];omega);go_wp2;go_ret;exact⟨zN RES.out.symm,b2⟩
end Go.Proofs.YtjlnchhgkfnldaaGreat
