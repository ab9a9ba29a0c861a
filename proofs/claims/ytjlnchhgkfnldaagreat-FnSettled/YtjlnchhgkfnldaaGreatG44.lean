import Derived.Shelf.Spec.SlicesInsert
import Derived.Lib.AppendZerosOnto
import Derived.Maps.AppendAt
import Derived.Lib.Overlaps
import Derived.Shelf.RegionOpenPlain
import Derived.Test.YtjlnchhgkfnldaaGreatTreSnk3
namespace Go.Proofs.YtjlnchhgkfnldaaGreat
set_option maxHeartbeats 16000000
set_option maxRecDepth 100000
open Go.RowKit Go.Lib
theorem zb9{w:World}{g off dLen b o sLen k:Nat}{xs cur:List Value}(hg:w.heap[g]? = some (.cells cur.toArray 56 (0,0)))(hc:∀ j v,xs[j]? = some v→w.cell? ((⟨b,o,none⟩:Addr).add j)=some v)(hmin:Nat.min sLen dLen=k)(hxl:xs.length=k*4)(h1:∀ u∈xs,u.oneCell'=true)(hfit:off+xs.length≤cur.length) :
 ∃ w',(∀ ty dCap sCap,(Builtin.copy_ #[25,25] ty #[.slice (some ⟨g,off,none⟩) dLen dCap,.slice (some ⟨b,o,none⟩) sLen sCap]).run Tryz.prog w=.ok (goInt k) w')∧w'.heap[g]? = some (.cells (splice cur off xs).toArray 56 (0,0))∧w.grownBy w' (some g):=by
 obtain⟨i0,hi,hz0,hz1,hz2⟩:=info_parts Tryz.infoT56;have hl:=run_loadCells_list (P:=Tryz.prog) w ⟨b,o,none⟩ xs hc;have hst:=run_storeCells_at Tryz.prog g off 56 xs 0 cur.toArray w hg (by simpa using hfit) h1;refine⟨_,fun ty dCap sCap=>?_,setRow_heap w g cur.toArray _ _ _ hg,⟨rfl,rfl,rfl,by simp[World.setRow],fun k _ hk=>setRow_other w g k _ (fun e=>hk (by simp[e]))⟩⟩;rw[hxl] at hl;simp[Builtin.copy_,run_underlying Tryz.underlying25,Builtin.lenOf,Builtin.firstCells,sizeOf,typeInfo,hi,hz1,hmin,hl,hst,splice]
theorem zoT{cur xs tc:List Value}{n:Nat}(hx:cur.take (n*4)=xs)(hl:(n+1)*4≤cur.length)(ht:tc.length=4):(splice (splice cur 4 xs) 0 tc).take ((n+1)*4)=tc++xs∧(splice (splice cur 4 xs) 0 tc).length=cur.length:=by
 have hxl:xs.length=n*4:=by rw[← hx,List.length_take];omega
 have e:splice (splice cur 4 xs) 0 tc=tc++xs++cur.drop (4+xs.length):=by
  unfold splice;rw[ht,List.take_zero,List.nil_append,List.drop_append,List.drop_eq_nil_of_le (by rw[List.length_take];omega),List.length_take,List.nil_append,show 0+4-min 4 cur.length=0 by omega,List.drop_zero,List.append_assoc]
 rw[e];constructor
 ·rw[List.take_append_of_le_length (by rw[lA];omega),List.take_of_length_le (by rw[lA];omega)]
 ·rw[lA,lA,List.length_drop];omega
theorem ins_grow{cur xs tc:List Value}{n:Nat}(hxl:xs.length=n*4)(hl:(n+1)*4≤cur.length)(ht:tc.length=4):(splice (splice cur 0 tc) 4 xs).take ((n+1)*4)=tc++xs∧(splice (splice cur 0 tc) 4 xs).length=cur.length:=by
 have e0:splice cur 0 tc=tc++cur.drop 4:=by
  unfold splice;rw[ht,List.take_zero,List.nil_append]
 have e:splice (splice cur 0 tc) 4 xs=tc++xs++(tc++cur.drop 4).drop (4+xs.length):=by
  rw[e0];unfold splice;rw[List.take_append_of_le_length (by omega),List.take_of_length_le (by omega),List.append_assoc]
 rw[e];constructor
 ·rw[List.take_append_of_le_length (by rw[lA];omega),List.take_of_length_le (by rw[lA];omega)]
 ·rw[lA,lA,List.length_drop,lA,List.length_drop];omega
def zel(w:World)(lo:Nat)(v:Value)(t:TV)(ys:List TV)(e:Ending)(w':World):Prop :=
 ∃ v',e=.returned v'∧OwnT w' lo v' (t::ys)∧w.grownBy w' v.ownBlock∧(v'.ownBlock=v.ownBlock∨v'.ownBlock=some w.heap.size)
theorem zoC(t:TV):(TC t).length=4:=rfl
theorem ze7{w:World}{h:Nat}{xs:List Value}(hh:w.heap[h]? = some (.cells xs.toArray 56 (0,0))):∀ j v,xs[j]? = some v→w.cell? ((⟨h,0,none⟩:Addr).add j)=some v:=by
 intro j v hj;rw[Addr.add_lit];simp[World.cell?,hh,hj]
theorem ins_none(v:Value)(lo h:Nat)(t:TV)(w:World)(hv:OwnT w lo v [])(hlo:lo≤w.heap.size)(hh:w.heap[h]? = some (.cells (TC t).toArray 56 (0,0)))(h1t:∀ u∈TC t,u.oneCell'=true) :
 Calls Tryz.prog 32 #[v,.int .i64 0,.slice (some ⟨h,0,none⟩) 1 1] w fun e w'=>zel w lo v t [] e w':=by
 obtain⟨i0,hi,hz0,hz1,hz2⟩:=info_parts Tryz.infoT56;have hca:=ze7 hh;obtain⟨v',w',hrun,r1,r2,-,r3⟩:=run_append_own_at (P:=Tryz.prog) w lo 25 25 56 i0 _ 4 80 Tryz.underlying25 hi hz0 hz1 hz2 rfl (by decide) v 0 [] hv ⟨h,0,none⟩ 1 1 (TC t) rfl hca h1t (by unfold maxLen;omega) (by omega) hlo;have END:Hid (zel w lo v t [] (.returned v') w'):=⟨v',rfl,by simpa [OwnT,TVs] using r1,r2,r3⟩;have HR:Hid ((Builtin.append_ #[25,25] 25 #[v,.slice (some ⟨h,0,none⟩) 1 1]).run Tryz.prog w=.ok v' w'):=hrun;clear r1 r2 r3 hrun hca hh;rcases hv.2 with ⟨rfl,-⟩ | ⟨g,cap,cur,rfl,-,-,-,hc2,-⟩
 ·go_enter Tryz.func32,Tryz.ntmps32
  go_wp2_with (at_builtin;refine Lib.wpList_append_run _ rfl _ _ _ _ rfl _ _ rfl rfl _ _ HR.out ?_)
  go_ret;exact END.out
 ·unfold maxLen at hc2;go_enter Tryz.func32,Tryz.ntmps32
  go_wp2_with (at_builtin;refine Lib.wpList_append_run _ rfl _ _ _ _ rfl _ _ rfl rfl _ _ HR.out ?_)
  all_goals go_ret
  all_goals exact END.out
theorem ins_room(g cap n lo h:Nat)(cur:Array Value)(t:TV)(ys:List TV)(w:World)(hn:n=ys.length)(hn0:0<n)(hn6:n≤6)(hlg:lo≤g)(hg:w.heap[g]? = some (.cells cur 56 (0,0)))(hroom:n+1≤cap)(hcm:cap≤maxLen)(hcs:cur.size=cap*4)(hct:cur.toList.take (n*4)=TVs ys)(hne:h≠g)(hh:w.heap[h]? = some (.cells (TC t).toArray 56 (0,0)))(h1t:∀ u∈TC t,u.oneCell'=true)(h1y:∀ u∈TVs ys,u.oneCell'=true) :
 Calls Tryz.prog 32 #[.slice (some ⟨g,0,none⟩) n cap,.int .i64 0,.slice (some ⟨h,0,none⟩) 1 1] w fun e w'=>zel w lo (.slice (some ⟨g,0,none⟩) n cap) t ys e w':=by
 obtain⟨i0,hi,hz0,hz1,hz2⟩:=info_parts Tryz.infoT56;have hg':w.heap[g]? = some (.cells cur.toList.toArray 56 (0,0)):=hg;have hyl:(TVs ys).length=n*4:=by rw[zch,hn]
 have hcl:cur.toList.length=cap*4:=by simpa using hcs
 have hsz:∀ w,(Go.sizeOf 56).run Tryz.prog w=.ok 4 w:=fun w=>by simp[Go.sizeOf,typeInfo,hi,hz1]
 have hov:∀ lb cb,(callFunc 65 #[.slice (some ⟨h,0,none⟩) 1 1,.slice (some ⟨g,4,none⟩) lb cb]).run Tryz.prog w=.ok (.value (.bool false)) w:=fun lb cb=>by
  rw[run_callFunc_extern Tryz.func65 (by kernel_rfl) (by kernel_rfl) (by kernel_rfl) (e:=Extern.SlicesOverlaps.overlaps #[25,25] #[4]) (by kernel_rfl),
   Lib.run_overlaps_apart w 25 4 56 Tryz.underlying25 4 hsz ⟨h,0,none⟩ ⟨g,4,none⟩ 1 1 lb cb hne 56 56 4 (cap*4) (by simp[World.shape?,hh,TC]) (by simp[World.shape?,hg,hcs]) (by omega) (by simp[World.frozen?,hh]) (by simp[World.frozen?,hh])]
  rfl
 obtain⟨W1,hr1,hg1,hgr1⟩:=zb9 (w:=w.drew) (g:=g) (off:=4) (dLen:=n) (b:=g) (o:=0) (sLen:=n+1) (k:=n) (xs:=TVs ys) (cur:=cur.toList) hg' (fun j v hj=>by
  have hj2:=hj;rw[← hct,List.getElem?_take] at hj2;split at hj2
  ·exact ze7 (w:=w) hg' j v hj2
  ·cases hj2) (by simp only[Nat.min_def];split<;>omega) hyl h1y (by omega)
 have hh1:W1.heap[h]? = some (.cells (TC t).toArray 56 (0,0)):=(hgr1.block h (Array.getElem?_eq_some_iff.1 hh).1 (fun e=>hne (Option.some.inj e))).trans hh;obtain⟨W2,hr2,hg2,hgr2⟩:=zb9 (w:=W1) (g:=g) (off:=0) (dLen:=n+1) (b:=h) (o:=0) (sLen:=1) (k:=1) (xs:=TC t) hg1 (ze7 hh1) (by simp only[Nat.min_def];split<;>omega) rfl h1t (by simp only[splice,lA,List.length_take,List.length_drop,zoC];omega);obtain⟨l1,l2⟩:=zoT (tc:=TC t) hct (show (n+1)*4≤cur.toList.length by omega) rfl;have END:Hid (zel w lo (.slice (some ⟨g,0,none⟩) n cap) t ys (.returned (.slice (some ⟨g,0,none⟩) (n+1) cap)) W2):=by
  refine⟨_,rfl,⟨by rw[zch],.inr ⟨g,cap,_,by rw[List.length_cons,hn],hlg,hg2,by rw[List.length_cons,← hn];exact hroom,hcm,by simp only[List.size_toArray];rw[l2,hcl],?_⟩⟩,?_,.inl rfl⟩
  ·rw[List.length_cons,← hn,zcd];exact l1
  ·exact(⟨rfl,rfl,rfl,nR _,fun _ _ _=>rfl⟩:w.grownBy w.drew (some g)).trans (hgr1.trans hgr2)
 have HR1:Hid (∀ ty dCap sCap,(Builtin.copy_ #[25,25] ty #[.slice (some ⟨g,4,none⟩) n dCap,.slice (some ⟨g,0,none⟩) (n+1) sCap]).run Tryz.prog w.drew=.ok (goInt n) W1):=hr1;have HR2:Hid (∀ ty dCap sCap,(Builtin.copy_ #[25,25] ty #[.slice (some ⟨g,0,none⟩) (n+1) dCap,.slice (some ⟨h,0,none⟩) 1 sCap]).run Tryz.prog W1=.ok (goInt 1) W2):=hr2;unfold maxLen at hcm;have hz2:¬ ((0:Int)=(n:Int)):=by omega
 have hz2b:(0==(n:Int))=false:=by simp;omega
 have hc1:¬ cap=1:=by omega
 have hc0:¬ cap=0:=by omega
 have hr0:¬ (cap:Int)<(n:Int)+1:=by omega
 have h1n:(1:Int)≤(n:Int)+1:=by omega
 have hw1:IntKind.i64.wrap (1:Int)=1:=by decide
 have h0n:(0:Int)≤(n:Int)+1:=by omega
 have mixed:Tryz.prog.follows Departure.mixedOrders=true:=by kernel_rfl
 clear hr1 hr2 hg1 hg2 hgr1 hgr2 hh1 l1 l2 h1t h1y hct hg' hg hh hyl hcl hcs hsz hn;go_enter Tryz.func32,Tryz.ntmps32
 go_wp2_with (simp only[hov])
 go_region_law_o (refine step_copy_runI rfl _ _ 25 25 rfl (.slice (some ⟨g,4,none⟩) n (cap-1)) (.slice (some ⟨g,0,none⟩) (n+1) cap) (by simp[Act.eval,Act.put]) (by simp[Act.eval,Act.put]) (HR1.out _ _ _) ?_)
 go_wp2_with (simp only[HR2.out])
 go_ret;exact END.out
theorem zjq(z:Value)(k m:Nat)(hz:z.cells.size=m):(Builtin.zeroCells z.cells k).size=k*m:=by
 unfold Builtin.zeroCells;simp[hz]
theorem ins_full(g cap n lo h:Nat)(cur:Array Value)(t:TV)(ys:List TV)(w:World)(hn:n=ys.length)(hn0:0<n)(hn6:n≤6)(hlo:lo≤w.heap.size)(hg:w.heap[g]? = some (.cells cur 56 (0,0)))(hnc:n≤cap)(hroom:cap<n+1)(hct:cur.toList.take (n*4)=TVs ys)(hh:w.heap[h]? = some (.cells (TC t).toArray 56 (0,0)))(h1t:∀ u∈TC t,u.oneCell'=true)(h1y:∀ u∈TVs ys,u.oneCell'=true) :
 Calls Tryz.prog 32 #[.slice (some ⟨g,0,none⟩) n cap,.int .i64 0,.slice (some ⟨h,0,none⟩) 1 1] w fun e w'=>zel w lo (.slice (some ⟨g,0,none⟩) n cap) t ys e w':=by
 obtain⟨i0,hi,hz0,hz1,hz2⟩:=info_parts Tryz.infoT56;have hg':w.heap[g]? = some (.cells cur.toList.toArray 56 (0,0)):=hg;have hyl:(TVs ys).length=n*4:=by rw[zch,hn]
 have hgl:g<w.heap.size:=(Array.getElem?_eq_some_iff.1 hg).1;have hhl:h<w.heap.size:=(Array.getElem?_eq_some_iff.1 hh).1;obtain⟨z,hz⟩:∃ z:Value,i0.zero=some z∧z.cells.size=4:=⟨_,hz0,rfl⟩;have hold:(Builtin.firstCells i0.size 0 (.slice (some ⟨g,0,none⟩) 0 cap)).run Tryz.prog w.drew=.ok ([]:List Value).toArray w.drew:=run_firstCells_some w.drew i0.size 0 ⟨g,0,none⟩ 0 cap [] (by simp) (fun j v hj=>by simp at hj);have hrz:=fun ty=>Lib.run_append_grow_zeros (P:=Tryz.prog) w 25 3 ty 56 i0 z .i64 .i64 Tryz.underlying25 Tryz.underlying3 hi hz.1 (some ⟨g,0,none⟩) 0 cap [] hold (n+1) (by omega) (by rw[hz1];omega) (by omega) (by omega) (by rw[hz2];omega) (by rw[hz2];exact growslice_fits (by omega) (by omega))
 rw[Nat.zero_add] at hrz;have hGn:n+1≤grownCap w (n+1) cap 56:=grownCap_ge w _ _ _;have hGm:grownCap w (n+1) cap 56≤maxLen:=grownCap_le_maxLen w (n+1) cap 56 (by unfold maxLen;omega);obtain⟨G,hG⟩:∃ G,G=grownCap w (n+1) cap 56:=⟨_,rfl⟩;rw[← hG] at hrz hGn hGm;obtain⟨ROW,hROW⟩:∃ ROW:List Value,ROW=(([]:List Value).toArray++Builtin.zeroCells z.cells (n+1)++Builtin.zeroCells z.cells (G-(n+1))).toList:=⟨_,rfl⟩;have hRl:ROW.length=G*4:=by
  rw[hROW,Array.length_toList,Array.size_append,Array.size_append,zjq z _ 4 hz.2,zjq z _ 4 hz.2];simp;omega
 rw[show ([]:List Value).toArray++Builtin.zeroCells z.cells (n+1)++Builtin.zeroCells z.cells (G-(n+1))=ROW.toArray by rw[hROW]] at hrz;obtain⟨W1,hW1⟩:∃ W1,W1=w.drew.alloc (.cells ROW.toArray 56):=⟨_,rfl⟩;rw[← hW1] at hrz;have hN1:W1.heap[w.heap.size]? = some (.cells ROW.toArray 56 (0,0)):=by rw[hW1];exact heap_alloc_new w.drew _
 have hb1:Below w.heap.size w W1:=by rw[hW1];exact((Below.refl _ w).drew).alloc (nR _) _
 have hh1:W1.heap[h]? = some (.cells (TC t).toArray 56 (0,0)):=(hb1.block h hhl).trans hh;obtain⟨W2,hr2,hN2,hgr2⟩:=zb9 (w:=W1) (g:=w.heap.size) (off:=0) (dLen:=n+1) (b:=h) (o:=0) (sLen:=1) (k:=1) (xs:=TC t) hN1 (ze7 hh1) (by simp only[Nat.min_def];split<;>omega) rfl h1t (by rw[zoC];omega);have hg2:W2.drew.heap[g]? = some (.cells cur.toList.toArray 56 (0,0)):=(hgr2.block g (Nat.lt_of_lt_of_le hgl hb1.size) (fun e=>by have:=Option.some.inj e;omega)).trans ((hb1.block g hgl).trans hg');obtain⟨W3,hr3,hN3,hgr3⟩:=zb9 (w:=W2.drew) (g:=w.heap.size) (off:=4) (dLen:=n) (b:=g) (o:=0) (sLen:=n) (k:=n) (xs:=TVs ys) (cur:=splice ROW 0 (TC t)) hN2 (fun j v hj=>by
  have hj2:=hj;rw[← hct,List.getElem?_take] at hj2;split at hj2
  ·exact ze7 hg2 j v hj2
  ·cases hj2) (by simp) hyl h1y (by simp only[splice,lA,List.length_take,List.length_drop,zoC];omega)
 obtain⟨l1,l2⟩:=ins_grow (cur:=ROW) (tc:=TC t) hyl (show (n+1)*4≤ROW.length by omega) rfl;have END:Hid (zel w lo (.slice (some ⟨g,0,none⟩) n cap) t ys (.returned (.slice (some ⟨w.heap.size,0,none⟩) (n+1) G)) W3):=by
  refine⟨_,rfl,⟨by rw[zch],.inr ⟨w.heap.size,G,_,by rw[List.length_cons,hn],hlo,hN3,by rw[List.length_cons,← hn];exact hGn,hGm,by simp only[List.size_toArray];rw[l2,hRl],?_⟩⟩,?_,.inr rfl⟩
  ·rw[List.length_cons,← hn,zcd];exact l1
  ·have g1:=hb1.size;have g2:=hgr2.size;exact⟨hgr3.os.trans (hgr2.os.trans hb1.os),hgr3.tape.trans (hgr2.tape.trans hb1.tape),hgr3.output.trans (hgr2.output.trans hb1.output),nT g1 (nT g2 hgr3.size),fun k hk _=>(hgr3.block k (Nat.lt_of_lt_of_le hk (nT g1 g2)) (fun e=>by have:=Option.some.inj e;omega)).trans ((hgr2.block k (Nat.lt_of_lt_of_le hk g1) (fun e=>by have:=Option.some.inj e;omega)).trans (hb1.block k hk))⟩
 have HR1:Hid (∀ ty,(Builtin.append_ #[25,3] ty #[.slice (some ⟨g,0,none⟩) 0 cap,.int .i64 ((n:Int)+1)]).run Tryz.prog w=.ok (.slice (some ⟨w.heap.size,0,none⟩) (n+1) G) W1):=fun ty=>by rw[show (n:Int)+1=((n+1:Nat):Int) by omega];exact hrz ty
 have HR2:Hid (∀ ty dCap sCap,(Builtin.copy_ #[25,25] ty #[.slice (some ⟨w.heap.size,0,none⟩) (n+1) dCap,.slice (some ⟨h,0,none⟩) 1 sCap]).run Tryz.prog W1=.ok (goInt 1) W2):=hr2;have HR3:Hid (∀ ty dCap sCap,(Builtin.copy_ #[25,25] ty #[.slice (some ⟨w.heap.size,4,none⟩) n dCap,.slice (some ⟨g,0,none⟩) n sCap]).run Tryz.prog W2.drew=.ok (goInt n) W3):=hr3;unfold maxLen at hGm;have hz2b:(0==(n:Int))=false:=by simp;omega
 have hz2c:¬ ((0:Int)=(n:Int)):=by omega
 have hc0:¬ cap=0:=by omega
 have hG0:¬ G=0:=by omega
 have hG1:¬ G=1:=by omega
 have hr0:(cap:Int)<(n:Int)+1:=by omega
 have h1n:(1:Int)≤(n:Int)+1:=by omega
 have hw1:IntKind.i64.wrap (1:Int)=1:=by decide
 have h0n:(0:Int)≤(n:Int)+1:=by omega
 have mixed:Tryz.prog.follows Departure.mixedOrders=true:=by kernel_rfl
 clear hr2 hr3 hrz hN1 hN2 hN3 hgr2 hgr3 hb1 hh1 hg2 l1 l2 h1t h1y hct hg' hg hh hyl hz hold hG hROW hRl hW1 hGn hn;go_enter Tryz.func32,Tryz.ntmps32
 go_wp2_with (first
  | (at_builtin;refine Lib.wpList_append_run _ rfl _ _ _ _ rfl _ _ rfl rfl _ _ (HR1.out _) ?_)
  | (simp only[HR2.out]))
 go_region_law_o (refine step_copy_runI rfl _ _ 25 25 rfl (.slice (some ⟨w.heap.size,4,none⟩) n (G-1)) (.slice (some ⟨g,0,none⟩) n cap) (by simp[Act.eval,Act.put]) (by simp[Act.eval,Act.put]) (HR3.out _ _ _) ?_)
 go_wp2;go_ret;exact END.out
theorem insT_any(v:Value)(lo h:Nat)(t:TV)(ys:List TV)(w:World)(hv:OwnT w lo v ys)(hl:ys.length≤6)(hlo:lo≤w.heap.size)(hh:w.heap[h]? = some (.cells (TC t).toArray 56 (0,0)))(hne:v.ownBlock≠some h)(h1t:∀ u∈TC t,u.oneCell'=true)(h1y:∀ u∈TVs ys,u.oneCell'=true) :
 Calls Tryz.prog 32 #[v,.int .i64 0,.slice (some ⟨h,0,none⟩) 1 1] w fun e w'=>zel w lo v t ys e w':=by
 by_cases h0:ys.length=0
 ·obtain rfl:=List.eq_nil_of_length_eq_zero h0;exact ins_none v lo h t w hv hlo hh h1t
 ·rcases hv.2 with ⟨-,h1⟩ | ⟨g,cap,cur,rfl,hb,hg,hc1,hc2,hcs,hct⟩
  ·exact absurd h1 h0
  ·by_cases hr:ys.length+1≤cap
   ·exact ins_room g cap ys.length lo h cur t ys w rfl (by omega) hl hb hg hr hc2 hcs hct (fun e=>hne (by rw[e];rfl)) hh h1t h1y
   ·exact ins_full g cap ys.length lo h cur t ys w rfl (by omega) hl hlo hg hc1 (by omega) hct hh h1t h1y
open Go.RowKit
theorem zpv{A V T S R:List Nat}{L M:Nat}(hA:A.Nodup)(hV:V.Nodup)(hT:T.Nodup)(hSR:(S++R).Nodup)(hl:∀ k∈S++R,k<L)(hT1:∀ k∈T,L≤k∧k<M)(hA1:∀ k∈A,L≤k∧M≤k)(hV1:∀ k∈V,k ∉ S∧k ∉ R∧k ∉ T∧k ∉ A) :
 (A++((V++(T++S))++R)).Nodup:=by
 obtain⟨hS,hR,hsr⟩:=List.nodup_append.1 hSR;rw[List.nodup_append];refine⟨hA,?_,fun a ha b hb e=>?_⟩
 ·rw[List.nodup_append];refine⟨?_,hR,fun a ha b hb e=>?_⟩
  ·rw[List.nodup_append];refine⟨hV,?_,fun a ha b hb e=>?_⟩
   ·rw[List.nodup_append];exact⟨hT,hS,fun a ha b hb e=>by have:=hT1 a ha;have:=hl b (List.mem_append_left _ hb);omega⟩
   ·subst e;rcases List.mem_append.1 hb with hb | hb
    ·exact(hV1 a ha).2.2.1 hb
    ·exact(hV1 a ha).1 hb
  ·subst e;rcases List.mem_append.1 ha with ha | ha
   ·exact(hV1 a ha).2.1 hb
   ·rcases List.mem_append.1 ha with ha | ha
    ·have:=hT1 a ha;have:=hl a (List.mem_append_right _ hb);omega
    ·exact hsr a ha a hb rfl
 ·subst e;rcases List.mem_append.1 hb with hb | hb
  ·rcases List.mem_append.1 hb with hb | hb
   ·exact(hV1 a hb).2.2.2 ha
   ·rcases List.mem_append.1 hb with hb | hb
    ·have:=hT1 a hb;have:=hA1 a ha;omega
    ·have:=hl a (List.mem_append_left _ hb);have:=hA1 a ha;omega
  ·have:=hl a (List.mem_append_right _ hb);have:=hA1 a ha;omega
def zdQ(w:World)(X:TrX)(e:Ending)(w':World):Prop :=
 ∃ Y:TrX,e=.returned (.tuple #[.agg #[Y.vm,Y.vy,Y.vo,.int .i64 Y.seq,Y.vs],.bool (zbr X.tre)])∧Y.tre=zbA X.tre∧OwnTree w' w.heap.size Y∧Below w.heap.size w w'
theorem ziC(X:TrX)(w:World)(hx:RdTr w X)(hf:FitTr X)(hs:zI X.tre=true→CpTr X) :
 Calls Tryz.prog 7 #[.agg #[X.vm,X.vy,X.vo,.int .i64 X.seq,X.vs]] w fun e w'=>zdQ w X e w':=by
 have HTK:Hid (∀ W,RdTr W X→Calls Tryz.prog 18 #[.agg #[X.vm,X.vy,X.vo,.int .i64 X.seq,X.vs]] W fun e w'=>e=.returned (.bool (zI X.tre))∧Below W.heap.size W w'):=fun W h=>zcN X W h hf
 have HCP:Hid (zI X.tre=true→∀ W,RdTr W X→Calls Tryz.prog 30 #[.agg #[X.vm,X.vy,X.vo,.int .i64 X.seq,X.vs]] W fun e w'=>ToTr W X e w'):=fun ht W h=>zhF X W h (hs ht)
 have HBU:Hid (∀ W,RdTr W X→Calls Tryz.prog 31 #[X.vm] W fun e w'=>zdm W (zc1 X.mem) (zae X.mem) e w'):=fun W h=>zdd X.vm X.mem W h.mem hf.mem
 clear hs hf;have t0:=zam w X 28;obtain⟨V0,hV0⟩:∃ V0,V0=w.alloc (.cells #[X.vm,X.vy,X.vo,.int .i64 X.seq,X.vs] 28):=⟨_,rfl⟩;have b0:Below w.heap.size w V0:=by rw[hV0];exact ze w _
 have s0:V0.heap.size=w.heap.size+1:=by rw[hV0];simp
 rw[← hV0] at t0;have z1:=zag V0 (.slice none 0 0) (.slice none 0 0) (.slice none 0 0) (.slice none 0 0) 0;obtain⟨W0,hW0⟩:∃ W0,W0=V0.alloc (.cells #[.slice none 0 0,.slice none 0 0,.slice none 0 0,.int .i64 0,.slice none 0 0] 28):=⟨_,rfl⟩;have b1:Below V0.heap.size V0 W0:=by rw[hW0];exact ze V0 _
 have s1:W0.heap.size=w.heap.size+2:=by rw[hW0];simp;omega
 rw[← hW0,s0] at z1;have t1:=t0.below b1;have bw:Below w.heap.size w W0:=b0.trans (b1.mono (by omega));have HW0:Hid ((w.alloc (.cells #[X.vm,X.vy,X.vo,.int .i64 X.seq,X.vs] 28)).alloc (.cells #[.slice none 0 0,.slice none 0 0,.slice none 0 0,.int .i64 0,.slice none 0 0] 28)=W0):=by unfold Hid;rw[hW0,hV0]
 obtain⟨q0,q1,q2,q3,q4⟩:=id t1;rw[hW0,hV0] at q0 q1 q2 q3 q4;clear t0 b0 b1 s0 hV0 hW0;go_enter Tryz.func7,Tryz.ntmps7
 go_wp2_with fail
 rw[HW0.out];clear q0 q1 q2 q3 q4;refine(HTK.out _ (hx.below bw)).mono ?_;rintro e w1 ⟨rfl,hb1⟩;have t2:=t1.below hb1;have z2:=z1.on hb1;have bw1:=bw.trans (hb1.mono bw.size);have s2:w.heap.size+2≤w1.heap.size:=by rw[← s1];exact hb1.size
 clear t1 z1 bw hb1 s1 HTK HW0;cases htk:zI X.tre with
 | false =>
  obtain⟨y0,y1,y2,y3,y4,g0,g1,g2,g3,g4⟩:=z2.facts;have hzF:=zF z2 (.slice none 0 0) (.slice none 0 0) (.slice none 0 0) (.slice none 0 0) 0;obtain⟨f0,f1,f2,f3,f4,-⟩:=hzF.facts;have END:Hid (zdQ w X (.returned (.tuple #[.agg #[.slice none 0 0,.slice none 0 0,.slice none 0 0,.int .i64 0,.slice none 0 0],.bool false])) (put5 w1 (w.heap.size+1) (.slice none 0 0) (.slice none 0 0) (.slice none 0 0) (.int .i64 0) (.slice none 0 0))):=by
   refine⟨⟨.slice none 0 0,.slice none 0 0,.slice none 0 0,.slice none 0 0,[],[],[],0,[]⟩,by unfold zbr;rw[htk];rfl,by unfold zbA;rw[if_neg (by rw[htk];simp)];rfl,zaW _ _,zR bw1 (by omega)⟩
  unfold put5 at f0 f1 f2 f3 f4;clear z2 t2 hzF bw1 htk HCP HBU;go_wp2;exact bodyPost_ret (v:=.tuple #[.agg #[.slice none 0 0,.slice none 0 0,.slice none 0 0,.int .i64 0,.slice none 0 0],.bool false]) (by simp[results,Tryz.results7,go_sem,f0,f1,f2,f3,f4]) rfl END.out
 | true =>
  have hTP:=(zQ X.tre).1 htk;have HTP:Hid (TreeP X.tre):=hTP;have HTKE:Hid (zI X.tre=true):=htk;have HCQ:=HCP.out htk;have HCP1:Hid (∀ W,RdTr W X→Calls Tryz.prog 30 #[.agg #[X.vm,X.vy,X.vo,.int .i64 X.seq,X.vs]] W fun e w'=>ToTr W X e w'):=HCQ;clear HCP HCQ hTP htk;obtain⟨q0,q1,q2,q3,q4⟩:=id t2;go_wp2_with fail
  refine(HCP1.out _ (hx.below bw1)).mono ?_;rintro e w2 ⟨Y,rfl,heY,hoY,hb2⟩;have t3:=t2.below hb2;have z3:=z2.on hb2;have bw2:=bw1.trans (hb2.mono bw1.size);have s3:=hb2.size;have UB:Hid (∀ k∈trB Y,w1.heap.size≤k∧k<w2.heap.size):=fun k hk=>hoY.bound hk
  clear q0 q1 q2 q3 q4 t2 z2 hb2 bw1 HCP1;obtain⟨am,ay,ao,an,mn,yn,on,nn,cm,cy,co,cn,v0,v1,v2,v3⟩:=hoY.rd.slices;obtain⟨vm4,vy4,vo4,vs4,mem4,ys4,os4,seq4,snaps4⟩:=Y;simp only at v0 v1 v2 v3;subst v0;subst v1;subst v2;subst v3;have HEY:Hid (_=_):=heY;clear heY;have zb:=zag w2 (.slice am mn cm) (.slice ay yn cy) (.slice ao on co) (.slice an nn cn) seq4;have bb:=ze w2 (.cells #[.slice am mn cm,.slice ay yn cy,.slice ao on co,.int .i64 seq4,.slice an nn cn] 28);have t4:=t3.below bb;have z4:=z3.on bb;have bw3:=bw2.trans (bb.mono bw2.size);have hoY3:=hoY.below bb;have s4:w2.heap.size<(w2.alloc (.cells #[.slice am mn cm,.slice ay yn cy,.slice ao on co,.int .i64 seq4,.slice an nn cn] 28)).heap.size:=by simp
  obtain⟨q0,q1,q2,q3,q4⟩:=id t4;clear t3 z3 bb bw2 hoY;go_wp2_with fail
  generalize w2.alloc (.cells #[.slice am mn cm,.slice ay yn cy,.slice ao on co,.int .i64 seq4,.slice an nn cn] 28)=W3 at zb t4 z4 bw3 hoY3 s4 q0 q1 q2 q3 q4 ⊢;refine(HBU.out _ (hx.below bw3)).mono ?_;rintro e w4 ⟨vb,vk,rfl,qI,qK,hb4⟩;clear q0 q1 q2 q3 q4 HBU;obtain⟨ab,cb,heb⟩:=zK qI;obtain⟨ak,ck,hek⟩:=zK qK;obtain⟨TB,hTB⟩:∃ TB,TB=zc1 X.mem:=⟨_,rfl⟩;obtain⟨OKB,hOKB⟩:∃ OKB,OKB=zae X.mem:=⟨_,rfl⟩;rw[← hTB] at qI qK heb hek ⊢;rw[← hOKB];have HTB:Hid (TB=zc1 X.mem):=hTB;have HOKB:Hid (OKB=zae X.mem):=hOKB;clear hTB hOKB;generalize TB.bits.length=bn at heb;generalize TB.blocks.length=kn at hek;subst heb;subst hek;have HBO:Hid (zae X.mem=!decide (X.mem.length=0)):=by
   have h:okL X.mem=true:=HTP.out.mem;unfold Hid zae;rw[h];rfl
  have bb5:=ze w4 (.cells #[.string TB.first,.string TB.last,.slice ab bn cb,.slice ak kn ck] 56);have qB:BoxTb (w4.alloc (.cells #[.string TB.first,.string TB.last,.slice ab bn cb,.slice ak kn ck] 56)) w4.heap.size TB.first TB.last (.slice ab bn cb) (.slice ak kn ck):=heap_alloc_new w4 _;have z44:=z4.on hb4;have t44:=t4.below hb4;have zb44:=zb.on hb4;have bw44:=bw3.trans (hb4.mono bw3.size);have hoY44:=hoY3.below hb4;have z5:=z44.on bb5;have t5:=t44.below bb5;have zb5:=zb44.on bb5;have bw5:=(bw3.trans (hb4.mono bw3.size)).trans (bb5.mono (bw3.trans (hb4.mono bw3.size)).size);have hoY5:=(hoY3.below hb4).below bb5;have qI5:=qI.below bb5;have qK5:=qK.below bb5;have s5:=hb4.size;have s6:w4.heap.size<(w4.alloc (.cells #[.string TB.first,.string TB.last,.slice ab bn cb,.slice ak kn ck] 56)).heap.size:=by simp
  have U1:Hid (∀ k∈oneB (.slice ab bn cb),W3.heap.size≤k∧k<w4.heap.size):=fun k hk=>oL qI k (mem_oneB.1 hk)
  have U2:Hid (∀ k∈oneB (.slice ak kn ck),W3.heap.size≤k∧k<w4.heap.size):=fun k hk=>oL qK k (mem_oneB.1 hk)
  have HIK:Hid ((oneB (.slice ab bn cb)++oneB (.slice ak kn ck)).Nodup):=List.nodup_append.2 ⟨zap _,zap _,fun a ha b hb e=>by subst e;exact zh qI qK (by decide) a (mem_oneB.1 ha) (mem_oneB.1 hb)⟩;obtain⟨W5,hW5⟩:∃ W5,W5=w4.alloc (.cells #[.string TB.first,.string TB.last,.slice ab bn cb,.slice ak kn ck] 56):=⟨_,rfl⟩;have HW5:Hid (w4.alloc (.cells #[.string TB.first,.string TB.last,.slice ab bn cb,.slice ak kn ck] 56)=W5):=hW5.symm;rw[← hW5] at qB z5 t5 zb5 bw5 hoY5 qI5 qK5 s6;obtain⟨ax,cx,hvx,-⟩:=id hx.young;obtain⟨xn,hxn⟩:∃ xn,xn=X.ys.length:=⟨_,rfl⟩;rw[← hxn] at hvx;have HXN:Hid (xn=X.ys.length):=hxn;obtain⟨q0,q1,q2,q3,q4⟩:=id t5;rw[hvx] at q1;have HVX:Hid (X.vy=.slice ax xn cx):=hvx;clear hvx hxn bb5 z4 t4 zb bw3 hoY3;obtain⟨y0,y1,y2,y3,y4,g0,g1,g2,g3,g4⟩:=zb5.facts;obtain⟨m0,m1,m2,m3,m4,n0,n1,n2,n3,n4⟩:=z5.facts;have ENDF:zbr X.tre=false→Hid (zdQ w X (.returned (.tuple #[.agg #[.slice am mn cm,.slice ay yn cy,.slice ao on co,.int .i64 seq4,.slice an nn cn],.bool false])) (put5 W5 (w.heap.size+1) (.slice am mn cm) (.slice ay yn cy) (.slice ao on co) (.int .i64 seq4) (.slice an nn cn))):=fun h=>by
   refine⟨⟨.slice am mn cm,.slice ay yn cy,.slice ao on co,.slice an nn cn,mem4,ys4,os4,seq4,snaps4⟩,by rw[h],?_,(hoY5.others (fun e=>by have:=UB.out _ e;omega)).mono (by omega),zR bw5 (by omega)⟩;have h2:zcm X.tre=false:=(by unfold zbr at h;rw[HTKE.out] at h;simpa using h);unfold zbA;rw[if_pos HTKE.out,h2,if_neg (by simp)];exact HEY.out
  have hzF:=zF z5 (.slice am mn cm) (.slice ay yn cy) (.slice ao on co) (.slice an nn cn) seq4;obtain⟨f0,f1,f2,f3,f4,-⟩:=hzF.facts;unfold put5 at f0 f1 f2 f3 f4 ENDF;cases OKB with
  | false =>
   have END:=ENDF (by
    have h1:=HOKB.out;rw[HBO.out] at h1
    have h2:X.tre.mem.length=0:=by have:X.mem.length=0:=by simpa using h1
                                   exact this
    unfold zbr zcm;rw[h2];simp)
   rw[hW5] at q0 q1 q2 q3 q4 y0 y1 y2 y3 y4 m0 m1 m2 m3 m4 n0 n1 n2 n3 n4 f0 f1 f2 f3 f4 END;clear ENDF zb5 z5 t5 bw5 hoY5 UB hzF HEY qB qI5 qK5 hW5;go_wp2;exact bodyPost_ret (v:=.tuple #[.agg #[.slice am mn cm,.slice ay yn cy,.slice ao on co,.int .i64 seq4,.slice an nn cn],.bool false]) (by simp[results,Tryz.results7,go_sem,f0,f1,f2,f3,f4]) rfl END.out
  | true =>
   by_cases hx6:xn=6
   ·have END:=ENDF (by
     unfold zbr zcm;rw[show X.tre.young.length=6 by unfold TrX.tre;simp only[List.length_map];rw[← HXN.out];exact hx6];simp)
    rw[hW5] at q0 q1 q2 q3 q4 y0 y1 y2 y3 y4 m0 m1 m2 m3 m4 n0 n1 n2 n3 n4 f0 f1 f2 f3 f4 END;clear ENDF zb5 z5 t5 bw5 hoY5 UB hzF HEY qB qI5 qK5 hW5;subst hx6;go_wp2;exact bodyPost_ret (v:=.tuple #[.agg #[.slice am mn cm,.slice ay yn cy,.slice ao on co,.int .i64 seq4,.slice an nn cn],.bool false]) (by simp[results,Tryz.results7,go_sem,f0,f1,f2,f3,f4]) rfl END.out
   have hxi:((xn:Int)==6)=false:=(by simp;omega);have HTT:Hid (TB=zC X.mem):=(by unfold Hid;rw[HTB.out];unfold zc1;rw[← HOKB.out,if_pos rfl]);have hm0:¬ X.mem.length=0:=by
    have h1:=HOKB.out;rw[HBO.out] at h1;simpa using h1
   have HSO:Hid (zbr X.tre=true∧zbA X.tre=zfA X.tre):=by
    have h1:zcm X.tre=true:=by
     unfold zcm;rw[show X.tre.mem.length=X.mem.length from rfl,decide_eq_true hm0,show X.tre.young.length=xn by unfold TrX.tre;simp only[List.length_map];exact HXN.out.symm,decide_eq_true hx6];rfl
    unfold Hid zbr zbA;rw[HTKE.out,h1,if_pos rfl,if_pos rfl];exact⟨rfl,rfl⟩
   have hy6:ys4.length≤6:=by
    have h1:ys4.map (·.T)=X.tre.young:=congrArg Tre.young HEY.out;have h2:=congrArg List.length h1;rw[List.length_map] at h2;have:=HTP.out.young;omega
   clear ENDF zb5 z5 t5 bw5 hoY5 hzF qB qI5 qK5 hW5 HW5 q0 q1 q2 q3 q4 y0 y1 y2 y3 y4 g0 g1 g2 g3 g4 m0 m1 m2 m3 m4 n0 n1 n2 n3 n4 f0 f1 f2 f3 f4 s6 W5 hm0;obtain⟨q0,q1,q2,q3,q4⟩:=id t44;rw[HVX.out] at q1;obtain⟨y0,y1,y2,y3,y4,g0,g1,g2,g3,g4⟩:=zb44.facts;have hol:w2.heap.size<w4.heap.size:=(by omega);have htl:w.heap.size<w4.heap.size:=(by omega);obtain⟨Wc,hWc⟩:∃ Wc,Wc=w4.setCell ⟨w2.heap.size,0,none⟩ (.slice (some ⟨w4.heap.size+1,0,none⟩) 0 0):=⟨_,rfl⟩;have sc:Wc.heap.size=w4.heap.size:=(by rw[hWc];simp);have zc:BoxTr Wc w2.heap.size (.slice (some ⟨w4.heap.size+1,0,none⟩) 0 0) (.slice ay yn cy) (.slice ao on co) seq4 (.slice an nn cn):=(by rw[hWc];exact zck zb44 _);have zd:BoxTr Wc (w.heap.size+1) (.slice none 0 0) (.slice none 0 0) (.slice none 0 0) 0 (.slice none 0 0):=(by rw[hWc];exact zD z44 (by omega));have oc:OwnTree Wc w1.heap.size ⟨.slice am mn cm,.slice ay yn cy,.slice ao on co,.slice an nn cn,mem4,ys4,os4,seq4,snaps4⟩:=(by rw[hWc];exact hoY44.other (fun e=>by have:=UB.out _ e;omega));have bc:Below w.heap.size w Wc:=(by rw[hWc];exact bw44.setCell (p:=⟨w2.heap.size,0,none⟩) (by show w.heap.size≤w2.heap.size;omega) _);have ic:OwnI Wc W3.heap.size (.slice ab bn cb) TB.bits:=(by rw[hWc];exact zaC qI s4);have kc:OwnS Wc W3.heap.size (.slice ak kn ck) TB.blocks:=(by rw[hWc];exact zaC qK s4);have d1:=ze Wc (.cells #[.string TB.first,.string TB.last,.slice ab bn cb,.slice ak kn ck] 56)
   obtain⟨Wd,hWd⟩:∃ Wd,Wd=Wc.alloc (.cells #[.string TB.first,.string TB.last,.slice ab bn cb,.slice ak kn ck] 56):=⟨_,rfl⟩;have sd:Wd.heap.size=w4.heap.size+1:=(by rw[hWd];simp[sc]);rw[← hWd] at d1;have d2:=ze Wd (.cells #[] 40);have om:=zL Wd;obtain⟨We,hWe⟩:∃ We,We=Wd.alloc (.cells #[] 40):=⟨_,rfl⟩;have se:We.heap.size=w4.heap.size+2:=(by rw[hWe];simp[sd]);rw[← hWe] at d2 om;rw[sd] at om;have d3:=ze We (.cells #[.string TB.first,.string TB.last,.slice ab bn cb,.slice ak kn ck] 56);have hh:=heap_alloc_new We (.cells #[.string TB.first,.string TB.last,.slice ab bn cb,.slice ak kn ck] 56);obtain⟨X0,hX0⟩:∃ X0,X0=We.alloc (.cells #[.string TB.first,.string TB.last,.slice ab bn cb,.slice ak kn ck] 56):=⟨_,rfl⟩;have s0:X0.heap.size=w4.heap.size+3:=(by rw[hX0];simp[se]);rw[← hX0] at d3 hh;rw[se] at hh;have zbX:=((zc.on d1).on d2).on d3;have zrX:=((zd.on d1).on d2).on d3;have oX:=((oc.below d1).below d2).below d3;have bX:=((bc.trans (d1.mono bc.size)).trans (d2.mono (by omega))).trans (d3.mono (by omega));have iX:=((ic.below d1).below d2).below d3;have kX:=((kc.below d1).below d2).below d3;have mX:=om.below d3;have HX0:Hid ((((w4.setCell ⟨w2.heap.size,0,none⟩ (.slice (some ⟨w4.heap.size+1,0,none⟩) 0 0)).alloc (.cells #[.string TB.first,.string TB.last,.slice ab bn cb,.slice ak kn ck] 56)).alloc (.cells #[] 40)).alloc (.cells #[.string TB.first,.string TB.last,.slice ab bn cb,.slice ak kn ck] 56)=X0):=(by unfold Hid;rw[hX0,hWe,hWd,hWc])
   have HIN:=insT_any (.slice ay yn cy) w1.heap.size (w4.heap.size+2) ⟨TB,.slice ab bn cb,.slice ak kn ck⟩ ys4 X0 oX.young hy6 (by omega) hh (fun e=>by have:=UB.out (w4.heap.size+2) (List.mem_append_right _ (List.mem_append_left _ (List.mem_append_left _ (mem_oneB.2 e))));omega) (fun u hu=>by simp[TC] at hu;rcases hu with rfl | rfl | rfl | rfl<;>rfl) (zgO (w:=X0) (fun t ht=>⟨(oX.youngs t ht).1.rd,(oX.youngs t ht).2.rd⟩));have HIN1:Hid (Calls _ _ _ _ _):=HIN;clear HIN hX0 hWe hWd hWc sc zc zd oc bc ic kc d1 d2 d3 sd se om hh z44 t44 zb44 bw44 hoY44 qI qK Wc Wd We;go_wp2_with fail
   rw[HX0.out];refine HIN1.out.mono ?_;rintro e w6 ⟨v',rfl,hv',hg,hblk⟩;clear q0 q1 q2 q3 q4 y0 y1 y2 y3 y4 g0 g1 g2 g3 g4 HIN1 HX0;obtain⟨av,cv,hvv⟩:=zK hv';generalize ((⟨TB,.slice ab bn cb,.slice ak kn ck⟩:TV)::ys4).length=vn at hvv;subst hvv;have hto:Touch (oneB (.slice ay yn cy)) X0 w6:=Touch.of_grown hg (fun k hk=>mem_oneB.2 hk);have UV:∀ k∈oneB (.slice ay yn cy),w1.heap.size≤k∧k<w2.heap.size:=fun k hk=>UB.out k (List.mem_append_right _ (List.mem_append_left _ (List.mem_append_left _ hk)))
   have hnod:=oX.nod;unfold trB at hnod;simp only at hnod;obtain⟨-,hn2,-⟩:=List.nodup_append.1 hnod;obtain⟨hn4,hn3,hd2⟩:=List.nodup_append.1 hn2;obtain⟨hn5,-,-⟩:=List.nodup_append.1 hn3;obtain⟨-,hn6,hd4⟩:=List.nodup_append.1 hn4;have pO:∀ k∈(oneB (.slice ao on co)++tblks os4),k ∉ oneB (.slice ay yn cy):=fun k hk e=>hd2 k (List.mem_append_left _ e) k (List.mem_append_left _ hk) rfl
   have pS:∀ k∈oneB (.slice an nn cn),k ∉ oneB (.slice ay yn cy):=fun k hk e=>hd2 k (List.mem_append_left _ e) k (List.mem_append_right _ hk) rfl
   have pT:∀ k∈tblks ys4,k ∉ oneB (.slice ay yn cy):=fun k hk e=>hd4 k e k hk rfl
   have OO:OwnTs X0 w1.heap.size (.slice ao on co) os4:=⟨oX.old,oX.olds,hn5⟩;have O6:=OO.touch hto pO;have S6:OwnI w6 w1.heap.size (.slice an nn cn) snaps4:=hto.row oX.snaps (fun k hk=>pS k (mem_oneB.2 hk));have Y6:InT w6 w1.heap.size ys4:=fun t ht=>⟨hto.row (oX.youngs t ht).1 (fun k hk=>pT k (List.mem_flatMap.2 ⟨t,ht,List.mem_append_left _ (mem_oneB.2 hk)⟩)),hto.row (oX.youngs t ht).2 (fun k hk=>pT k (List.mem_flatMap.2 ⟨t,ht,List.mem_append_right _ (mem_oneB.2 hk)⟩))⟩
   have M6:OwnE w6 (w4.heap.size+1) (.slice (some ⟨w4.heap.size+1,0,none⟩) 0 0) []:=hto.row mX (fun k hk e=>by have:=UV k e;simp[Value.ownBlock] at hk;omega);have I6:OwnI w6 W3.heap.size (.slice ab bn cb) TB.bits:=hto.row iX (fun k hk e=>by have:=UV k e;have:=U1.out k (mem_oneB.2 hk);omega);have K6:OwnS w6 W3.heap.size (.slice ak kn ck) TB.blocks:=hto.row kX (fun k hk e=>by have:=UV k e;have:=U2.out k (mem_oneB.2 hk);omega);have zb6:BoxTr w6 w2.heap.size (.slice (some ⟨w4.heap.size+1,0,none⟩) 0 0) (.slice ay yn cy) (.slice ao on co) seq4 (.slice an nn cn):=(hto.block _ (by omega) (fun e=>by have:=UV _ e;omega)).trans zbX;have zr6:BoxTr w6 (w.heap.size+1) (.slice none 0 0) (.slice none 0 0) (.slice none 0 0) 0 (.slice none 0 0):=(hto.block _ (by omega) (fun e=>by have:=UV _ e;omega)).trans zrX;have bw6:Below w.heap.size w w6:=hto.below bX (fun k hk=>by have:=UV k hk;omega);have HVB:Hid (∀ k∈oneB (.slice av vn cv),k∈oneB (.slice ay yn cy)∨k=X0.heap.size):=fun k hk=>by
    have hk2:=mem_oneB.1 hk;rcases hblk with h | h
    ·exact .inl (mem_oneB.2 (h ▸ hk2))
    ·rw[h] at hk2;exact .inr (Option.some.inj hk2).symm
   have HNOD:Hid ((trB ⟨(.slice (some ⟨w4.heap.size+1,0,none⟩) 0 0),.slice av vn cv,.slice ao on co,.slice an nn cn,[],⟨TB,.slice ab bn cb,.slice ak kn ck⟩::ys4,os4,seq4,snaps4⟩).Nodup):=by
    have e1:tblks ((⟨TB,.slice ab bn cb,.slice ak kn ck⟩:TV)::ys4)=(oneB (.slice ab bn cb)++oneB (.slice ak kn ck))++tblks ys4:=(by simp[tblks]);have hl:∀ k∈tblks ys4++((oneB (.slice ao on co)++tblks os4)++oneB (.slice an nn cn)),k<w2.heap.size:=fun k hk=>by
     rcases List.mem_append.1 hk with hk | hk
     ·exact(UB.out k (List.mem_append_right _ (List.mem_append_left _ (List.mem_append_right _ hk)))).2
     ·exact(UB.out k (List.mem_append_right _ (List.mem_append_right _ hk))).2
    have hNEW:∀ k∈oneB (.slice (some ⟨w4.heap.size+1,0,none⟩) 0 0),k=w4.heap.size+1:=fun k hk=>by have:=mem_oneB.1 hk;simp[Value.ownBlock] at this;exact this.symm
    have hT:∀ k∈oneB (.slice ab bn cb)++oneB (.slice ak kn ck),W3.heap.size≤k∧k<w4.heap.size:=fun k hk=>by
     rcases List.mem_append.1 hk with hk | hk
     ·exact U1.out k hk
     ·exact U2.out k hk
    unfold trB;simp only;rw[e1];refine zpv (L:=w2.heap.size) (M:=w4.heap.size) (zap _) (zap _) HIK.out ?_ hl (fun k hk=>by have:=hT k hk;omega) (fun k hk=>by have:=hNEW k hk;omega) (fun k hk=>?_)
    ·rw[List.nodup_append];exact⟨hn6,hn3,fun a ha b hb e=>hd2 a (List.mem_append_right _ ha) b hb e⟩
    ·rcases HVB.out k hk with h | h
     ·have:=UV k h;refine⟨fun e=>pT k e h,fun e=>?_,fun e=>by have:=hT k e;omega,fun e=>by have:=hNEW k e;omega⟩;rcases List.mem_append.1 e with e | e
      ·exact pO k e h
      ·exact pS k e h
     ·refine⟨fun e=>by have:=hl k (List.mem_append_left _ e);omega,fun e=>by have:=hl k (List.mem_append_right _ e);omega,fun e=>by have:=hT k e;omega,fun e=>by have:=hNEW k e;omega⟩
   have hvo:∀ k,(Value.slice av vn cv).ownBlock=some k→w2.heap.size≠k:=fun k hk e=>by
    rcases HVB.out k (mem_oneB.2 hk) with h | h
    ·have:=UV k h;omega
    ·omega
   have zb7:=zbF zb6 (.slice av vn cv);have zr7:BoxTr (w6.setCell ⟨w2.heap.size,1,none⟩ (.slice av vn cv)) (w.heap.size+1) (.slice none 0 0) (.slice none 0 0) (.slice none 0 0) 0 (.slice none 0 0):=zD zr6 (by omega);have bw7:Below w.heap.size w (w6.setCell ⟨w2.heap.size,1,none⟩ (.slice av vn cv)):=bw6.setCell (p:=⟨w2.heap.size,1,none⟩) (by show w.heap.size≤w2.heap.size;omega) _;have V7:OwnT (w6.setCell ⟨w2.heap.size,1,none⟩ (.slice av vn cv)) w1.heap.size (.slice av vn cv) (⟨TB,.slice ab bn cb,.slice ak kn ck⟩::ys4):=zi hv' hvo;have O7:OwnT (w6.setCell ⟨w2.heap.size,1,none⟩ (.slice av vn cv)) w1.heap.size (.slice ao on co) os4:=zi O6.row (fun k hk e=>by have:=UB.out k (List.mem_append_right _ (List.mem_append_right _ (List.mem_append_left _ (List.mem_append_left _ (mem_oneB.2 hk)))));omega);have UT:∀ {ts:List TV},(∀ k∈tblks ts,k<w2.heap.size)→InT w6 w1.heap.size ts→InT (w6.setCell ⟨w2.heap.size,1,none⟩ (.slice av vn cv)) w1.heap.size ts:=fun hts h t ht=>⟨zi (h t ht).1 (fun k hk e=>by have:=hts k (List.mem_flatMap.2 ⟨t,ht,List.mem_append_left _ (mem_oneB.2 hk)⟩);omega),zi (h t ht).2 (fun k hk e=>by have:=hts k (List.mem_flatMap.2 ⟨t,ht,List.mem_append_right _ (mem_oneB.2 hk)⟩);omega)⟩
   have OI7:=UT (fun k hk=>(UB.out k (List.mem_append_right _ (List.mem_append_right _ (List.mem_append_left _ (List.mem_append_right _ hk))))).2) O6.ins;have YI7:=UT (fun k hk=>(UB.out k (List.mem_append_right _ (List.mem_append_left _ (List.mem_append_right _ hk)))).2) Y6;have S7:OwnI (w6.setCell ⟨w2.heap.size,1,none⟩ (.slice av vn cv)) w1.heap.size (.slice an nn cn) snaps4:=zi S6 (fun k hk e=>by have:=UB.out k (List.mem_append_right _ (List.mem_append_right _ (List.mem_append_right _ (mem_oneB.2 hk))));omega);have M7:OwnE (w6.setCell ⟨w2.heap.size,1,none⟩ (.slice av vn cv)) (w4.heap.size+1) (.slice (some ⟨w4.heap.size+1,0,none⟩) 0 0) []:=zaC M6 (by omega);have I7:OwnI (w6.setCell ⟨w2.heap.size,1,none⟩ (.slice av vn cv)) W3.heap.size (.slice ab bn cb) TB.bits:=zaC I6 s4;have K7:OwnS (w6.setCell ⟨w2.heap.size,1,none⟩ (.slice av vn cv)) W3.heap.size (.slice ak kn ck) TB.blocks:=zaC K6 s4;have hc1:w.heap.size+1<w1.heap.size:=(by omega);have END:Hid (zdQ w X (.returned (.tuple #[.agg #[(.slice (some ⟨w4.heap.size+1,0,none⟩) 0 0),.slice av vn cv,.slice ao on co,.int .i64 seq4,.slice an nn cn],.bool true])) (put5 (w6.setCell ⟨w2.heap.size,1,none⟩ (.slice av vn cv)) (w.heap.size+1) (.slice (some ⟨w4.heap.size+1,0,none⟩) 0 0) (.slice av vn cv) (.slice ao on co) (.int .i64 seq4) (.slice an nn cn))):=by
    refine⟨⟨(.slice (some ⟨w4.heap.size+1,0,none⟩) 0 0),.slice av vn cv,.slice ao on co,.slice an nn cn,[],⟨TB,.slice ab bn cb,.slice ak kn ck⟩::ys4,os4,seq4,snaps4⟩,by rw[HSO.out.1],?_,⟨OwnE.mono (zt M7 (by omega)) (by omega),OwnT.mono (zt V7 hc1) (by omega),fun t ht=>?_,OwnT.mono (zt O7 hc1) (by omega),InT.mono (OI7.put5 hc1) (by omega),OwnI.mono (zt S7 hc1) (by omega),HNOD.out⟩,zR bw7 (by omega)⟩
    ·have h1:ys4.map (·.T)=X.tre.young:=congrArg Tre.young HEY.out;have h2:os4.map (·.T)=X.tre.old:=congrArg Tre.old HEY.out;have h3:seq4=X.tre.seq:=congrArg Tre.seq HEY.out;have h4:snaps4=X.tre.snaps:=congrArg Tre.snaps HEY.out;rw[HSO.out.2];unfold TrX.tre;simp only[List.map_cons];rw[h1,h2,h3,h4,HTT.out];rfl
    ·rcases List.mem_cons.1 ht with rfl | ht
     ·exact⟨OwnI.mono (zt I7 (by omega)) (by omega),OwnS.mono (zt K7 (by omega)) (by omega)⟩
     ·exact⟨OwnI.mono (zt (YI7 t ht).1 hc1) (by omega),OwnS.mono (zt (YI7 t ht).2 hc1) (by omega)⟩
   obtain⟨y0,y1,y2,y3,y4,g0,g1,g2,g3,g4⟩:=zb6.facts;obtain⟨k0,k1,k2,k3,k4,l0,l1,l2,l3,l4⟩:=zb7.facts;obtain⟨m0,m1,m2,m3,m4,n0,n1,n2,n3,n4⟩:=zr7.facts;have hzF:=zF zr7 (.slice (some ⟨w4.heap.size+1,0,none⟩) 0 0) (.slice av vn cv) (.slice ao on co) (.slice an nn cn) seq4;obtain⟨f0,f1,f2,f3,f4,-⟩:=hzF.facts;unfold put5 at f0 f1 f2 f3 f4 END;clear hzF zb6 zr6 bw6 zb7 zr7 bw7 V7 O7 UT OI7 YI7 S7 M7 I7 K7 HNOD HVB hvo hto UV hnod hn2 hn3 hn4 hn5 hn6 hd2 hd4 pO pS pT OO O6 S6 Y6 M6 I6 K6 HSO HEY HTT UB U1 U2 HIK hv' hg hblk oX bX zbX zrX iX kX mX;go_wp2;exact bodyPost_ret (v:=.tuple #[.agg #[(.slice (some ⟨w4.heap.size+1,0,none⟩) 0 0),.slice av vn cv,.slice ao on co,.int .i64 seq4,.slice an nn cn],.bool true]) (by simp[results,Tryz.results7,go_sem,f0,f1,f2,f3,f4]) rfl END.out
end Go.Proofs.YtjlnchhgkfnldaaGreat
