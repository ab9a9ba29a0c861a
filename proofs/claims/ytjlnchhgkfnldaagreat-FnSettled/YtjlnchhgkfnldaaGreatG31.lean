import Derived.Test.YtjlnchhgkfnldaaGreatG28
import Derived.Test.YtjlnchhgkfnldaaGreatG30
import Derived.Maps.AppendAt
namespace Go.Proofs.YtjlnchhgkfnldaaGreat
set_option maxHeartbeats 16000000
set_option maxRecDepth 100000
open Go.RowKit Go.Shelf
attribute [local go_sem] Oper.semAt_some
def zbN(w:World)(X:TrX)(e:Ending)(w':World):Prop :=
 ∃ u ps,e=.returned (.tuple #[u,.bool (zI X.tre)])∧Pieces w' u ps∧ps.map (·.2)=unpL X.tre∧Below w.heap.size w w'
theorem zlm{w:World}{X:TrX}(h:zI X.tre=false){W:World}{u:Value}(hp:Pieces W u [])(hb:Below w.heap.size w W):zbN w X (.returned (.tuple #[u,.bool false])) W :=
 ⟨u,[],by rw[h],hp,by rw[zh0 h];rfl,hb⟩
theorem zjG{w:World}{X:TrX}(h:zI X.tre=true){W:World}{u:Value}{ps:List (Value×List Ent)}(hp:Pieces W u ps)(hm:ps.map (·.2)=lsT X.tre)(hb:Below w.heap.size w W):zbN w X (.returned (.tuple #[u,.bool true])) W :=
 ⟨u,ps,by rw[h],hp,by rw[zd1 h,hm],hb⟩
theorem zaO(w:World)(b:Nat):Pieces w (.slice (some ⟨b,0,none⟩) 0 0) []:=.inr ⟨b,0,0,rfl,nR _,Nat.zero_le _,fun i h=>by simp at h⟩
theorem zcU{W:World}{B1 B2:Nat}{t1 t2:TypeId}{u1 u2:Value}(r1:Boxed W B1 t1 u1)(r2:Boxed W B2 t2 u2)(hne:B1≠B2)(v1 v2:Value)(o:Obj) :
 (((W.setCell ⟨B1,0,none⟩ v1).setCell ⟨B2,0,none⟩ v2).alloc o).cell? ⟨B1,0,none⟩=some v1∧(((W.setCell ⟨B1,0,none⟩ v1).setCell ⟨B2,0,none⟩ v2).alloc o).cell? ⟨B2,0,none⟩=some v2:=by
 have h1:Boxed (W.setCell ⟨B1,0,none⟩ v1) B1 t1 v1:=r1.set v1;have h2:Boxed (W.setCell ⟨B1,0,none⟩ v1) B2 t2 u2:=(heap_setCell_other W ⟨B1,0,none⟩ B2 v1 (fun e=>hne e.symm)).trans r2;have h3:Boxed ((W.setCell ⟨B1,0,none⟩ v1).setCell ⟨B2,0,none⟩ v2) B2 t2 v2:=h2.set v2;have h4:Boxed ((W.setCell ⟨B1,0,none⟩ v1).setCell ⟨B2,0,none⟩ v2) B1 t1 v1:=(heap_setCell_other _ ⟨B2,0,none⟩ B1 v2 hne).trans h1;exact⟨(h4.alloc o).cell,(h3.alloc o).cell⟩
theorem zbc{W:World}{B1 B2:Nat}{t1 t2:TypeId}{u1 u2:Value}(r1:Boxed W B1 t1 u1)(r2:Boxed W B2 t2 u2)(hne:B1≠B2)(v1 v2:Value)(o:Obj) :
 (W.alloc o).cell? ⟨B1,0,none⟩=some u1∧(W.alloc o).frozen? ⟨B1,0,none⟩=false∧((W.alloc o).setCell ⟨B1,0,none⟩ v1).cell? ⟨B2,0,none⟩=some u2∧((W.alloc o).setCell ⟨B1,0,none⟩ v1).frozen? ⟨B2,0,none⟩=false ∧
 (((W.alloc o).setCell ⟨B1,0,none⟩ v1).setCell ⟨B2,0,none⟩ v2).cell? ⟨B1,0,none⟩=some v1∧(((W.alloc o).setCell ⟨B1,0,none⟩ v1).setCell ⟨B2,0,none⟩ v2).cell? ⟨B2,0,none⟩=some v2:=by
 have h1:=r1.alloc o;have h2:=r2.alloc o;have h3:Boxed ((W.alloc o).setCell ⟨B1,0,none⟩ v1) B1 t1 v1:=h1.set v1;have h4:Boxed ((W.alloc o).setCell ⟨B1,0,none⟩ v1) B2 t2 u2:=(heap_setCell_other _ ⟨B1,0,none⟩ B2 v1 (fun e=>hne e.symm)).trans h2;have h5:Boxed (((W.alloc o).setCell ⟨B1,0,none⟩ v1).setCell ⟨B2,0,none⟩ v2) B2 t2 v2:=h4.set v2;have h6:Boxed (((W.alloc o).setCell ⟨B1,0,none⟩ v1).setCell ⟨B2,0,none⟩ v2) B1 t1 v1:=(heap_setCell_other _ ⟨B2,0,none⟩ B1 v2 hne).trans h3;exact⟨h1.cell,h1.frozen,h4.cell,h4.frozen,h6.cell,h5.cell⟩
theorem zcS{a W:World}{B1 B2:Nat}(h:Below a.heap.size a W)(h1:a.heap.size≤B1)(h2:a.heap.size≤B2)(v1 v2:Value)(o:Obj):Below a.heap.size a (((W.setCell ⟨B1,0,none⟩ v1).setCell ⟨B2,0,none⟩ v2).alloc o):=by
 have b:=(h.setCell (p:=⟨B1,0,none⟩) h1 v1).setCell (p:=⟨B2,0,none⟩) h2 v2;exact b.alloc b.size o
theorem zbo{a W:World}{B1 B2:Nat}(h:Below a.heap.size a W)(h1:a.heap.size≤B1)(h2:a.heap.size≤B2)(v1 v2:Value)(o:Obj):Below a.heap.size a (((W.alloc o).setCell ⟨B1,0,none⟩ v1).setCell ⟨B2,0,none⟩ v2) :=
 ((h.alloc h.size o).setCell (p:=⟨B1,0,none⟩) h1 v1).setCell (p:=⟨B2,0,none⟩) h2 v2
theorem zlh{w:World}:∀ ts:List TV,(∀ t∈ts,RdI w t.vb t.T.bits∧RdS w t.vk t.T.blocks∧∀ s∈t.T.blocks,s.size≤1000000000)→∃ zs:List (RT w),zs.map (·.1)=ts
 | [],_=>⟨[],rfl⟩
 | t::r,h=>by
  obtain⟨zs,hz⟩:=zlh r (fun x hx=>h x (List.mem_cons_of_mem _ hx));exact⟨⟨t,h t List.mem_cons_self⟩::zs,by simp[hz]⟩
theorem RdTs.all{w:World}{v:Value}{ts:List TV}(h:RdTs w v ts):∀ t∈ts,RdI w t.vb t.T.bits∧RdS w t.vk t.T.blocks:=by obtain⟨_,_,_,_,_,_,h4⟩:=h;exact h4
theorem zc6{W W':World}{row:Option Nat}(hg:W.grownBy W' row)(hr:∀ r,row=some r→∃ o:Obj,W.heap[r]? = some o∧o.isCells=false){k:Nat}{cs:Array Value}{t:TypeId}{fz:Nat×Nat}(hk:W.heap[k]? = some (.cells cs t fz)):W'.heap[k]? = W.heap[k]? :=
 hg.block k (Array.getElem?_eq_some_iff.1 hk).1 (fun e=>by obtain⟨o,ho,hc⟩:=hr k e.symm;rw[hk] at ho;cases ho;cases hc)
theorem row_on{W W':World}{row:Option Nat}{B t s n:Nat}{v:Value}{xs:List Value}(hg:W.grownBy W' row)(hr:∀ r,row=some r→∃ o:Obj,W.heap[r]? = some o∧o.isCells=false)(h:W.ownsRow B t s v n xs):W'.ownsRow B t s v n xs :=
 zl h hg (fun k hk e=>by
  rcases h.2 with ⟨h1,_⟩ | ⟨g,cap,cur,hv,_,hgb,_⟩
  ·rw[h1] at hk;cases hk
  ·rw[hv] at hk;obtain rfl:g=k:=Option.some.inj hk;obtain⟨o,ho,hc⟩:=hr g e;rw[hgb] at ho;cases ho;cases hc)
structure Mid (w:World) (X:TrX) (B L:Nat) (pre:List (RT w)) (W:World):Prop where
 lists:∃ (u:Value) (us:List (Value×List Ent)),Boxed W L 60 u∧OwnQ W B u us∧us.map (·.2)=X.mem::pre.map (fun x=>zu x.1.T)∧InQ w W us∧us.length=pre.length+1
 good:∀ x∈pre,tabOk X.mem x.1.T=true
 tree:W.heap[w.heap.size]? = some (.cells #[X.vm,X.vy,X.vo,.int .i64 X.seq,X.vs] 28 (0,0))
 res1:Boxed W (w.heap.size+1) 60 (.slice none 0 0)
 res2:Boxed W (w.heap.size+1+1) 4 (.bool false)
 bel:Below w.heap.size w W
 size:B+3≤W.heap.size
structure Left (w:World) (X:TrX) (c:Code) (pre:List (RT w)) (W:World):Prop where
 ret:c=.ret
 bad:∃ x∈pre,tabOk X.mem x.1.T=false
 res1:∃ g,Boxed W (w.heap.size+1) 60 (.slice (some ⟨g,0,none⟩) 0 0)
 res2:Boxed W (w.heap.size+1+1) 4 (.bool false)
 bel:Below w.heap.size w W
theorem zoo{w:World}{X:TrX}{B L S:Nat}(hS:w.heap.size≤S):OwnFrom S (Mid w X B L):=fun pre W W' row h hg hr=>by
 have hr':∀ r,row=some r→∃ o:Obj,W.heap[r]? = some o∧o.isCells=false:=fun r e=>(hr r e).2
 obtain⟨u,us,h1,h2,h3,h4,h5⟩:=h.lists;refine⟨⟨u,us,(zc6 hg hr' h1).trans h1,row_on hg hr' h2,h3,fun p hp=>⟨?_,(h4 p hp).2⟩,h5⟩,h.good,(zc6 hg hr' h.tree).trans h.tree,(zc6 hg hr' h.res1).trans h.res1,(zc6 hg hr' h.res2).trans h.res2,h.bel.grown hg h.bel.size (fun k hk=>nT hS (hr k hk).1),nT h.size hg.size⟩;rcases (h4 p hp).1 with a | a
 ·exact .inl a
 ·exact .inr (row_on hg hr' a)
theorem left_own{w:World}{X:TrX}{S:Nat}(hS:w.heap.size≤S)(c:Code):OwnFrom S (Left w X c):=fun pre W W' row h hg hr=>by
 have hr':∀ r,row=some r→∃ o:Obj,W.heap[r]? = some o∧o.isCells=false:=fun r e=>(hr r e).2
 obtain⟨g,h1⟩:=h.res1;exact⟨h.ret,h.bad,⟨g,(zc6 hg hr' h1).trans h1⟩,(zc6 hg hr' h.res2).trans h.res2,h.bel.grown hg h.bel.size (fun k hk=>nT hS (hr k hk).1)⟩
theorem zgx{W W':World}(h:Below W.heap.size W W'):KeepsOthers W W':=⟨h.size,fun k _ hk _=>(h.block k (Array.getElem?_eq_some_iff.1 hk).1).trans hk⟩
theorem zhA{W:World}{b:Nat}{v0 v1 v2 v3 v4:Value}{t:TypeId}(h:W.heap[b]? = some (.cells #[v0,v1,v2,v3,v4] t (0,0))):W.cell? ⟨b,0,none⟩=some v0∧W.cell? ⟨b,1,none⟩=some v1∧W.cell? ⟨b,2,none⟩=some v2∧W.cell? ⟨b,3,none⟩=some v3∧W.cell? ⟨b,4,none⟩=some v4:=by
 refine⟨?_,?_,?_,?_,?_⟩<;>simp[World.cell?,h]
theorem zoq{mem:List Ent}{T:Tbl}(h:zT T=false):tabOk mem T=false:=by unfold tabOk;rw[h];rfl
theorem zo4{mem:List Ent}{T:Tbl}(h:newIn mem (zu T)=false):tabOk mem T=false:=by unfold tabOk;rw[h];simp
theorem zo2{mem:List Ent}{T:Tbl}(h:zT T=true)(h2:newIn mem (zu T)=true):tabOk mem T=true:=by unfold tabOk;rw[h,h2];rfl
theorem zlE{w W w5:World}{X:TrX}{S:Nat}{pre:List (RT w)}{x:RT w}(hbad:tabOk X.mem x.1.T=false)(hb:Below W.heap.size W w5)(hbel:Below w.heap.size w w5)(r1:Boxed w5 (w.heap.size+1) 60 (.slice none 0 0))(r2:Boxed w5 (w.heap.size+1+1) 4 (.bool false)){g:Nat}{o:Obj} :
 (KeepsFrom S W (((w5.alloc o).setCell ⟨w.heap.size+1,0,none⟩ (.slice (some ⟨g,0,none⟩) 0 0)).setCell ⟨w.heap.size+1+1,0,none⟩ (.bool false))∧Left w X .ret (pre++[x]) (((w5.alloc o).setCell ⟨w.heap.size+1,0,none⟩ (.slice (some ⟨g,0,none⟩) 0 0)).setCell ⟨w.heap.size+1+1,0,none⟩ (.bool false))):=by
 refine⟨((((zgx hb).trans (KeepsOthers.alloc _ _)).trans (KeepsOthers.setCell _ _ _)).trans (KeepsOthers.setCell _ _ _)).from S,rfl,⟨x,by simp,hbad⟩,⟨g,?_⟩,?_,zbo hbel (by omega) (by omega) _ _ _⟩
 ·have h1:Boxed ((w5.alloc o).setCell ⟨w.heap.size+1,0,none⟩ (.slice (some ⟨g,0,none⟩) 0 0)) (w.heap.size+1) 60 (.slice (some ⟨g,0,none⟩) 0 0):=(r1.alloc o).set _;exact(heap_setCell_other _ ⟨w.heap.size+1+1,0,none⟩ _ _ (by simp)).trans h1
 ·have h2:Boxed ((w5.alloc o).setCell ⟨w.heap.size+1,0,none⟩ (.slice (some ⟨g,0,none⟩) 0 0)) (w.heap.size+1+1) 4 (.bool false):=(heap_setCell_other _ ⟨w.heap.size+1,0,none⟩ _ _ (by simp)).trans (r2.alloc o);exact h2.set _
theorem InQ.box{w0 w:World}{L:Nat}{t:TypeId}{u v:Value}{ps:List (Value×List Ent)}(h:InQ w0 w ps)(hb:Boxed w L t u)(ht:t≠40):InQ w0 (w.setCell ⟨L,0,none⟩ v) ps:=fun p hp=>⟨by
 rcases (h p hp).1 with a | a
 ·exact .inl a
 ·exact .inr (zi a (fun k hk e=>hb.not_row ht a (by rw[hk,← e]))),(h p hp).2⟩
theorem OwnQ.box{w:World}{B L:Nat}{t:TypeId}{u v o:Value}{ps:List (Value×List Ent)}(h:OwnQ w B o ps)(hb:Boxed w L t u)(ht:t≠24):OwnQ (w.setCell ⟨L,0,none⟩ v) B o ps:=zi h (fun k hk e=>hb.not_row ht h (by rw[hk,← e]))
theorem zcZ{W:World}{D b:Nat}{t:TypeId}{v:Value}{o o':Obj}(h:Boxed W b t v)(hK:W.heap[D]? = some o)(ho:o.isCells=false):Boxed (W.putObj D o') b t v :=
 (World.putObj_heap_other (fun e=>by subst e;rw[show W.heap[b]? = _ from h] at hK;cases hK;cases ho)).trans h
theorem InQ.put{w0 W:World}{D:Nat}{o o':Obj}{ps:List (Value×List Ent)}(h:InQ w0 W ps)(hK:W.heap[D]? = some o)(ho:o.isCells=false):InQ w0 (W.putObj D o') ps:=fun p hp=>⟨by
 rcases (h p hp).1 with a | a
 ·exact .inl a
 ·exact .inr (ownsRow_putObj a o' hK ho),(h p hp).2⟩
theorem unp_end{w W8:World}{B D:Nat}{u:Value}{us:List (Value×List Ent)}(r1:Boxed W8 (w.heap.size+1) 60 (.slice none 0 0))(r2:Boxed W8 (w.heap.size+1+1) 4 (.bool false))(hoq:OwnQ W8 B u us)(hin:InQ w W8 us)(hb:Below w.heap.size w W8)(hK:W8.heap[D]? = some (.deferred (some [])))(hD:w.heap.size≤D) :
 let W9:=(W8.setCell ⟨w.heap.size+1,0,none⟩ u).setCell ⟨w.heap.size+1+1,0,none⟩ (.bool true)
 W9.heap[D]? = some (.deferred (some []))∧(W9.putObj D (.deferred none)).cell? ⟨w.heap.size+1,0,none⟩=some u∧(W9.putObj D (.deferred none)).cell? ⟨w.heap.size+1+1,0,none⟩=some (.bool true)∧Pieces (W9.putObj D (.deferred none)) u us∧Below w.heap.size w (W9.putObj D (.deferred none)):=by
 intro W9;have h1:Boxed (W8.setCell ⟨w.heap.size+1,0,none⟩ u) (w.heap.size+1) 60 u:=r1.set u;have h2:Boxed (W8.setCell ⟨w.heap.size+1,0,none⟩ u) (w.heap.size+1+1) 4 (.bool false):=(heap_setCell_other _ ⟨w.heap.size+1,0,none⟩ _ _ (by simp)).trans r2;have h3:Boxed W9 (w.heap.size+1+1) 4 (.bool true):=h2.set _;have h4:Boxed W9 (w.heap.size+1) 60 u:=(heap_setCell_other _ ⟨w.heap.size+1+1,0,none⟩ _ _ (by simp)).trans h1;have hk:W9.heap[D]? = some (.deferred (some [])):=((KeepsOthers.setCell W8 _ _).trans (KeepsOthers.setCell _ _ _)).same D _ hK rfl;have q9:OwnQ W9 B u us:=(hoq.box r1 (by decide)).box h2 (by decide);have i9:InQ w W9 us:=(hin.box r1 (by decide)).box h2 (by decide);have b9:Below w.heap.size w W9:=(hb.setCell (p:=⟨w.heap.size+1,0,none⟩) (by show w.heap.size≤w.heap.size+1;omega) _).setCell (p:=⟨w.heap.size+1+1,0,none⟩) (by show w.heap.size≤w.heap.size+1+1;omega) _;have b10:Below w.heap.size w (W9.putObj D (.deferred none)):=b9.trans (belowK_b (w:=w) (nR _) W9 D _ _ hD hk rfl rfl);exact⟨hk,(zcZ h4 hk rfl).cell,(zcZ h3 hk rfl).cell,OwnQ.pieces (ownsRow_putObj q9 _ hk rfl) ((i9.put hk rfl).rd b10),b10⟩
theorem zjn{w W8:World}{D g:Nat}{o:Obj}(r1:Boxed W8 (w.heap.size+1) 60 (.slice none 0 0))(r2:Boxed W8 (w.heap.size+1+1) 4 (.bool false))(hb:Below w.heap.size w W8)(hK:W8.heap[D]? = some (.deferred (some [])))(hD:w.heap.size≤D) :
 let W9:=((W8.alloc o).setCell ⟨w.heap.size+1,0,none⟩ (.slice (some ⟨g,0,none⟩) 0 0)).setCell ⟨w.heap.size+1+1,0,none⟩ (.bool false)
 W9.heap[D]? = some (.deferred (some []))∧(W9.putObj D (.deferred none)).cell? ⟨w.heap.size+1,0,none⟩=some (.slice (some ⟨g,0,none⟩) 0 0)∧(W9.putObj D (.deferred none)).cell? ⟨w.heap.size+1+1,0,none⟩=some (.bool false)∧Below w.heap.size w (W9.putObj D (.deferred none)):=by
 intro W9;have h1:Boxed ((W8.alloc o).setCell ⟨w.heap.size+1,0,none⟩ (.slice (some ⟨g,0,none⟩) 0 0)) (w.heap.size+1) 60 (.slice (some ⟨g,0,none⟩) 0 0):=(r1.alloc o).set _;have h2:Boxed ((W8.alloc o).setCell ⟨w.heap.size+1,0,none⟩ (.slice (some ⟨g,0,none⟩) 0 0)) (w.heap.size+1+1) 4 (.bool false):=(heap_setCell_other _ ⟨w.heap.size+1,0,none⟩ _ _ (by simp)).trans (r2.alloc o);have h3:Boxed W9 (w.heap.size+1+1) 4 (.bool false):=h2.set _;have h4:Boxed W9 (w.heap.size+1) 60 (.slice (some ⟨g,0,none⟩) 0 0):=(heap_setCell_other _ ⟨w.heap.size+1+1,0,none⟩ _ _ (by simp)).trans h1;have hk:W9.heap[D]? = some (.deferred (some [])):=(((KeepsOthers.alloc W8 o).trans (KeepsOthers.setCell _ _ _)).trans (KeepsOthers.setCell _ _ _)).same D _ hK rfl;have b9:Below w.heap.size w W9:=zbo hb (by omega) (by omega) _ _ _;exact⟨hk,(zcZ h4 hk rfl).cell,(zcZ h3 hk rfl).cell,b9.trans (belowK_b (w:=w) (nR _) W9 D _ _ hD hk rfl rfl)⟩
theorem mid_next{w W w6 w7:World}{X:TrX}{B L S g cap:Nat}{pre:List (RT w)}{x:RT w}{u vE:Value}{us:List (Value×List Ent)}{E:List Ent}{tmp:Obj}
 (hbox:Boxed w6 L 60 u) (hrow:OwnQ w6 B u us) (hB:B≤L) (hsB:B+3≤w6.heap.size) (hwB:w.heap.size+3≤B) (hum:us.map (·.2)++[E]=X.mem::(pre++[x]).map (fun x=>zu x.1.T)) (hul:us.length=pre.length+1) (hin:InQ w w6 us) (hE:OwnE w6 w.heap.size vE E) (hl:E.length≤300)
 (hgood:∀ y∈pre,tabOk X.mem y.1.T=true) (hx:tabOk X.mem x.1.T=true) (htr:w6.heap[w.heap.size]? = some (.cells #[X.vm,X.vy,X.vo,.int .i64 X.seq,X.vs] 28 (0,0))) (r1:Boxed w6 (w.heap.size+1) 60 (.slice none 0 0)) (r2:Boxed w6 (w.heap.size+1+1) 4 (.bool false))
 (b6:Below w.heap.size w w6) (bw:Below W.heap.size W w6) (hwW:w.heap.size≤W.heap.size) (ho7:w7.ownsRow B 24 1 (.slice (some ⟨g,0,none⟩) (us.length+1) cap) (us.length+1) (us.map (·.1)++[vE])) (hg7:(w6.alloc tmp).grownBy w7 u.ownBlock) :
 KeepsFrom S W (w7.setCell ⟨L,0,none⟩ (.slice (some ⟨g,0,none⟩) (us.length+1) cap))∧KpT w.heap.size W (w7.setCell ⟨L,0,none⟩ (.slice (some ⟨g,0,none⟩) (us.length+1) cap))∧Mid w X B L (pre++[x]) (w7.setCell ⟨L,0,none⟩ (.slice (some ⟨g,0,none⟩) (us.length+1) cap)):=by
 obtain⟨hv1,hv2,hr3,hk2,hb2⟩:=hbox.appended (by decide) hrow (by omega) hB ho7 hg7;have ba:=ze w6 tmp;have hqa:=hrow.below ba;refine⟨((zgx bw).trans hk2).from S,⟨(bw.mono hwW).trans (hb2.mono (by omega)),fun k cs fz hk=>?_⟩,⟨⟨_,us++[(vE,E)],hv2,zdK hr3,by rw[List.map_append];exact hum,?_,by simp[hul]⟩,fun y hy=>?_,(hb2.block _ (by omega)).trans htr,(hb2.block _ (by omega)).trans r1,(hb2.block _ (by omega)).trans r2,b6.trans (hb2.mono (by omega)),by have:=hb2.size;omega⟩⟩
 ·have h6:=bw.block k (Array.getElem?_eq_some_iff.1 hk).1;have hk6:=h6.trans hk;have hka:=(Below.heap_alloc w6 tmp k (Array.getElem?_eq_some_iff.1 hk6).1).trans hk6;have hk7:w7.heap[k]? = some (.cells cs 25 fz):=by
   refine(hg7.block k (Array.getElem?_eq_some_iff.1 hka).1 (fun e=>?_)).trans hka;rcases hqa.2 with ⟨h1,_⟩ | ⟨g',cap',cur,hv,_,hgb,_⟩
   ·rw[h1] at e;cases e
   ·rw[hv] at e;obtain rfl:k=g':=Option.some.inj e;rw[hka] at hgb;simp at hgb
  rw[hk];refine(heap_setCell_other w7 ⟨L,0,none⟩ k _ (fun e=>?_)).trans hk7;subst e;rw[show w7.heap[k]? = _ from hv1] at hk7;simp at hk7
 ·have h1:InQ w (w6.alloc tmp) (us++[(vE,E)]):=(hin.push hE hl).below ba;exact(h1.grown hqa hg7).box hv1 (by decide)
 ·rcases List.mem_append.1 hy with hy | hy
  ·exact hgood y hy
  ·rw[List.mem_singleton.1 hy];exact hx
theorem zbf(X:TrX)(w:World)(hx:RdTr w X)(hf:FitTr X) :
 Calls Tryz.prog 33 #[.agg #[X.vm,X.vy,X.vo,.int .i64 X.seq,X.vs]] w fun e w'=>zbN w X e w':=by
 have HNO:Hid (zI X.tre=false→∀ W u,Pieces W u []→Below w.heap.size w W→zbN w X (.returned (.tuple #[u,.bool false])) W):=fun h W u hp hb=>zlm h hp hb
 have HYES:Hid (zI X.tre=true→∀ W u ps,Pieces W u ps→ps.map (·.2)=lsT X.tre→Below w.heap.size w W→zbN w X (.returned (.tuple #[u,.bool true])) W):=fun h W u ps hp hm hb=>zjG h hp hm hb
 generalize zbN w X=GOAL at HNO HYES ⊢;obtain⟨vm,vy,vo,vs,mem,ys,os,seq,snaps⟩:=X;obtain⟨hxm,hxy,hxo,hxs⟩:=hx;obtain⟨hfm,hfy,hfo⟩:=hf;simp only at hxm hxy hxo hxs hfm hfy hfo;obtain⟨am,cm,hvm,hlm,hmm,-⟩:=id hxm;obtain⟨ay,cy,hvy,hly,hmy,-⟩:=id hxy;obtain⟨ao,co,hvo,hlo,hmo,-⟩:=id hxo;obtain⟨asn,cs,hvs,hls,hms,-⟩:=id hxs;obtain⟨mn,hmn⟩:∃ mn,mn=mem.length:=⟨_,rfl⟩;obtain⟨yn,hyn⟩:∃ yn,yn=ys.length:=⟨_,rfl⟩;obtain⟨on,hon⟩:∃ on,on=os.length:=⟨_,rfl⟩;obtain⟨sn,hsn⟩:∃ sn,sn=snaps.length:=⟨_,rfl⟩;rw[← hmn] at hvm hlm;rw[← hyn] at hvy hly;rw[← hon] at hvo hlo;rw[← hsn] at hvs hls;have HMN:Hid (mn=mem.length):=hmn;have HYN:Hid (yn=ys.length):=hyn;have HON:Hid (on=os.length):=hon;have HSN:Hid (sn=snaps.length):=hsn;have HFM:Hid (∀ e∈mem,Fits e):=hfm;have HFY:Hid (∀ t∈ys,∀ s∈t.T.blocks,s.size≤1000000000):=hfy;have HFO:Hid (∀ t∈os,∀ s∈t.T.blocks,s.size≤1000000000):=hfo;subst hvm;subst hvy;subst hvo;subst hvs;unfold maxLen at hmm hmy hmo hms;clear hmn hyn hon hsn hfm hfy hfo;have hhead:zcC (TrX.tre ⟨.slice am mn cm,.slice ay yn cy,.slice ao on co,.slice asn sn cs,mem,ys,os,seq,snaps⟩)=(decide (yn≤6)&&decide (on≤1)&&decide (0≤seq)&&decide (seq≤1000000)&&(decide (snaps.length≤10)&&zar seq snaps)&&okL mem):=by
  unfold zcC TrX.tre;simp only[List.length_map,← HYN.out,← HON.out]
 have HHEAD:Hid (zcC _=_):=hhead;clear hhead;have t0:=zam w ⟨.slice am mn cm,.slice ay yn cy,.slice ao on co,.slice asn sn cs,mem,ys,os,seq,snaps⟩ 28;simp only at t0;obtain⟨WA,hWA⟩:∃ WA,WA=w.alloc (.cells #[.slice am mn cm,.slice ay yn cy,.slice ao on co,.int .i64 seq,.slice asn sn cs] 28):=⟨_,rfl⟩;have bA:Below w.heap.size w WA:=by rw[hWA];exact ze w _
 have hh:WA.heap[w.heap.size]? = some (.cells #[.slice am mn cm,.slice ay yn cy,.slice ao on co,.int .i64 seq,.slice asn sn cs] 28 (0,0)):=by rw[hWA];exact World.alloc_heap_new w _
 have sA:WA.heap.size=w.heap.size+1:=by rw[hWA];simp
 rw[← hWA] at t0;have r1:=Boxed.new WA 60 (.slice none 0 0);obtain⟨WB,hWB⟩:∃ WB,WB=WA.alloc (.cells #[.slice none 0 0] 60):=⟨_,rfl⟩;have bB:Below WA.heap.size WA WB:=by rw[hWB];exact ze WA _
 have sB:WB.heap.size=w.heap.size+1+1:=by rw[hWB];simp;omega
 rw[← hWB] at r1;have r2:=Boxed.new WB 4 (.bool false);obtain⟨WC,hWC⟩:∃ WC,WC=WB.alloc (.cells #[.bool false] 4):=⟨_,rfl⟩;have bC:Below WB.heap.size WB WC:=by rw[hWC];exact ze WB _
 have sC:WC.heap.size=w.heap.size+3:=by rw[hWC];simp;omega
 rw[← hWC] at r2;rw[sA] at r1;rw[sB] at r2;replace t0:=(t0.below bB).below bC;replace hh:=(bC.block w.heap.size (by omega)).trans ((bB.block w.heap.size (by omega)).trans hh);replace r1:Boxed WC (w.heap.size+1) 60 (.slice none 0 0):=(bC.block _ (by omega)).trans r1;have b0:Below w.heap.size w WC:=(bA.trans (bB.mono (by omega))).trans (bC.mono (by omega));have HWC:Hid ((((w.alloc (.cells #[.slice am mn cm,.slice ay yn cy,.slice ao on co,.int .i64 seq,.slice asn sn cs] 28)).alloc (.cells #[.slice none 0 0] 60)).alloc (.cells #[.bool false] 4))=WC):=by unfold Hid;rw[hWC,hWB,hWA]
 clear hWC hWB hWA bA bB bC sA sB;obtain⟨q0,q1,q2,q3,q4⟩:=id t0;simp only at q0 q1 q2 q3 q4;refine(callsIn_wide (n:=9)).1 ?_;refine callsIn_of_wp_marks Tryz.func33 rfl trivial ?_ rfl;simp only[Tryz.ntmps33,List.size_toArray,List.length_cons,List.length_nil,Nat.reduceAdd,Nat.reduceSub,Array.replicate_succ,Array.replicate_zero,List.push_toArray,List.append_toArray,List.nil_append,List.cons_append];refine wpIn_wide.2 ?_;go_upto_region 1 with fail
 rw[HWC.out];clear HWC;have c1:=r1.cell;have c2:=r2.cell;have f1:=r1.frozen;have f2:=r2.frozen;by_cases hy6:6<yn
 ·have hy6i:(6:Int)<(yn:Int):=by omega
  have RES:Hid (zcC _=false):=HHEAD.out.trans (by rw[decide_eq_false (show ¬ yn≤6 by omega)];simp);clear HYES HFM HFY HFO;obtain⟨z1,z2⟩:=zcU r1 r2 (by omega) (.slice (some ⟨w.heap.size+3,0,none⟩) 0 0) (.bool false) (.cells #[] 24);obtain⟨y1,y2,y3,y4,y5,y6⟩:=zbc r1 r2 (by omega) (.slice (some ⟨w.heap.size+3,0,none⟩) 0 0) (.bool false) (.cells #[] 24);go_wp2;refine⟨.tuple #[.slice (some ⟨w.heap.size+3,0,none⟩) 0 0,.bool false],?_,HNO.out (zdU RES.out) _ _ (zaO _ _) (by first | exact zcS b0 (by omega) (by omega) _ _ _ | exact zbo b0 (by omega) (by omega) _ _ _)⟩;simp[results,Tryz.results33,go_sem,z1,z2]
 have hy6n:¬ (6:Int)<(yn:Int):=by omega
 by_cases ho1:1<on
 ·have ho1i:(1:Int)<(on:Int):=by omega
  have RES:Hid (zcC _=false):=HHEAD.out.trans (by rw[decide_eq_false (show ¬ on≤1 by omega)];simp);clear HYES HFM HFY HFO;obtain⟨z1,z2⟩:=zcU r1 r2 (by omega) (.slice (some ⟨w.heap.size+3,0,none⟩) 0 0) (.bool false) (.cells #[] 24);obtain⟨y1,y2,y3,y4,y5,y6⟩:=zbc r1 r2 (by omega) (.slice (some ⟨w.heap.size+3,0,none⟩) 0 0) (.bool false) (.cells #[] 24);go_wp2;refine⟨.tuple #[.slice (some ⟨w.heap.size+3,0,none⟩) 0 0,.bool false],?_,HNO.out (zdU RES.out) _ _ (zaO _ _) (by first | exact zcS b0 (by omega) (by omega) _ _ _ | exact zbo b0 (by omega) (by omega) _ _ _)⟩;simp[results,Tryz.results33,go_sem,z1,z2]
 have ho1n:¬ (1:Int)<(on:Int):=by omega
 by_cases hs0:seq<0
 ·have hs0i:seq<0:=by omega
  have RES:Hid (zcC _=false):=HHEAD.out.trans (by rw[decide_eq_false (show ¬ 0≤seq by omega)];simp);clear HYES HFM HFY HFO;obtain⟨z1,z2⟩:=zcU r1 r2 (by omega) (.slice (some ⟨w.heap.size+3,0,none⟩) 0 0) (.bool false) (.cells #[] 24);obtain⟨y1,y2,y3,y4,y5,y6⟩:=zbc r1 r2 (by omega) (.slice (some ⟨w.heap.size+3,0,none⟩) 0 0) (.bool false) (.cells #[] 24);go_wp2;refine⟨.tuple #[.slice (some ⟨w.heap.size+3,0,none⟩) 0 0,.bool false],?_,HNO.out (zdU RES.out) _ _ (zaO _ _) (by first | exact zcS b0 (by omega) (by omega) _ _ _ | exact zbo b0 (by omega) (by omega) _ _ _)⟩;simp[results,Tryz.results33,go_sem,z1,z2]
 have hs0n:¬ seq<0:=by omega
 by_cases hs1:1000000<seq
 ·have hs1i:1000000<seq:=by omega
  have RES:Hid (zcC _=false):=HHEAD.out.trans (by rw[decide_eq_false (show ¬ seq≤1000000 by omega)];simp);clear HYES HFM HFY HFO;obtain⟨z1,z2⟩:=zcU r1 r2 (by omega) (.slice (some ⟨w.heap.size+3,0,none⟩) 0 0) (.bool false) (.cells #[] 24);obtain⟨y1,y2,y3,y4,y5,y6⟩:=zbc r1 r2 (by omega) (.slice (some ⟨w.heap.size+3,0,none⟩) 0 0) (.bool false) (.cells #[] 24);go_wp2;refine⟨.tuple #[.slice (some ⟨w.heap.size+3,0,none⟩) 0 0,.bool false],?_,HNO.out (zdU RES.out) _ _ (zaO _ _) (by first | exact zcS b0 (by omega) (by omega) _ _ _ | exact zbo b0 (by omega) (by omega) _ _ _)⟩;simp[results,Tryz.results33,go_sem,z1,z2]
 have hs1n:¬ 1000000<seq:=by omega
 obtain⟨so,hso⟩:∃ so,so=(decide (snaps.length≤10)&&zar seq snaps):=⟨_,rfl⟩;have HSO:Hid (∀ W,RdI W (.slice asn sn cs) snaps→Calls Tryz.prog 67 #[.slice asn sn cs,.int .i64 seq] W fun e w'=>e=.returned (.bool so)∧Below W.heap.size W w'):=fun W h=>by rw[hso];exact zhU _ snaps seq W h
 rw[← hso] at HHEAD;clear hso;go_wp2_with fail
 refine(HSO.out _ (hxs.below b0)).mono ?_;rintro e w1 ⟨rfl,hb1⟩;have t1:=t0.below hb1;have hh1:=(hb1.block w.heap.size (by omega)).trans hh;have r11:Boxed w1 (w.heap.size+1) 60 (.slice none 0 0):=(hb1.block _ (by omega)).trans r1;have r21:Boxed w1 (w.heap.size+1+1) 4 (.bool false):=(hb1.block _ (by omega)).trans r2;have b1:=b0.trans (hb1.mono b0.size);have s1:w.heap.size+3≤w1.heap.size:=by rw[← sC];exact hb1.size
 clear t0 r1 r2 b0 hb1 HSO hh q0 q1 q2 q3 q4 c1 c2 f1 f2 sC;obtain⟨q0,q1,q2,q3,q4⟩:=id t1;simp only at q0 q1 q2 q3 q4;have c1:=r11.cell;have c2:=r21.cell;have f1:=r11.frozen;have f2:=r21.frozen;cases so with
 | false =>
  have RES:Hid (zcC _=false):=HHEAD.out.trans (by simp);clear HYES HFM HFY HFO;obtain⟨-,-⟩:=zcU r11 r21 (by omega) (.slice (some ⟨w1.heap.size,0,none⟩) 0 0) (.bool false) (.cells #[] 24);obtain⟨y1,y2,y3,y4,y5,y6⟩:=zbc r11 r21 (by omega) (.slice (some ⟨w1.heap.size,0,none⟩) 0 0) (.bool false) (.cells #[] 24);go_wp2;refine⟨.tuple #[.slice (some ⟨w1.heap.size,0,none⟩) 0 0,.bool false],?_,HNO.out (zdU RES.out) _ _ (zaO _ _) (by first | exact zcS b1 (by omega) (by omega) _ _ _ | exact zbo b1 (by omega) (by omega) _ _ _)⟩;simp[results,Tryz.results33,go_sem,y5,y6]
 | true =>
  obtain⟨mo,hmo2⟩:∃ mo,mo=okL mem:=⟨_,rfl⟩;have HMO:Hid (mo=okL mem):=hmo2;have HEO:Hid (∀ W,RdE W (.slice am mn cm) mem→Calls Tryz.prog 61 #[.slice am mn cm] W fun e w'=>e=.returned (.bool mo)∧Below W.heap.size W w'):=fun W h=>by rw[hmo2];exact zaz _ mem W h HFM.out
  rw[← hmo2] at HHEAD;clear hmo2;go_wp2_with fail
  refine(HEO.out _ (hxm.below b1)).mono ?_;rintro e w2 ⟨rfl,hb2⟩;have t2:=t1.below hb2;have hh2:=(hb2.block w.heap.size (by omega)).trans hh1;have r12:Boxed w2 (w.heap.size+1) 60 (.slice none 0 0):=(hb2.block _ (by omega)).trans r11;have r22:Boxed w2 (w.heap.size+1+1) 4 (.bool false):=(hb2.block _ (by omega)).trans r21;have b2:=b1.trans (hb2.mono b1.size);have s2:w.heap.size+3≤w2.heap.size:=nT s1 hb2.size;clear t1 r11 r21 b1 hb2 HEO hh1 q0 q1 q2 q3 q4 c1 c2 f1 f2 s1;obtain⟨q0,q1,q2,q3,q4⟩:=id t2;simp only at q0 q1 q2 q3 q4;have c1:=r12.cell;have c2:=r22.cell;have f1:=r12.frozen;have f2:=r22.frozen;cases mo with
  | false =>
   have RES:Hid (zcC _=false):=HHEAD.out.trans (by simp);clear HYES HFM HFY HFO;obtain⟨-,-⟩:=zcU r12 r22 (by omega) (.slice (some ⟨w2.heap.size,0,none⟩) 0 0) (.bool false) (.cells #[] 24);obtain⟨y1,y2,y3,y4,y5,y6⟩:=zbc r12 r22 (by omega) (.slice (some ⟨w2.heap.size,0,none⟩) 0 0) (.bool false) (.cells #[] 24);go_wp2;refine⟨.tuple #[.slice (some ⟨w2.heap.size,0,none⟩) 0 0,.bool false],?_,HNO.out (zdU RES.out) _ _ (zaO _ _) (by first | exact zcS b2 (by omega) (by omega) _ _ _ | exact zbo b2 (by omega) (by omega) _ _ _)⟩;simp[results,Tryz.results33,go_sem,y5,y6]
  | true =>
   have HEAD:Hid (zcC _=true):=HHEAD.out.trans (by simp;omega);clear HHEAD;obtain⟨WD,hWD⟩:∃ WD,WD=w2.alloc (.cells #[.slice am mn cm] 24):=⟨_,rfl⟩;have bD:Below w2.heap.size w2 WD:=(by rw[hWD];exact ze w2 _);have sD:WD.heap.size=w2.heap.size+1:=(by rw[hWD];simp);have qD:OwnQ WD w2.heap.size (.slice (some ⟨w2.heap.size,0,none⟩) 1 1) [(.slice am mn cm,mem)]:=(by rw[hWD];exact zlI w2 _ mem);have r3:=Boxed.new WD 60 (.slice (some ⟨w2.heap.size,0,none⟩) 1 1);obtain⟨W3,hW3⟩:∃ W3,W3=WD.alloc (.cells #[.slice (some ⟨w2.heap.size,0,none⟩) 1 1] 60):=⟨_,rfl⟩;have bE:Below WD.heap.size WD W3:=(by rw[hW3];exact ze WD _);have sE:W3.heap.size=w2.heap.size+2:=(by rw[hW3];simp;omega);rw[← hW3,sD] at r3;have HW3:Hid (((w2.alloc (.cells #[.slice am mn cm] 24)).alloc (.cells #[.slice (some ⟨w2.heap.size,0,none⟩) 1 1] 60))=W3):=(by unfold Hid;rw[hW3,hWD]);have q3':=qD.below bE;have t3:=(t2.below bD).below bE;have hh3:=(bE.block w.heap.size (by omega)).trans ((bD.block w.heap.size (by omega)).trans hh2);have r13:Boxed W3 (w.heap.size+1) 60 (.slice none 0 0):=(bE.block _ (by omega)).trans ((bD.block _ (by omega)).trans r12);have r23:Boxed W3 (w.heap.size+1+1) 4 (.bool false):=(bE.block _ (by omega)).trans ((bD.block _ (by omega)).trans r22);have b3:Below w.heap.size w W3:=(b2.trans (bD.mono b2.size)).trans (bE.mono (by have:=b2.size;omega));obtain⟨p0,p1,p2,p3,p4⟩:=id t3;simp only at p0 p1 p2 p3 p4;rw[hW3,hWD] at p0 p1 p2 p3 p4;clear hW3 hWD bD sD bE qD t2 hh2 r12 r22 b2 c1 c2 f1 f2;go_wp2_with fail
   rw[HW3.out];refine(zmA ⟨.slice am mn cm,.slice ay yn cy,.slice ao on co,.slice asn sn cs,mem,ys,os,seq,snaps⟩ _).mono ?_;rintro e w4 ⟨rfl,rfl⟩;simp only;rw[HW3.out] at p0 p1 p2 p3 p4;clear q0 q1 q2 q3 q4 HW3;go_wp2_with fail
   have b4a:=ze W3 (.cells #[.slice am mn cm,.slice ay yn cy,.slice ao on co,.int .i64 seq,.slice asn sn cs] 28);have hcl:(W3.alloc (.cells #[.slice am mn cm,.slice ay yn cy,.slice ao on co,.int .i64 seq,.slice asn sn cs] 28)).heap[W3.heap.size]? = some (.cells #[.slice am mn cm,.slice ay yn cy,.slice ao on co,.int .i64 seq,.slice asn sn cs] 28 (0,0)):=World.alloc_heap_new W3 _;obtain⟨WL,hWL⟩:∃ WL,WL=W3.alloc (.cells #[.slice am mn cm,.slice ay yn cy,.slice ao on co,.int .i64 seq,.slice asn sn cs] 28):=⟨_,rfl⟩;have sL:WL.heap.size=W3.heap.size+1:=(by rw[hWL];simp);rw[← hWL] at b4a hcl ⊢;clear hWL;obtain⟨yz,hyz⟩:=zlh (w:=w) ys (fun t ht=>⟨(hxy.all t ht).1,(hxy.all t ht).2,HFY.out t ht⟩);obtain⟨oz,hoz⟩:=zlh (w:=w) os (fun t ht=>⟨(hxo.all t ht).1,(hxo.all t ht).2,HFO.out t ht⟩);have hNN:yz.length+oz.length≤7:=by
    have e1:=congrArg List.length hyz;have e2:=congrArg List.length hoz;rw[List.length_map,← HYN.out] at e1;rw[List.length_map,← HON.out] at e2;omega
   have c1L:WL.cell? ⟨W3.heap.size,1,none⟩=some (.slice ay yn cy):=(by simp[World.cell?,hcl]);have c2L:WL.cell? ⟨W3.heap.size,2,none⟩=some (.slice ao on co):=(by simp[World.cell?,hcl]);have bL:Below w.heap.size w WL:=b3.trans (b4a.mono b3.size);have SEQ:=zju w 8 (by omega) W3.heap.size _ _ yz oz WL (by omega) bL.size c1L c2L (by rw[hyz];exact hxy) (by rw[hoz];exact hxo) bL;have HINQ:InQ w W3 [(.slice am mn cm,mem)]:=fun p hp=>by rw[List.mem_singleton.1 hp];exact⟨.inl hxm,zad HMO.out.symm⟩
   have MID:Mid w ⟨.slice am mn cm,.slice ay yn cy,.slice ao on co,.slice asn sn cs,mem,ys,os,seq,snaps⟩ w2.heap.size (w2.heap.size+1) [] WL :=
    ⟨⟨_,_,(b4a.block _ (by omega)).trans r3,q3'.below b4a,rfl,HINQ.below b4a,rfl⟩,(fun x hx=>by cases hx),(b4a.block _ (by omega)).trans hh3,(b4a.block _ (by omega)).trans r13,(b4a.block _ (by omega)).trans r23,bL,by omega⟩
   have HSEQ:Hid (SeqStopsK _ _ _ _ _ _ _ _ _ _ _):=SEQ;have HMID:Hid (Mid _ _ _ _ _ _):=MID;clear SEQ MID HINQ c1L c2L hcl q3' t3 hh3 r13 r23 r3 p0 p1 p2 p3 p4 b3 b4a HFM HFY HFO;refine(wpIn_wide (n:=9)).1 ?_;generalize hA0:({ tmps:=_,defers:=_ }:Act)=A0;refine wpIn_rangeFunc_ownH (F:=Fence.wide) (n:=9) (P:=Tryz.prog) (a:=A0) rfl (by omega) (gf:=105) (lb:=#[.pointer (some ⟨W3.heap.size,0,none⟩)]) (by rw[← hA0];rfl) trivial (enters_of Tryz.func105 (by kernel_rfl) rfl)
    HSEQ.out KpT.trans (KpT.putObj bL.size) (Below.refl _ _) (by intro x;rfl)
    (Mid w ⟨.slice am mn cm,.slice ay yn cy,.slice ao on co,.slice asn sn cs,mem,ys,os,seq,snaps⟩ w2.heap.size (w2.heap.size+1)) (Left w ⟨.slice am mn cm,.slice ay yn cy,.slice ao on co,.slice asn sn cs,mem,ys,os,seq,snaps⟩) (zoo bL.size) (left_own bL.size) HMID.out
    (fun x a' W=>∃ Bx,WL.heap.size≤Bx∧BoxT W Bx x.1.T.first x.1.T.last x.1.vb x.1.vk∧a' = { tmps:=(A0.tmps.setIfInBounds 47 (.agg #[.string x.1.T.first,.string x.1.T.last,x.1.vb,x.1.vk])).setIfInBounds 5 (.pointer (some ⟨Bx,0,none⟩)),defers:=[] })
    (fun x a' _ W W' row h hg hr=>by
     obtain⟨Bx,h1,h2,h3⟩:=h;exact⟨Bx,h1,(zc6 hg (fun r e=>(hr r e).2) h2).trans h2,h3⟩) ?assign ?body ?done ?stop
   case assign =>
    rintro l pre x W K hi hK;subst hA0;have hsz:=hi.size;obtain⟨ab,cb,hvb,-⟩:=id x.2.1;obtain⟨ak,ck,hvk,-⟩:=id x.2.2.1;generalize x.1.T.bits.length=bn at hvb;generalize x.1.T.blocks.length=kn at hvk;rw[hvb,hvk] at hK ⊢;have HK:Hid (∀ _ _,_):=hK;clear hK hvb hvk;gi_wp2
    refine HK.out _ _ ((KeepsOthers.alloc _ _).from _) (KpT.alloc (by have:=hi.bel.size;omega) _) ((zoo bL.size).alloc _ hi) ⟨W.heap.size,by omega,zbL _ _ _ _ _,by simp⟩
   case body =>
    rintro l pre x a' W hl ⟨r,hr⟩ hM ⟨Bx,hBx,bX,rfl⟩ hlt;subst hA0;obtain⟨⟨u,us,hbu,hoq,hum,hin,hul⟩,hgood,htr,hr1,hr2,hbel,hsz⟩:=hM;simp only at hum hgood htr;have hus:us.length≤8:=(by omega);have HUL:Hid (us.length=pre.length+1):=hul;clear hul;obtain⟨ab,cb,hvb,-⟩:=id x.2.1;obtain⟨ak,ck,hvk,-⟩:=id x.2.2.1;have HUT:Hid (Calls _ _ _ _ _):=zfs x.1.T x.1.vb x.1.vk W (x.2.1.below hbel) (x.2.2.1.below hbel) x.2.2.2;rw[hvb] at bX;rw[hvk] at bX;rw[hvb,hvk] at HUT ⊢;obtain⟨d0,d1,d2,d3,-⟩:=bX.facts;clear hvb hvk;unfold zbW at HUT;simp only at HUT;have HB1:Hid (zT x.1.T=false→tabOk mem x.1.T=false):=zoq;have HB2:Hid (newIn mem (zu x.1.T)=false→tabOk mem x.1.T=false):=zo4;have HB3:Hid (zT x.1.T=true→newIn mem (zu x.1.T)=true→tabOk mem x.1.T=true):=zo2;have HOKE:Hid (zT x.1.T=true→okL (zu x.1.T)=true):=fun h=>(zac h).1
    have hel:=zbQ x.1.T;have HPRE:Hid (mem::(pre++[x]).map (fun x=>zu x.1.T)=(mem::pre.map (fun x=>zu x.1.T))++[zu x.1.T]):=(by unfold Hid;simp);generalize zT x.1.T=ok at HUT HB1 HB3 HOKE;generalize zu x.1.T=E at HUT HB2 HB3 HOKE hel HPRE;gi_wp2_with fail
    refine⟨trivial,(CallsIn.inRound l (callsIn_wide.2 HUT.out)).mono ?_⟩;rintro e w5 ⟨u5,rfl,ho5,hb5⟩;have r15:Boxed w5 (w.heap.size+1) 60 (.slice none 0 0):=(hb5.block _ hr1.lt).trans hr1;have r25:Boxed w5 (w.heap.size+1+1) 4 (.bool false):=(hb5.block _ hr2.lt).trans hr2;have b5:=hbel.trans (hb5.mono hbel.size);have tr5:=(hb5.block _ (Array.getElem?_eq_some_iff.1 htr).1).trans htr;obtain⟨q0,q1,q2,q3,q4⟩:=zhA tr5;have c1:=r15.cell;have c2:=r25.cell;have f1:=r15.frozen;have f2:=r25.frozen;obtain⟨a5,c5,hv5,-⟩:=id ho5.rd;obtain⟨n5,hn5⟩:∃ n5,n5=E.length:=⟨_,rfl⟩;rw[← hn5] at hv5 hel;subst hv5;have HN5:Hid (n5=E.length):=hn5;clear HUT hn5;cases ok with
    | false =>
     have RES:Hid (tabOk mem x.1.T=false):=HB1.out rfl;clear HB1 HB2 HB3 HOKE;obtain⟨y1,y2,y3,y4,y5,y6⟩:=zbc r15 r25 (by omega) (.slice (some ⟨w5.heap.size,0,none⟩) 0 0) (.bool false) (.cells #[] 24);gi_wp2
     refine⟨trivial,?_⟩;gi_wp2
     exact zlE (X:=⟨.slice am mn cm,.slice ay yn cy,.slice ao on co,.slice asn sn cs,mem,ys,os,seq,snaps⟩) (x:=x) RES.out hb5 b5 r15 r25
    | true =>
     have HNW:Hid (Calls _ _ _ _ _):=zkn (.slice am mn cm) (.slice a5 n5 c5) mem E w5 (hxm.below b5) ho5.rd (HOKE.out rfl);have HB3':Hid (newIn mem E=true→tabOk mem x.1.T=true):=HB3.out rfl;generalize newIn mem E=nw at HNW HB2 HB3';clear HB1 HB3 HOKE;gi_wp2_with fail
     refine⟨trivial,(CallsIn.inRound l (callsIn_wide.2 HNW.out)).mono ?_⟩;rintro e w6 ⟨rfl,hb6⟩;have r16:Boxed w6 (w.heap.size+1) 60 (.slice none 0 0):=(hb6.block _ r15.lt).trans r15;have r26:Boxed w6 (w.heap.size+1+1) 4 (.bool false):=(hb6.block _ r25.lt).trans r25;have b6:=b5.trans (hb6.mono b5.size);have bw6:=hb5.trans (hb6.mono hb5.size);clear c1 c2 f1 f2 HNW;have c1:=r16.cell;have c2:=r26.cell;have f1:=r16.frozen;have f2:=r26.frozen;cases nw with
     | false =>
      have RES:Hid (tabOk mem x.1.T=false):=HB2.out rfl;clear HB2 HB3';obtain⟨y1,y2,y3,y4,y5,y6⟩:=zbc r16 r26 (by omega) (.slice (some ⟨w6.heap.size,0,none⟩) 0 0) (.bool false) (.cells #[] 24);gi_wp2
      exact zlE (X:=⟨.slice am mn cm,.slice ay yn cy,.slice ao on co,.slice asn sn cs,mem,ys,os,seq,snaps⟩) (x:=x) RES.out bw6 b6 r16 r26
     | true =>
      have GOOD:Hid (tabOk mem x.1.T=true):=HB3'.out rfl;clear HB2 HB3';have tr6:=(hb6.block _ (Array.getElem?_eq_some_iff.1 tr5).1).trans tr5;have hbu6:Boxed w6 (w2.heap.size+1) 60 u:=(hb6.block _ (by have:=hb5.size;have:=hbu.lt;omega)).trans ((hb5.block _ hbu.lt).trans hbu);have hoq6:=(hoq.below hb5).below hb6;have hin6:=(hin.below hb5).below hb6;have ho6:=ho5.below hb6;have cu:=hbu6.cell;have fu:=hbu6.frozen;obtain⟨i0,hi,hz0,hz1,hz2⟩:=info_parts Tryz.infoL24;have hs6:w2.heap.size+3≤w6.heap.size:=(by have:=bw6.size;omega);gi_wp2_with (gi_at_builtin;(refine wpListIn_append_own _ rfl _ _ 60 rfl w2.heap.size 24 i0 (.slice none 0 0) 1 24 Tryz.underlying60 hi hz0 hz1 hz2 rfl (by decide) _ us.length _ rfl (World.ownsRow.alloc hoq6 _) ⟨w6.heap.size,0,none⟩ 1 1 [.slice a5 n5 c5] rfl rfl ?c1 ?c2 ?c3 ?c4 ?c5 ?_))
      case c1=>exact zjE _ _ _ _ rfl
      case c2=>intro z hz;simp at hz;subst hz;rfl
      case c3=>unfold maxLen;omega
      case c4=>omega
      case c5=>simp;omega
      intro v7 w7 ho7 hg7 _;obtain⟨g',cap',rfl⟩:=ownsRow_succ ho7;have NEXT:=mid_next (S:=w2.heap.size+2+1) (X:=⟨.slice am mn cm,.slice ay yn cy,.slice ao on co,.slice asn sn cs,mem,ys,os,seq,snaps⟩) (pre:=pre) (x:=x) hbu6 hoq6 (by omega) hs6 s2 (by rw[hum];exact HPRE.out.symm) HUL.out hin6 (ho6.mono hbel.size) (by rw[← HN5.out];exact hel) hgood GOOD.out tr6 r16 r26 b6 bw6 hbel.size ho7 hg7;have HNX:Hid (_∧_∧_):=NEXT;obtain⟨hv1,-,-,-,-⟩:=hbu6.appended (by decide) hoq6 (by omega) (by omega) ho7 hg7;have cv:=hv1.cell;have fv:=hv1.frozen;clear NEXT hv1 ho7 hg7 cu fu hoq6 hin6 ho6 hbu6 tr6 r16 r26 c1 c2 f1 f2 q0 q1 q2 q3 q4;gi_wp2
      exact HNX.out
   case done =>
    rintro D zs W hD rfl hM hK;subst hA0;obtain⟨⟨u,us,hbu,hoq,hum,hin,hul⟩,hgood,htr,hr1,hr2,hbel,hsz⟩:=hM;simp only at hum hgood htr;have hNl:us.length≤8:=(by rw[hul,lA];omega);have HPC:Hid (Pieces W u us):=hoq.pieces (hin.rd hbel);have HLS:Hid (us.map (·.2)=lsT (TrX.tre ⟨.slice am mn cm,.slice ay yn cy,.slice ao on co,.slice asn sn cs,mem,ys,os,seq,snaps⟩)):=by
     unfold Hid;rw[hum];unfold lsT tabL TrX.tre;simp only[List.map_append,← hyz,← hoz,List.map_map];rfl
    have HTB:Hid (∀ t∈(TrX.tre ⟨.slice am mn cm,.slice ay yn cy,.slice ao on co,.slice asn sn cs,mem,ys,os,seq,snaps⟩).young++(TrX.tre ⟨.slice am mn cm,.slice ay yn cy,.slice ao on co,.slice asn sn cs,mem,ys,os,seq,snaps⟩).old,tabOk mem t=true):=fun t ht=>by
     have:t∈(yz++oz).map (fun x=>x.1.T):=by
      unfold TrX.tre at ht;simp only[← hyz,← hoz,List.map_map] at ht;rw[List.map_append];exact ht
     obtain⟨x,hx,rfl⟩:=List.mem_map.1 this;exact hgood x hx
    have HOKS:Hid (∀ p∈us,okL p.2=true):=fun p hp=>by
     have:p.2∈us.map (·.2):=List.mem_map_of_mem hp;rw[hum] at this;rcases List.mem_cons.1 this with e | e
     ·rw[e];exact HMO.out.symm
     ·obtain⟨x,hx,e2⟩:=List.mem_map.1 e;rw[← e2];have:=hgood x hx;unfold tabOk at this;simp only[Bool.and_eq_true] at this;exact(zac this.1).1
    obtain⟨q0,q1,q2,q3,q4⟩:=zhA htr;have cu:=hbu.cell;have HNP:Hid (∀ W',Below W.heap.size W W'→Calls Tryz.prog 71 #[u,.int .i64 seq] W' fun e w'=>e=.returned (.bool (past (us.map (·.2)) seq))∧Below W'.heap.size W' w'):=fun W' hb=>zg0 u us seq W' (HPC.out.below hb)
    have HNT:Hid (∀ W',Below W.heap.size W W'→Calls Tryz.prog 72 #[u] W' fun e w'=>e=.returned (.bool (decide ((zj (us.map (·.2))).length=lenS (us.map (·.2)))))∧Below W'.heap.size W' w'):=fun W' hb=>zf3 u us W' (HPC.out.below hb) (by omega) HOKS.out
    rw[HLS.out] at HNP HNT;have HT0:Hid (∀ p t,p=past (lsT (TrX.tre ⟨.slice am mn cm,.slice ay yn cy,.slice ao on co,.slice asn sn cs,mem,ys,os,seq,snaps⟩)) seq→t=decide ((zj (lsT (TrX.tre ⟨.slice am mn cm,.slice ay yn cy,.slice ao on co,.slice asn sn cs,mem,ys,os,seq,snaps⟩))).length=lenS (lsT (TrX.tre ⟨.slice am mn cm,.slice ay yn cy,.slice ao on co,.slice asn sn cs,mem,ys,os,seq,snaps⟩)))→zfI (TrX.tre ⟨.slice am mn cm,.slice ay yn cy,.slice ao on co,.slice asn sn cs,mem,ys,os,seq,snaps⟩)=(p&&t)):=fun p t hp ht=>by rw[hp,ht];rfl
    obtain⟨pp,hpp⟩:∃ pp,pp=past (lsT (TrX.tre ⟨.slice am mn cm,.slice ay yn cy,.slice ao on co,.slice asn sn cs,mem,ys,os,seq,snaps⟩)) seq:=⟨_,rfl⟩;obtain⟨tt,htt⟩:∃ tt,tt=decide ((zj (lsT (TrX.tre ⟨.slice am mn cm,.slice ay yn cy,.slice ao on co,.slice asn sn cs,mem,ys,os,seq,snaps⟩))).length=lenS (lsT (TrX.tre ⟨.slice am mn cm,.slice ay yn cy,.slice ao on co,.slice asn sn cs,mem,ys,os,seq,snaps⟩))):=⟨_,rfl⟩;have HTL:Hid (zfI _=(pp&&tt)):=HT0.out pp tt hpp htt;rw[← hpp] at HNP;rw[← htt] at HNT;clear hpp htt HT0 hgood hum;obtain⟨au,cu2,hvu,-⟩:=HPC.out.at;obtain⟨un,hun⟩:∃ un,un=us.length:=⟨_,rfl⟩;rw[← hun] at hvu;subst hvu;clear hun hNl hul HPC HOKS;go_wp2_with fail
    refine(HNP.out _ (Below.refl _ _)).mono ?_;rintro e w7 ⟨rfl,hb7⟩;have r17:Boxed w7 (w.heap.size+1) 60 (.slice none 0 0):=(hb7.block _ hr1.lt).trans hr1;have r27:Boxed w7 (w.heap.size+1+1) 4 (.bool false):=(hb7.block _ hr2.lt).trans hr2;have b7:=hbel.trans (hb7.mono hbel.size);have hbu7:Boxed w7 (w2.heap.size+1) 60 (.slice au un cu2):=(hb7.block _ hbu.lt).trans hbu;have hK7:=(hb7.block D (Array.getElem?_eq_some_iff.1 hK).1).trans hK;have hoq7:=hoq.below hb7;have hin7:=hin.below hb7;clear q0 q1 q2 q3 q4 cu HNP;have cu:=hbu7.cell;have c1:=r17.cell;have c2:=r27.cell;have f1:=r17.frozen;have f2:=r27.frozen;cases pp with
    | false =>
     have RES:Hid (zfI _=false):=HTL.out;clear HTL HYES;obtain⟨y1,y2,y3,y4,y5,y6⟩:=zbc r17 r27 (by omega) (.slice (some ⟨w7.heap.size,0,none⟩) 0 0) (.bool false) (.cells #[] 24);obtain⟨k1,k2,k3,k4⟩:=zjn (g:=w7.heap.size) (o:=.cells #[] 24) r17 r27 b7 hK7 (by have:=bL.size;omega);go_wp2;refine⟨by simp,.inl ⟨_,_,rfl,run_takeDeferred k1,?_⟩⟩;refine⟨.tuple #[.slice (some ⟨w7.heap.size,0,none⟩) 0 0,.bool false],?_,HNO.out (zmc RES.out) _ _ (zaO _ _) k4⟩;simp[results,Tryz.results33,go_sem,k2,k3]
    | true =>
     go_wp2_with fail
     refine(HNT.out _ hb7).mono ?_;rintro e w8 ⟨rfl,hb8⟩;have r18:Boxed w8 (w.heap.size+1) 60 (.slice none 0 0):=(hb8.block _ r17.lt).trans r17;have r28:Boxed w8 (w.heap.size+1+1) 4 (.bool false):=(hb8.block _ r27.lt).trans r27;have b8:=b7.trans (hb8.mono b7.size);have hbu8:Boxed w8 (w2.heap.size+1) 60 (.slice au un cu2):=(hb8.block _ hbu7.lt).trans hbu7;have hK8:=(hb8.block D (Array.getElem?_eq_some_iff.1 hK7).1).trans hK7;have hoq8:=hoq7.below hb8;have hin8:=hin7.below hb8;clear cu c1 c2 f1 f2 HNT;have cu:=hbu8.cell;have c1:=r18.cell;have c2:=r28.cell;have f1:=r18.frozen;have f2:=r28.frozen;cases tt with
     | false =>
      have RES:Hid (zfI _=false):=HTL.out;clear HTL HYES;obtain⟨y1,y2,y3,y4,y5,y6⟩:=zbc r18 r28 (by omega) (.slice (some ⟨w8.heap.size,0,none⟩) 0 0) (.bool false) (.cells #[] 24);obtain⟨k1,k2,k3,k4⟩:=zjn (g:=w8.heap.size) (o:=.cells #[] 24) r18 r28 b8 hK8 (by have:=bL.size;omega);go_wp2;refine⟨by simp,.inl ⟨_,_,rfl,run_takeDeferred k1,?_⟩⟩;refine⟨.tuple #[.slice (some ⟨w8.heap.size,0,none⟩) 0 0,.bool false],?_,HNO.out (zmc RES.out) _ _ (zaO _ _) k4⟩;simp[results,Tryz.results33,go_sem,k2,k3]
     | true =>
      have RES:Hid (zI _=true):=unp_yes HEAD.out HTB.out HTL.out;clear HTL HNO;obtain⟨k1,k2,k3,k4,k5⟩:=unp_end r18 r28 hoq8 hin8 b8 hK8 (by have:=bL.size;omega);have K4:Hid (Pieces _ _ _):=k4;have K5:Hid (Below _ _ _):=k5;have h2:Boxed (w8.setCell ⟨w.heap.size+1,0,none⟩ (.slice au un cu2)) (w.heap.size+1+1) 4 (.bool false):=(heap_setCell_other _ ⟨w.heap.size+1,0,none⟩ _ _ (by simp)).trans r28;have g1:=h2.cell;have g2:=h2.frozen;clear k4 k5;go_wp2;refine⟨by simp,.inl ⟨_,_,rfl,run_takeDeferred k1,?_⟩⟩;refine⟨.tuple #[.slice au un cu2,.bool true],?_,HYES.out RES.out _ _ us K4.out HLS.out K5.out⟩;simp[results,Tryz.results33,go_sem,k2,k3]
   case stop =>
    rintro D c pre W hD hpre hL hK;subst hA0;obtain⟨rfl,⟨x,hxp,hbad⟩,⟨g,hr1⟩,hr2,hbel⟩:=hL;have RES:Hid (zI (TrX.tre ⟨.slice am mn cm,.slice ay yn cy,.slice ao on co,.slice asn sn cs,mem,ys,os,seq,snaps⟩)=false):=by
     refine unp_tab (t:=x.1.T) ?_ hbad;unfold TrX.tre;simp only[← hyz,← hoz,List.map_map];rw[← List.map_append];exact List.mem_map.2 ⟨x,hpre.subset hxp,rfl⟩
    clear HYES;have k1:=(zcZ (o':=.deferred none) hr1 hK rfl).cell;have k2:=(zcZ (o':=.deferred none) hr2 hK rfl).cell;have k3:Below w.heap.size w (W.putObj D (.deferred none)):=hbel.trans (belowK_b (w:=w) (nR _) W D _ _ (by have:=bL.size;omega) hK rfl rfl);gi_wp2
    refine⟨by simp,.inl ⟨_,_,rfl,run_takeDeferred hK,?_⟩⟩;refine⟨.tuple #[.slice (some ⟨g,0,none⟩) 0 0,.bool false],?_,HNO.out RES.out _ _ (zaO _ _) k3⟩;simp[results,Tryz.results33,go_sem,k1,k2]
open Go.RowKit
theorem zcN(X:TrX)(w:World)(hx:RdTr w X)(hf:FitTr X) :
 Calls Tryz.prog 18 #[.agg #[X.vm,X.vy,X.vo,.int .i64 X.seq,X.vs]] w fun e w'=>e=.returned (.bool (zI X.tre))∧Below w.heap.size w w':=by
 have ht0:=zam w X 28;have b0:=ze w (.cells #[X.vm,X.vy,X.vo,.int .i64 X.seq,X.vs] 28);have HU:Hid (Calls _ _ _ _ _):=zbf X _ (hx.below b0) hf;unfold zbN at HU;generalize zI X.tre=ok at HU ⊢;obtain⟨q0,q1,q2,q3,q4⟩:=id ht0;go_enter Tryz.func18,Tryz.ntmps18
 go_wp2_with fail
 refine HU.out.mono ?_;rintro e w1 ⟨u,ps,rfl,-,-,hb1⟩;have b1:=b0.trans (hb1.mono b0.size);clear HU ht0 q0 q1 q2 q3 q4 hb1;go_wp2;go_ret;exact⟨rfl,b1⟩
end Go.Proofs.YtjlnchhgkfnldaaGreat
