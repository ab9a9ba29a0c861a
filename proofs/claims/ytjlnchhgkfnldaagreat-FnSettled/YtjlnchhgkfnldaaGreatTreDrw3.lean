import Derived.Test.YtjlnchhgkfnldaaGreatG34
namespace Go.Proofs.YtjlnchhgkfnldaaGreat
set_option maxHeartbeats 16000000
set_option maxRecDepth 100000
open Go.RowKit
structure TA (w0 w W:World) (g b3:Nat) (X:TrX):Prop where
 box:BoxTr W b3 X.vm X.vy X.vo X.seq X.vs
 rows:RowsTr W (w.heap.size+1) X
 tree:TreeP X.tre
 few:X.snaps.length≤6
 ap:zhn X
 dc:DCur w0 W g
 gr:w.grownBy W (some g)
 res:BoxTr W w.heap.size (.slice none 0 0) (.slice none 0 0) (.slice none 0 0) 0 (.slice none 0 0)
def Loose(w:World)(b3:Nat)(bs:List Nat):Prop:=∀ k∈bs,k≤w.heap.size∨k=b3
structure TZ (w0 w W:World) (g b3:Nat) (X:TrX):Prop where
 box:BoxTr W b3 X.vm X.vy X.vo X.seq X.vs
 st:∀ bs W',Loose w b3 bs→Touch bs W W'→RdTr W' X
 fit:FitTr X
 ny:NilOk X.vy
 no:NilOk X.vo
 few:X.snaps.length≤7
 dc:DCur w0 W g
 gr:w.grownBy W (some g)
 res:BoxTr W w.heap.size (.slice none 0 0) (.slice none 0 0) (.slice none 0 0) 0 (.slice none 0 0)
theorem zkN{w W W':World}{bs:List Nat}{b3:Nat}{X:TrX}(hr:RowsTr W (w.heap.size+1) X)(hb:BoxTr W b3 X.vm X.vy X.vo X.seq X.vs)(hl:Loose w b3 bs)(ht:Touch bs W W'):RdTr W' X :=
 (hr.touch ht (fun k hk e=>by
  have h1:=(hr.bound hk).1;have h2:=zn7 hb hr hk;have h3:=hl k e;omega)).rd
theorem TA.draw{w0 w W W1:World}{g b3:Nat}{X:TrX}(h:TA w0 w W g b3 X)(hg:W.grownBy W1 (some g))(hd:DCur w0 W1 g)(hgw:g<w.heap.size)(hb3:w.heap.size<b3):TA w0 w W1 g b3 X :=
 ⟨(hg.block b3 h.box.lt (fun e=>by simp at e;omega)).trans h.box,h.rows.touch (zer hg) (fun k hk e=>by have:=(h.rows.bound hk).1;have:=List.mem_singleton.1 e;omega),h.tree,h.few,h.ap,hd,zq h.gr hg,(hg.block w.heap.size h.res.lt (fun e=>by simp at e;omega)).trans h.res⟩
theorem TA.below{w0 w W W1:World}{g b3:Nat}{X:TrX}(h:TA w0 w W g b3 X)(hb:Below W.heap.size W W1):TA w0 w W1 g b3 X :=
 ⟨h.box.on hb,h.rows.below hb,h.tree,h.few,h.ap,h.dc.below hb,zbg h.gr hb,h.res.on hb⟩
theorem TA.z{w0 w W:World}{g b3:Nat}{X:TrX}(h:TA w0 w W g b3 X):TZ w0 w W g b3 X :=
 ⟨h.box,fun _ _ hl ht=>zkN h.rows h.box hl ht,za2 h.tree,zaB h.rows.young,zaB h.rows.old,by have:=h.few;omega,h.dc,h.gr,h.res⟩
theorem touch3{bs:List Nat}{b j:Nat}{W W':World}{u:Value}(ht:Touch bs (W.setCell ⟨b,j,none⟩ u) W'):Touch (b::bs) W W':=(Touch.set (by simp)).trans (ht.more (fun k hk=>List.mem_cons_of_mem _ hk))
theorem zhf{w:World}{b3:Nat}{bs:List Nat}(h:Loose w b3 bs):Loose w b3 (b3::bs):=fun k hk=>by
 rcases List.mem_cons.1 hk with rfl | hk
 ·exact .inr rfl
 ·exact h k hk
theorem TA.seq{w0 w W:World}{g b3:Nat}{X:TrX}(z:Int)(h:TA w0 w W g b3 X)(hgw:g<w.heap.size)(hb3:w.heap.size<b3) :
 TZ w0 w (W.setCell ⟨b3,3,none⟩ (.int .i64 z)) g b3 ⟨X.vm,X.vy,X.vo,X.vs,X.mem,X.ys,X.os,z,X.snaps⟩:=by
 have hf:=za2 h.tree;refine⟨zho h.box z,fun bs W' hl ht=>?_,⟨hf.mem,hf.young,hf.old⟩,zaB h.rows.young,zaB h.rows.old,by have:=h.few;show X.snaps.length≤7;omega,h.dc.set (by omega),zaX h.gr (by omega),zD h.res (by omega)⟩;have:=zkN h.rows h.box (zhf hl) (touch3 ht);exact⟨this.mem,this.young,this.old,this.snaps⟩
theorem TA.mem{w0 w W:World}{g b3:Nat}{X:TrX}{v:Value}{es:List Ent}(h:TA w0 w W g b3 X)(ho:OwnE W (w.heap.size+1) v es)(hs:∀ e∈es,Small e)(hgw:g<w.heap.size)(hb3:w.heap.size<b3) :
 TZ w0 w (W.setCell ⟨b3,0,none⟩ v) g b3 ⟨v,X.vy,X.vo,X.vs,es,X.ys,X.os,X.seq,X.snaps⟩:=by
 have hf:=za2 h.tree;refine⟨zck h.box v,fun bs W' hl ht=>?_,⟨fun e he=>(hs e he).fits,hf.young,hf.old⟩,zaB h.rows.young,zaB h.rows.old,by have:=h.few;show X.snaps.length≤7;omega,h.dc.set (by omega),zaX h.gr (by omega),zD h.res (by omega)⟩;have h1:=touch3 ht;have hl1:=zhf hl;have:=zkN h.rows h.box hl1 h1;refine⟨OwnE.rd (base:=w.heap.size+1) (h1.row ho (fun k hk e=>?_)),this.young,this.old,this.snaps⟩;have h2:=(oL ho k hk).1;have h3:=zao h.box ho (by decide) k hk;have h4:=hl1 k e;omega
theorem keepR{w W1 W2 W':World}{bs:List Nat}{b3 B t s n j:Nat}{v u:Value}{xs:List Value}{row:Option Nat}(ho:W1.ownsRow B t s v n xs)(hB:w.heap.size+1≤B)(hl:Loose w b3 bs)(hb:∀ k,v.ownBlock=some k→b3≠k)(hg:W1.grownBy W2 row)(hn:∀ k,v.ownBlock=some k→row≠some k)(ht:Touch bs (W2.setCell ⟨b3,j,none⟩ u) W'):W'.ownsRow B t s v n xs:=by
 have h2:=zl ho hg hn;have h3:=zi (j:=j) (u:=u) h2 (fun k hk=>hb k hk);refine ht.row h3 (fun k hk e=>?_);have h4:=(oL ho k hk).1;have h5:=hb k hk;have h6:=hl k e;omega
theorem TA.after{w0 w W1 W2:World}{g b3:Nat}{X:TrX}{row:Option Nat}(h:TA w0 w W1 g b3 X)(hg:W1.grownBy W2 row)(hr:∀ k,row=some k→w.heap.size+1≤k∧b3≠k)(hgw:g<w.heap.size)(_:w.heap.size<b3) :
 BoxTr W2 b3 X.vm X.vy X.vo X.seq X.vs∧DCur w0 W2 g∧w.grownBy W2 (some g)∧BoxTr W2 w.heap.size (.slice none 0 0) (.slice none 0 0) (.slice none 0 0) 0 (.slice none 0 0) :=
 ⟨(hg.block b3 h.box.lt (fun e=>(hr b3 e.symm).2 rfl)).trans h.box,h.dc.grow hg (fun k hk=>by have:=(hr k hk).1;omega),zaN h.gr hg (fun k hk=>by have:=(hr k hk).1;omega),(hg.block w.heap.size h.res.lt (fun e=>by have:=(hr _ e.symm).1;omega)).trans h.res⟩
theorem TA.snap{w0 w W1 W2:World}{g b3:Nat}{X:TrX}{v:Value}{x:Int}(h:TA w0 w W1 g b3 X)(hg:W1.grownBy W2 X.vs.ownBlock)(ho:OwnI W2 (w.heap.size+1) v (X.snaps++[x]))(hgw:g<w.heap.size)(hb3:w.heap.size<b3) :
 TZ w0 w (W2.setCell ⟨b3,4,none⟩ v) g b3 ⟨X.vm,X.vy,X.vo,v,X.mem,X.ys,X.os,X.seq,X.snaps++[x]⟩:=by
 have hf:=za2 h.tree;have hS:=h.rows.snaps;obtain⟨a1,a2,a3,a4⟩:=h.after hg (fun k hk=>⟨(oL hS k hk).1,zao h.box hS (by decide) k hk⟩) hgw hb3;refine⟨zcX a1 v,fun bs W' hl ht=>?_,⟨hf.mem,hf.young,hf.old⟩,zaB h.rows.young,zaB h.rows.old,by have:=h.few;show (X.snaps++[x]).length≤7;simp;omega,a2.set (by omega),zaX a3 (by omega),zD a4 (by omega)⟩;have kp:∀ {t s n:Nat} {v:Value} {xs:List Value},W1.ownsRow (w.heap.size+1) t s v n xs→t≠28→(∀ k,v.ownBlock=some k→X.vs.ownBlock≠some k)→W'.ownsRow (w.heap.size+1) t s v n xs:=fun hh htt hn=>keepR hh (nR _) hl (zao h.box hh htt) hg hn ht
 have kt:∀ ts:List TV,InT W1 (w.heap.size+1) ts→(∀ b,X.vs.ownBlock=some b→Off b ts)→InT W' (w.heap.size+1) ts:=fun ts hts ho t ht2 =>
  ⟨kp (hts t ht2).1 (by decide) (fun k hk e=>ho k e t ht2 k hk rfl),kp (hts t ht2).2 (by decide) (fun k hk e=>zh (hts t ht2).2 hS (by decide) k hk e)⟩
 refine⟨OwnE.rd (base:=w.heap.size+1) (kp h.rows.mem (by decide) (fun k hk e=>zh h.rows.mem hS (by decide) k hk e)),OwnT.rd (kp h.rows.young (by decide) (fun k hk e=>zh h.rows.young hS (by decide) k hk e)) (kt _ h.rows.youngs (fun b hb=>(h.ap.1 b hb).1)),OwnT.rd (kp h.rows.old (by decide) (fun k hk e=>zh h.rows.old hS (by decide) k hk e)) (kt _ h.rows.olds (fun b hb=>(h.ap.1 b hb).2)),?_⟩;exact OwnI.rd (base:=w.heap.size+1) (keepR (row:=none) ho (nR _) hl (zao a1 ho (by decide)) (zaY _ _) (fun k _ e=>by cases e) ht)
theorem zoW{W:World}{B B' k:Nat}{x:Option Addr}{v:Value}{us ts:List TV}(h:OwnT W B (.slice x 0 0) us)(hk:(Value.slice x 0 0).ownBlock=some k)(h2:OwnT W B' v ts)(e:v.ownBlock=some k):ts=[]:=by
 rcases h.2 with ⟨hv,_⟩ | ⟨g,cap,cur,hv,_,hg,_,_,hc,_⟩
 ·rw[hv] at hk;cases hk
 ·injection hv with h1 h3 h4
  subst h1;subst h4;obtain rfl:g=k:=Option.some.inj hk;rcases h2.2 with ⟨hv2,h0⟩ | ⟨g2,cap2,cur2,hv2,_,hg2,hl2,_,hc2,ht2⟩
  ·exact List.length_eq_zero_iff.1 h0
  ·rw[hv2] at e;obtain rfl:g2=g:=Option.some.inj e;rw[hg] at hg2;injection hg2 with e1
   injection e1 with e1 _ _
   rw[← e1] at hc2;exact List.length_eq_zero_iff.1 (by omega)
structure NewT (W:World) (B:Nat) (t:TV):Prop where
 bits:OwnI W B t.vb t.T.bits
 blocks:YS W B t.vk t.T.blocks
 small:∀ s∈t.T.blocks,s.size≤1000000
theorem NewT.below{W W1:World}{B:Nat}{t:TV}(h:NewT W B t)(hb:Below W.heap.size W W1):NewT W1 B t:=⟨h.bits.below hb,h.blocks.below hb,h.small⟩
theorem NewT.keep{w W1 W2 W':World}{bs:List Nat}{b3 B j:Nat}{t:TV}{u:Value}{row:Option Nat}(h:NewT W1 B t)(hB:w.heap.size+1≤B)(hl:Loose w b3 bs)(hb3:b3<B)(hg:W1.grownBy W2 row)(hr:∀ k,row=some k→k<B)(ht:Touch bs (W2.setCell ⟨b3,j,none⟩ u) W'):RdI W' t.vb t.T.bits∧RdS W' t.vk t.T.blocks:=by
 refine⟨OwnI.rd (base:=B) (keepR h.bits hB hl (fun k hk e=>by have:=(oL h.bits k hk).1;omega) hg (fun k hk e=>by have:=(oL h.bits k hk).1;have:=hr k e;omega) ht),?_⟩;refine(h.blocks.blocks (fun b hb1 hb2=>?_)).rd;have h1:=hg.block b hb2 (fun e=>by have:=hr b e.symm;omega);have h2:(W2.setCell ⟨b3,j,none⟩ u).heap[b]? = W2.heap[b]?:=heap_setCell_other W2 ⟨b3,j,none⟩ b u (by simp;omega);have h3:=ht.block b (by have:=hg.size;simp;omega) (fun e=>by have:=hl b e;omega);rw[h3,h2,h1]
theorem zjT{W:World}{a:Option Addr}{n cap:Nat}(h0:n=0)(hm:cap≤maxLen):RdTs W (.slice a n cap) []:=⟨a,cap,by rw[h0];rfl,Nat.zero_le _,hm,.inl rfl,(fun t ht=>by cases ht)⟩
theorem zhK{W:World}{B:Nat}{v:Value}{ts:List TV}(h:OwnT W B v ts):∃ a cap,v=.slice a ts.length cap∧cap≤maxLen:=by
 rcases h.2 with ⟨hv,h0⟩ | ⟨g,cap,cur,hv,_,_,_,hm,_⟩
 ·exact⟨none,0,by rw[hv,h0],Nat.zero_le _⟩
 ·exact⟨_,cap,hv,hm⟩
theorem OwnT.rdAny{w:World}{B:Nat}{v:Value}{ts:List TV}(h:OwnT w B v ts)(hin:∀ t∈ts,RdI w t.vb t.T.bits∧RdS w t.vk t.T.blocks):RdTs w v ts:=by
 have h':=h;rcases h.2 with ⟨rfl,h0⟩ | ⟨g,cap,cur,rfl,hb,hg,hn,hc,hs,ht⟩
 ·have:ts=[]:=List.length_eq_zero_iff.1 h0;subst this;exact⟨none,0,rfl,nR _,Nat.zero_le _,.inl rfl,hin⟩
 ·refine⟨_,cap,rfl,hn,hc,.inr ⟨g,0,rfl,fun i hi=>?_⟩,hin⟩;have c:∀ j,j<4→w.cell? ⟨g,i*4+j,none⟩=(TC (nthT ts i))[j]?:=fun j hj=>(World.ownsRow.cellAt h' (i*4+j) (by omega)).trans (zgm ts i hi j hj)
  rw[Nat.zero_add];exact⟨c 0 (by omega),c 1 (by omega),c 2 (by omega),c 3 (by omega)⟩
theorem zja{W:World}{B:Nat}{v:Value}{ts:List TV}{t:TV}(h:OwnT W B v (ts++[t]))(hi:∀ s∈ts,RdI W s.vb s.T.bits∧RdS W s.vk s.T.blocks)(ht:RdI W t.vb t.T.bits∧RdS W t.vk t.T.blocks):RdTs W v (ts++[t]) :=
 OwnT.rdAny h (fun s hs=>by
  rcases List.mem_append.1 hs with hs | hs
  ·exact hi s hs
  ·rw[List.mem_singleton.1 hs];exact ht)
theorem TA.young{w0 w W1 W2:World}{g b3 B:Nat}{X:TrX}{v:Value}{t:TV}(h:TA w0 w W1 g b3 X)(hg:W1.grownBy W2 X.vy.ownBlock)(ho:OwnT W2 (w.heap.size+1) v (X.ys++[t]))(hn:NewT W1 B t)(hB:w.heap.size+1≤B)(hyB:∀ k,X.vy.ownBlock=some k→k<B)(hbB:b3<B)(hgw:g<w.heap.size)(hb3:w.heap.size<b3) :
 TZ w0 w (W2.setCell ⟨b3,1,none⟩ v) g b3 ⟨X.vm,v,X.vo,X.vs,X.mem,X.ys++[t],X.os,X.seq,X.snaps⟩:=by
 have hf:=za2 h.tree;have hY:=h.rows.young;obtain⟨a1,a2,a3,a4⟩:=h.after hg (fun k hk=>⟨(oL hY k hk).1,zao h.box hY (by decide) k hk⟩) hgw hb3;refine⟨zbF a1 v,fun bs W' hl ht=>?_,⟨hf.mem,fun s hs=>?_,hf.old⟩,zaB ho,zaB h.rows.old,by have:=h.few;show X.snaps.length≤7;omega,a2.set (by omega),zaX a3 (by omega),zD a4 (by omega)⟩
 ·have kp:∀ {t s n:Nat} {v:Value} {xs:List Value},W1.ownsRow (w.heap.size+1) t s v n xs→t≠28→(∀ k,v.ownBlock=some k→X.vy.ownBlock≠some k)→W'.ownsRow (w.heap.size+1) t s v n xs:=fun hh htt hn=>keepR hh (nR _) hl (zao h.box hh htt) hg hn ht
  have kt:∀ ts:List TV,InT W1 (w.heap.size+1) ts→InT W' (w.heap.size+1) ts:=fun ts hts t ht2 =>
   ⟨kp (hts t ht2).1 (by decide) (fun k hk e=>zh (hts t ht2).1 hY (by decide) k hk e),kp (hts t ht2).2 (by decide) (fun k hk e=>zh (hts t ht2).2 hY (by decide) k hk e)⟩
  have oy:=kt _ h.rows.youngs;refine⟨OwnE.rd (base:=w.heap.size+1) (kp h.rows.mem (by decide) (fun k hk e=>zh h.rows.mem hY (by decide) k hk e)),?_,?_,OwnI.rd (base:=w.heap.size+1) (kp h.rows.snaps (by decide) (fun k hk e=>zh h.rows.snaps hY (by decide) k hk e))⟩
  ·exact zja (keepR (row:=none) ho (nR _) hl (zao a1 ho (by decide)) (zaY _ _) (fun k _ e=>by cases e) ht:OwnT W' (w.heap.size+1) v (X.ys++[t])) (fun s hs=>⟨(oy s hs).1.rd,(oy s hs).2.rd⟩) (hn.keep hB hl hbB hg hyB ht)
  ·by_cases hsame:∃ k,X.vy.ownBlock=some k∧X.vo.ownBlock=some k
   ·obtain⟨k,k1,k2⟩:=hsame;rcases h.ap.2 with h2 | ⟨x,h2⟩
    ·exact absurd k2 (h2 k k1)
    ·have hy0:=hY;rw[h2] at hy0 k1;have hnil:=zoW hy0 k1 h.rows.old k2;obtain⟨a,cap,e,hm⟩:=zhK h.rows.old;rw[hnil] at e;show RdTs W' X.vo X.os;rw[hnil,e];exact zjT rfl hm
   ·exact OwnT.rd (kp h.rows.old (by decide) (fun k hk e=>hsame ⟨k,e,hk⟩)) (kt _ h.rows.olds)
 ·intro b hb;rcases List.mem_append.1 hs with hs | hs
  ·exact hf.young s hs b hb
  ·rw[List.mem_singleton.1 hs] at hb;have:=hn.small b hb;omega
theorem TA.old{w0 w W1 W2:World}{g b3 B:Nat}{X:TrX}{v:Value}{t:TV}(h:TA w0 w W1 g b3 X)(hg:W1.grownBy W2 X.vo.ownBlock)(ho:OwnT W2 (w.heap.size+1) v (X.os++[t]))(hn:NewT W1 B t)(hB:w.heap.size+1≤B)(hyB:∀ k,X.vo.ownBlock=some k→k<B)(hbB:b3<B)(hgw:g<w.heap.size)(hb3:w.heap.size<b3) :
 TZ w0 w (W2.setCell ⟨b3,2,none⟩ v) g b3 ⟨X.vm,X.vy,v,X.vs,X.mem,X.ys,X.os++[t],X.seq,X.snaps⟩:=by
 have hf:=za2 h.tree;have hO:=h.rows.old;obtain⟨a1,a2,a3,a4⟩:=h.after hg (fun k hk=>⟨(oL hO k hk).1,zao h.box hO (by decide) k hk⟩) hgw hb3;refine⟨zbI a1 v,fun bs W' hl ht=>?_,⟨hf.mem,hf.young,fun s hs=>?_⟩,zaB h.rows.young,zaB ho,by have:=h.few;show X.snaps.length≤7;omega,a2.set (by omega),zaX a3 (by omega),zD a4 (by omega)⟩
 ·have kp:∀ {t s n:Nat} {v:Value} {xs:List Value},W1.ownsRow (w.heap.size+1) t s v n xs→t≠28→(∀ k,v.ownBlock=some k→X.vo.ownBlock≠some k)→W'.ownsRow (w.heap.size+1) t s v n xs:=fun hh htt hn=>keepR hh (nR _) hl (zao h.box hh htt) hg hn ht
  have kt:∀ ts:List TV,InT W1 (w.heap.size+1) ts→InT W' (w.heap.size+1) ts:=fun ts hts t ht2 =>
   ⟨kp (hts t ht2).1 (by decide) (fun k hk e=>zh (hts t ht2).1 hO (by decide) k hk e),kp (hts t ht2).2 (by decide) (fun k hk e=>zh (hts t ht2).2 hO (by decide) k hk e)⟩
  have oo:=kt _ h.rows.olds;refine⟨OwnE.rd (base:=w.heap.size+1) (kp h.rows.mem (by decide) (fun k hk e=>zh h.rows.mem hO (by decide) k hk e)),?_,?_,OwnI.rd (base:=w.heap.size+1) (kp h.rows.snaps (by decide) (fun k hk e=>zh h.rows.snaps hO (by decide) k hk e))⟩
  ·by_cases hsame:∃ k,X.vy.ownBlock=some k∧X.vo.ownBlock=some k
   ·obtain⟨k,k1,k2⟩:=hsame;rcases h.ap.2 with h2 | ⟨x,h2⟩
    ·exact absurd k2 (h2 k k1)
    ·obtain⟨a,cap,e,hm⟩:=zhK h.rows.young;have hnil:X.ys=[]:=by
      rw[h2] at e;injection e with _ e2 _
      exact List.length_eq_zero_iff.1 e2.symm
     rw[hnil] at e;show RdTs W' X.vy X.ys;rw[hnil,e];exact zjT rfl hm
   ·exact OwnT.rd (kp h.rows.young (by decide) (fun k hk e=>hsame ⟨k,hk,e⟩)) (kt _ h.rows.youngs)
  ·exact zja (keepR (row:=none) ho (nR _) hl (zao a1 ho (by decide)) (zaY _ _) (fun k _ e=>by cases e) ht:OwnT W' (w.heap.size+1) v (X.os++[t])) (fun s hs=>⟨(oo s hs).1.rd,(oo s hs).2.rd⟩) (hn.keep hB hl hbB hg hyB ht)
 ·intro b hb;rcases List.mem_append.1 hs with hs | hs
  ·exact hf.old s hs b hb
  ·rw[List.mem_singleton.1 hs] at hb;have:=hn.small b hb;omega
end Go.Proofs.YtjlnchhgkfnldaaGreat
