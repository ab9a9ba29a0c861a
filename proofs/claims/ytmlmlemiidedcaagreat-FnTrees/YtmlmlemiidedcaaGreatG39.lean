import Derived.Test.YtmlmlemiidedcaaGreatG38
namespace Go.Proofs.YtmlmlemiidedcaaGreat
set_option maxHeartbeats 16000000
set_option maxRecDepth 100000
open Go.RowKit
theorem packEP_len {last:ByteArray} {e:Ent} (h:PkE e):(packE last e).length≤2036:=by
 have hs:=stpP_le h
 obtain ⟨p1,p2,p3,p4⟩:=h
 have hc:=com_le last e.key
 have h1:=enc_len9 (com last e.key) (by omega)
 have h2:=enc_len9 (e.key.size - com last e.key) (by omega)
 have h3:=enc_len9 (stp e) (by omega)
 have h4:=enc_len9 e.val.size (by omega)
 unfold packE
 simp only [List.length_append,List.length_drop,size_length]
 omega
theorem packFP_len:∀ (es:List Ent) (i:Nat) (last:ByteArray),(∀ e∈es,PkE e)→(packF i last es).length≤2036*es.length
 | [],_,_,_=>by simp [packF]
 | e::r,i,last,h=>by
  have h1:=packEP_len (last:=ahead i last) (h e List.mem_cons_self)
  have h2:=packFP_len r (i+1) e.key (fun x hx=>h x (List.mem_cons_of_mem _ hx))
  rw [packF,List.length_append,List.length_cons]
  omega
theorem packAP_len {es:List Ent} (h:∀ e∈es,PkE e) (hn:es.length≤8):(packA es).length≤20000:=by
 have h1:=packFP_len es 0 ⟨#[]⟩ h
 have h3:=enc_len9 es.length (by omega)
 unfold packA
 rw [List.length_append]
 omega
theorem blkF_size {es:List Ent} (h:∀ e∈es,PkE e):∀ (n i:Nat),∀ s∈blkF es n i,s.size≤20000
 | 0,_,s,hs=>by simp [blkF] at hs
 | n+1,i,s,hs=>by
  rw [blkF,List.mem_cons] at hs
  rcases hs with rfl | hs
  ·have:=packAP_len (es:=chunk es i) (fun e he=>h e (List.mem_of_mem_drop (List.mem_of_mem_take he))) (by unfold chunk;rw [List.length_take];omega)
   simpa [ByteArray.size] using this
  ·exact blkF_size h n (i+8) s hs
theorem blksL_size {es:List Ent} (h:∀ e∈es,PkE e):∀ s∈blksL es,s.size≤20000:=blkF_size h _ _
theorem blksL_pos {es:List Ent} (h:0 < es.length):0 < (blksL es).length:=by unfold blksL;rw [blkF_len];omega
theorem bitsL_pos {es:List Ent} (h:0 < es.length):0 < (bitsL es).length:=by
 have hm:mk1 es[0].key∈bitsL es:=(bitsL_mem es _).2 ⟨es[0],List.getElem_mem h,(marksL_mem _ _).2 (.inr rfl)⟩
 exact List.length_pos_of_mem hm
def YS (w:World) (B:Nat) (v:Value) (ss:List ByteArray):Prop :=
 ∃ a cap,v=.slice a ss.length cap∧ss.length≤cap∧cap≤maxLen ∧
  (ss=[]∨∃ b off,B≤b∧a=some ⟨b,off,none⟩∧∀ i (h:i < ss.length),w.cell? ⟨b,off+i,none⟩=some (.string ss[i]))
theorem YS.rd {w:World} {B:Nat} {v:Value} {ss:List ByteArray} (h:YS w B v ss):RdS w v ss:=by
 obtain ⟨a,cap,hv,h1,h2,h3⟩:=h
 refine ⟨a,cap,hv,h1,h2,?_⟩
 rcases h3 with h3 | ⟨b,off,_,ha,hc⟩
 ·exact .inl h3
 ·exact .inr ⟨b,off,ha,hc⟩
theorem OwnS.young {w:World} {B:Nat} {v:Value} {ss:List ByteArray} (h:OwnS w B v ss):YS w B v ss:=by
 have h':=h
 rcases h.2 with ⟨rfl,h0⟩ | ⟨g,cap,cur,rfl,hb,hg,hn,hc,hs,ht⟩
 ·have:ss=[]:=List.length_eq_zero_iff.1 h0
  subst this
  exact ⟨none,0,rfl,Nat.le_refl _,Nat.zero_le _,.inl rfl⟩
 ·refine ⟨some ⟨g,0,none⟩,cap,rfl,hn,hc,.inr ⟨g,0,hb,rfl,fun i hi=>?_⟩⟩
  have:=h'.cellAt i (by omega)
  rw [SV_get ss i hi] at this
  simpa using this
theorem YS.blocks {w w':World} {B:Nat} {v:Value} {ss:List ByteArray} (h:YS w B v ss) (hb:∀ b,B≤b→b < w.heap.size→w'.heap[b]? = w.heap[b]?):YS w' B v ss:=by
 obtain ⟨a,cap,hv,h1,h2,h3⟩:=h
 refine ⟨a,cap,hv,h1,h2,?_⟩
 rcases h3 with h3 | ⟨b,off,hB,ha,hc⟩
 ·exact .inl h3
 ·exact .inr ⟨b,off,hB,ha,fun i hi=>(World.cell?_of_block (a:=⟨b,off+i,none⟩) (hb b hB (World.block_lt_of_cell? w _ (hc i hi)))).trans (hc i hi)⟩
theorem YS.g {w w':World} {B g:Nat} {v:Value} {ss:List ByteArray} (h:YS w B v ss) (hg:w.grownBy w' (some g)) (hB:g < B):YS w' B v ss :=
 h.blocks (fun b hb hl=>hg.block b hl (by simp;omega))
theorem YS.below {w w':World} {B:Nat} {v:Value} {ss:List ByteArray} (h:YS w B v ss) (hb:Below w.heap.size w w'):YS w' B v ss :=
 h.blocks (fun b _ hl=>hb.block b hl)
theorem YS.mono {w:World} {B B':Nat} {v:Value} {ss:List ByteArray} (h:YS w B v ss) (hB:B'≤B):YS w B' v ss:=by
 obtain ⟨a,cap,hv,h1,h2,h3⟩:=h
 refine ⟨a,cap,hv,h1,h2,?_⟩
 rcases h3 with h3 | ⟨b,off,hb,r⟩
 ·exact .inl h3
 ·exact .inr ⟨b,off,Nat.le_trans hB hb,r⟩
theorem YS.tail {w:World} {B b off cap:Nat} {ss:List ByteArray} (h:YS w B (.slice (some ⟨b,off,none⟩) ss.length cap) ss) (h0:0 < ss.length) (hc:1 < cap):YS w B (.slice (some ⟨b,off+1,none⟩) (ss.length - 1) (cap - 1)) (ss.drop 1):=by
 obtain ⟨a',cap',hv,h1,h2,h3⟩:=h
 simp only [Value.slice.injEq] at hv
 obtain ⟨rfl,_,rfl⟩:=hv
 rcases h3 with rfl | ⟨b',off',hB,ha,hcell⟩
 ·simp at h0
 ·simp only [Option.some.injEq,Addr.mk.injEq] at ha
  obtain ⟨rfl,rfl,_⟩:=ha
  refine ⟨_,_,by rw [List.length_drop],by rw [List.length_drop];omega,by omega,.inr ⟨b,off+1,hB,rfl,fun i hi=>?_⟩⟩
  rw [List.length_drop] at hi
  have:=hcell (i+1) (by omega)
  rw [show off+1+i=off+(i+1) by omega,this]
  simp
theorem ownI_g {w w':World} {B g:Nat} {v:Value} {ns:List Int} (h:OwnI w B v ns) (hg:w.grownBy w' (some g)) (hB:g < B):OwnI w' B v ns :=
 row_kept h hg (fun k hk e=>by have:=(World.ownsRow.lt h k hk).1;simp at e;omega)
theorem ownS_g {w w':World} {B g:Nat} {v:Value} {ss:List ByteArray} (h:OwnS w B v ss) (hg:w.grownBy w' (some g)) (hB:g < B):OwnS w' B v ss :=
 row_kept h hg (fun k hk e=>by have:=(World.ownsRow.lt h k hk).1;simp at e;omega)
def TabD (w0 w:World) (g:Nat) (e:Ending) (w':World):Prop :=
 ∃ (T:Tbl) (vb vk:Value),e=.returned (.agg #[.string T.first,.string T.last,vb,vk])∧OwnI w' w.heap.size vb T.bits∧YS w' w.heap.size vk T.blocks∧(∀ s∈T.blocks,s.size≤1000000)∧DCur w0 w' g∧w.grownBy w' (some g)
theorem YS.set {w:World} {B c j:Nat} {v u:Value} {ss:List ByteArray} (h:YS w B v ss) (hc:c < B):YS (w.setCell ⟨c,j,none⟩ u) B v ss :=
 h.blocks (fun b hb _=>heap_setCell_other w ⟨c,j,none⟩ b u (by intro e;simp at e;omega))
theorem boxT_set0 {w:World} {b:Nat} {f f' l:ByteArray} {vb vk:Value} (h:BoxT w b f l vb vk):BoxT (w.setCell ⟨b,0,none⟩ (.string f')) b f' l vb vk:=by
 unfold BoxT
 rw [heap_setCell_same w b 0 _ _ _ h]
 rfl
theorem YS.tail2 {w:World} {B b cap:Nat} {ss:List ByteArray} (h:YS w B (.slice (some ⟨b,0,none⟩) ss.length cap) ss) (h0:0 < ss.length) (hc:1 < cap):YS w B (.slice (some ⟨b,1,none⟩) (ss.drop 1).length (cap - 1)) (ss.drop 1):=by
 have:=h.tail h0 hc
 rwa [List.length_drop]
theorem ownS_stored {w:World} {B g cap:Nat} {ss:List ByteArray} (h:OwnS w B (.slice (some ⟨g,0,none⟩) ss.length cap) ss) (j:Nat) (s:ByteArray):OwnS (w.setCell ⟨g,j,none⟩ (.string s)) B (.slice (some ⟨g,0,none⟩) (ss.set j s).length cap) (ss.set j s):=by
 have h2:=(World.ownsRow.stored h j (.string s)).1
 rw [← SV_set] at h2
 unfold OwnS
 rw [List.length_set]
 exact h2
theorem set_sizes {ss:List ByteArray} {j:Nat} {s:ByteArray} {n:Nat} (h:∀ x∈ss,x.size≤n) (hs:s.size≤n):∀ x∈ss.set j s,x.size≤n:=fun x hx=>by
 rcases List.mem_or_eq_of_mem_set hx with h1 | rfl
 ·exact h x h1
 ·exact hs
theorem Small.pk {x:Ent} (h:Small x):PkE x:=h
open Go.RowKit
structure TA (w0 w W:World) (g b3:Nat) (X:TrX):Prop where
 box:BoxTr W b3 X.vm X.vy X.vo X.seq X.vs
 rows:RowsTr W (w.heap.size+1) X
 tree:TreeP X.tre
 few:X.snaps.length≤6
 ap:PairTr X
 dc:DCur w0 W g
 gr:w.grownBy W (some g)
 res:BoxTr W w.heap.size (.slice none 0 0) (.slice none 0 0) (.slice none 0 0) 0 (.slice none 0 0)
def Loose (w:World) (b3:Nat) (bs:List Nat):Prop:=∀ k∈bs,k≤w.heap.size∨k=b3
structure TZ (w0 w W:World) (g b3:Nat) (X:TrX):Prop where
 box:BoxTr W b3 X.vm X.vy X.vo X.seq X.vs
 st:∀ bs W',Loose w b3 bs→Touch bs W W'→RdTr W' X
 fit:FitTr X
 ny:NilOk X.vy
 no:NilOk X.vo
 few:X.snaps.length≤7
 dc:DCur w0 W g
 gr:w.grownBy W (some g)
 res:BoxTr W w.heap.size (.slice none 0 0) (.slice none 0 0) (.slice none 0 0) 0 (.slice none 0 0)
theorem rows_st {w W W':World} {bs:List Nat} {b3:Nat} {X:TrX} (hr:RowsTr W (w.heap.size+1) X) (hb:BoxTr W b3 X.vm X.vy X.vo X.seq X.vs) (hl:Loose w b3 bs) (ht:Touch bs W W'):RdTr W' X :=
 (hr.touch ht (fun k hk e=>by
  have h1:=(hr.bound hk).1
  have h2:=tre_ne hb hr hk
  have h3:=hl k e
  omega)).rd
theorem TA.draw {w0 w W W1:World} {g b3:Nat} {X:TrX} (h:TA w0 w W g b3 X) (hg:W.grownBy W1 (some g)) (hd:DCur w0 W1 g) (hgw:g < w.heap.size) (hb3:w.heap.size < b3):TA w0 w W1 g b3 X :=
 ⟨(hg.block b3 h.box.lt (fun e=>by simp at e;omega)).trans h.box,h.rows.touch (grown_touch hg) (fun k hk e=>by have:=(h.rows.bound hk).1;have:=List.mem_singleton.1 e;omega),h.tree,h.few,h.ap,hd,gr_trans h.gr hg,(hg.block w.heap.size h.res.lt (fun e=>by simp at e;omega)).trans h.res⟩
theorem TA.below {w0 w W W1:World} {g b3:Nat} {X:TrX} (h:TA w0 w W g b3 X) (hb:Below W.heap.size W W1):TA w0 w W1 g b3 X :=
 ⟨h.box.on hb,h.rows.below hb,h.tree,h.few,h.ap,h.dc.below hb,gr_below h.gr hb,h.res.on hb⟩
theorem TA.z {w0 w W:World} {g b3:Nat} {X:TrX} (h:TA w0 w W g b3 X):TZ w0 w W g b3 X :=
 ⟨h.box,fun _ _ hl ht=>rows_st h.rows h.box hl ht,treeP_fit h.tree,own_nil h.rows.young,own_nil h.rows.old,by have:=h.few;omega,h.dc,h.gr,h.res⟩
theorem touch3 {bs:List Nat} {b j:Nat} {W W':World} {u:Value} (ht:Touch bs (W.setCell ⟨b,j,none⟩ u) W'):Touch (b::bs) W W':=(Touch.set (by simp)).trans (ht.more (fun k hk=>List.mem_cons_of_mem _ hk))
theorem loose_cons {w:World} {b3:Nat} {bs:List Nat} (h:Loose w b3 bs):Loose w b3 (b3::bs):=fun k hk=>by
 rcases List.mem_cons.1 hk with rfl | hk
 ·exact .inr rfl
 ·exact h k hk
theorem TA.seq {w0 w W:World} {g b3:Nat} {X:TrX} (z:Int) (h:TA w0 w W g b3 X) (hgw:g < w.heap.size) (hb3:w.heap.size < b3) :
 TZ w0 w (W.setCell ⟨b3,3,none⟩ (.int .i64 z)) g b3 ⟨X.vm,X.vy,X.vo,X.vs,X.mem,X.ys,X.os,z,X.snaps⟩:=by
 have hf:=treeP_fit h.tree
 refine ⟨boxTr_set3 h.box z,fun bs W' hl ht=>?_,⟨hf.mem,hf.young,hf.old⟩,own_nil h.rows.young,own_nil h.rows.old,by have:=h.few;show X.snaps.length≤7;omega,h.dc.set (by omega),gr_set h.gr (by omega),boxTr_other h.res (by omega)⟩
 have:=rows_st h.rows h.box (loose_cons hl) (touch3 ht)
 exact ⟨this.mem,this.young,this.old,this.snaps⟩
theorem TA.mem {w0 w W:World} {g b3:Nat} {X:TrX} {v:Value} {es:List Ent} (h:TA w0 w W g b3 X) (ho:OwnE W (w.heap.size+1) v es) (hs:∀ e∈es,Small e) (hgw:g < w.heap.size) (hb3:w.heap.size < b3) :
 TZ w0 w (W.setCell ⟨b3,0,none⟩ v) g b3 ⟨v,X.vy,X.vo,X.vs,es,X.ys,X.os,X.seq,X.snaps⟩:=by
 have hf:=treeP_fit h.tree
 refine ⟨boxTr_set0 h.box v,fun bs W' hl ht=>?_,⟨fun e he=>(hs e he).fits,hf.young,hf.old⟩,own_nil h.rows.young,own_nil h.rows.old,by have:=h.few;show X.snaps.length≤7;omega,h.dc.set (by omega),gr_set h.gr (by omega),boxTr_other h.res (by omega)⟩
 have h1:=touch3 ht
 have hl1:=loose_cons hl
 have:=rows_st h.rows h.box hl1 h1
 refine ⟨OwnE.rd (base:=w.heap.size+1) (h1.row ho (fun k hk e=>?_)),this.young,this.old,this.snaps⟩
 have h2:=(World.ownsRow.lt ho k hk).1
 have h3:=box_rowne h.box ho (by decide) k hk
 have h4:=hl1 k e
 omega
theorem keepR {w W1 W2 W':World} {bs:List Nat} {b3 B t s n j:Nat} {v u:Value} {xs:List Value} {row:Option Nat} (ho:W1.ownsRow B t s v n xs) (hB:w.heap.size+1≤B) (hl:Loose w b3 bs) (hb:∀ k,v.ownBlock=some k→b3≠k) (hg:W1.grownBy W2 row) (hn:∀ k,v.ownBlock=some k→row≠some k) (ht:Touch bs (W2.setCell ⟨b3,j,none⟩ u) W'):W'.ownsRow B t s v n xs:=by
 have h2:=row_kept ho hg hn
 have h3:=row_set (j:=j) (u:=u) h2 (fun k hk=>hb k hk)
 refine ht.row h3 (fun k hk e=>?_)
 have h4:=(World.ownsRow.lt ho k hk).1
 have h5:=hb k hk
 have h6:=hl k e
 omega
theorem TA.after {w0 w W1 W2:World} {g b3:Nat} {X:TrX} {row:Option Nat} (h:TA w0 w W1 g b3 X) (hg:W1.grownBy W2 row) (hr:∀ k,row=some k→w.heap.size+1≤k∧b3≠k) (hgw:g < w.heap.size) (_:w.heap.size < b3) :
 BoxTr W2 b3 X.vm X.vy X.vo X.seq X.vs∧DCur w0 W2 g∧w.grownBy W2 (some g)∧BoxTr W2 w.heap.size (.slice none 0 0) (.slice none 0 0) (.slice none 0 0) 0 (.slice none 0 0) :=
 ⟨(hg.block b3 h.box.lt (fun e=>(hr b3 e.symm).2 rfl)).trans h.box,h.dc.grow hg (fun k hk=>by have:=(hr k hk).1;omega),gr_young h.gr hg (fun k hk=>by have:=(hr k hk).1;omega),(hg.block w.heap.size h.res.lt (fun e=>by have:=(hr _ e.symm).1;omega)).trans h.res⟩
theorem TA.snap {w0 w W1 W2:World} {g b3:Nat} {X:TrX} {v:Value} {x:Int} (h:TA w0 w W1 g b3 X) (hg:W1.grownBy W2 X.vs.ownBlock) (ho:OwnI W2 (w.heap.size+1) v (X.snaps++[x])) (hgw:g < w.heap.size) (hb3:w.heap.size < b3) :
 TZ w0 w (W2.setCell ⟨b3,4,none⟩ v) g b3 ⟨X.vm,X.vy,X.vo,v,X.mem,X.ys,X.os,X.seq,X.snaps++[x]⟩:=by
 have hf:=treeP_fit h.tree
 have hS:=h.rows.snaps
 obtain ⟨a1,a2,a3,a4⟩:=h.after hg (fun k hk=>⟨(World.ownsRow.lt hS k hk).1,box_rowne h.box hS (by decide) k hk⟩) hgw hb3
 refine ⟨boxTr_set4 a1 v,fun bs W' hl ht=>?_,⟨hf.mem,hf.young,hf.old⟩,own_nil h.rows.young,own_nil h.rows.old,by have:=h.few;show (X.snaps++[x]).length≤7;simp;omega,a2.set (by omega),gr_set a3 (by omega),boxTr_other a4 (by omega)⟩
 have kp:∀ {t s n:Nat} {v:Value} {xs:List Value},W1.ownsRow (w.heap.size+1) t s v n xs→t≠28→(∀ k,v.ownBlock=some k→X.vs.ownBlock≠some k)→W'.ownsRow (w.heap.size+1) t s v n xs:=fun hh htt hn=>keepR hh (Nat.le_refl _) hl (box_rowne h.box hh htt) hg hn ht
 have kt:∀ ts:List TV,InT W1 (w.heap.size+1) ts→(∀ b,X.vs.ownBlock=some b→Off b ts)→InT W' (w.heap.size+1) ts:=fun ts hts ho t ht2 =>
  ⟨kp (hts t ht2).1 (by decide) (fun k hk e=>ho k e t ht2 k hk rfl),kp (hts t ht2).2 (by decide) (fun k hk e=>rows_apart (hts t ht2).2 hS (by decide) k hk e)⟩
 refine ⟨OwnE.rd (base:=w.heap.size+1) (kp h.rows.mem (by decide) (fun k hk e=>rows_apart h.rows.mem hS (by decide) k hk e)),OwnT.rd (kp h.rows.young (by decide) (fun k hk e=>rows_apart h.rows.young hS (by decide) k hk e)) (kt _ h.rows.youngs (fun b hb=>(h.ap.1 b hb).1)),OwnT.rd (kp h.rows.old (by decide) (fun k hk e=>rows_apart h.rows.old hS (by decide) k hk e)) (kt _ h.rows.olds (fun b hb=>(h.ap.1 b hb).2)),?_⟩
 exact OwnI.rd (base:=w.heap.size+1) (keepR (row:=none) ho (Nat.le_refl _) hl (box_rowne a1 ho (by decide)) (gr_refl _ _) (fun k _ e=>by cases e) ht)
theorem own_none0 {W:World} {B B' k:Nat} {x:Option Addr} {v:Value} {us ts:List TV} (h:OwnT W B (.slice x 0 0) us) (hk:(Value.slice x 0 0).ownBlock=some k) (h2:OwnT W B' v ts) (e:v.ownBlock=some k):ts=[]:=by
 rcases h.2 with ⟨hv,_⟩ | ⟨g,cap,cur,hv,_,hg,_,_,hc,_⟩
 ·rw [hv] at hk;cases hk
 ·injection hv with h1 h3 h4
  subst h1
  subst h4
  obtain rfl:g=k:=Option.some.inj hk
  rcases h2.2 with ⟨hv2,h0⟩ | ⟨g2,cap2,cur2,hv2,_,hg2,hl2,_,hc2,ht2⟩
  ·exact List.length_eq_zero_iff.1 h0
  ·rw [hv2] at e
   obtain rfl:g2=g:=Option.some.inj e
   rw [hg] at hg2
   injection hg2 with e1
   injection e1 with e1 _ _
   rw [← e1] at hc2
   exact List.length_eq_zero_iff.1 (by omega)
structure NewT (W:World) (B:Nat) (t:TV):Prop where
 bits:OwnI W B t.vb t.T.bits
 blocks:YS W B t.vk t.T.blocks
 small:∀ s∈t.T.blocks,s.size≤1000000
theorem NewT.below {W W1:World} {B:Nat} {t:TV} (h:NewT W B t) (hb:Below W.heap.size W W1):NewT W1 B t:=⟨h.bits.below hb,h.blocks.below hb,h.small⟩
theorem NewT.keep {w W1 W2 W':World} {bs:List Nat} {b3 B j:Nat} {t:TV} {u:Value} {row:Option Nat} (h:NewT W1 B t) (hB:w.heap.size+1≤B) (hl:Loose w b3 bs) (hb3:b3 < B) (hg:W1.grownBy W2 row) (hr:∀ k,row=some k→k < B) (ht:Touch bs (W2.setCell ⟨b3,j,none⟩ u) W'):RdI W' t.vb t.T.bits∧RdS W' t.vk t.T.blocks:=by
 refine ⟨OwnI.rd (base:=B) (keepR h.bits hB hl (fun k hk e=>by have:=(World.ownsRow.lt h.bits k hk).1;omega) hg (fun k hk e=>by have:=(World.ownsRow.lt h.bits k hk).1;have:=hr k e;omega) ht),?_⟩
 refine (h.blocks.blocks (fun b hb1 hb2=>?_)).rd
 have h1:=hg.block b hb2 (fun e=>by have:=hr b e.symm;omega)
 have h2:(W2.setCell ⟨b3,j,none⟩ u).heap[b]? = W2.heap[b]?:=heap_setCell_other W2 ⟨b3,j,none⟩ b u (by simp;omega)
 have h3:=ht.block b (by have:=hg.size;simp;omega) (fun e=>by have:=hl b e;omega)
 rw [h3,h2,h1]
theorem rdTs_nilT {W:World} {a:Option Addr} {n cap:Nat} (h0:n=0) (hm:cap≤maxLen):RdTs W (.slice a n cap) []:=⟨a,cap,by rw [h0];rfl,Nat.zero_le _,hm,.inl rfl,(fun t ht=>by cases ht)⟩
theorem ownT_shape {W:World} {B:Nat} {v:Value} {ts:List TV} (h:OwnT W B v ts):∃ a cap,v=.slice a ts.length cap∧cap≤maxLen:=by
 rcases h.2 with ⟨hv,h0⟩ | ⟨g,cap,cur,hv,_,_,_,hm,_⟩
 ·exact ⟨none,0,by rw [hv,h0],Nat.zero_le _⟩
 ·exact ⟨_,cap,hv,hm⟩
theorem OwnT.rdAny {w:World} {B:Nat} {v:Value} {ts:List TV} (h:OwnT w B v ts) (hin:∀ t∈ts,RdI w t.vb t.T.bits∧RdS w t.vk t.T.blocks):RdTs w v ts:=by
 have h':=h
 rcases h.2 with ⟨rfl,h0⟩ | ⟨g,cap,cur,rfl,hb,hg,hn,hc,hs,ht⟩
 ·have:ts=[]:=List.length_eq_zero_iff.1 h0
  subst this
  exact ⟨none,0,rfl,Nat.le_refl _,Nat.zero_le _,.inl rfl,hin⟩
 ·refine ⟨_,cap,rfl,hn,hc,.inr ⟨g,0,rfl,fun i hi=>?_⟩,hin⟩
  have c:∀ j,j < 4→w.cell? ⟨g,i*4+j,none⟩=(TC (nthT ts i))[j]?:=fun j hj=>(World.ownsRow.cellAt h' (i*4+j) (by omega)).trans (TVs_get ts i hi j hj)
  rw [Nat.zero_add]
  exact ⟨c 0 (by omega),c 1 (by omega),c 2 (by omega),c 3 (by omega)⟩
theorem rdTs_push {W:World} {B:Nat} {v:Value} {ts:List TV} {t:TV} (h:OwnT W B v (ts++[t])) (hi:∀ s∈ts,RdI W s.vb s.T.bits∧RdS W s.vk s.T.blocks) (ht:RdI W t.vb t.T.bits∧RdS W t.vk t.T.blocks):RdTs W v (ts++[t]) :=
 OwnT.rdAny h (fun s hs=>by
  rcases List.mem_append.1 hs with hs | hs
  ·exact hi s hs
  ·rw [List.mem_singleton.1 hs];exact ht)
theorem TA.young {w0 w W1 W2:World} {g b3 B:Nat} {X:TrX} {v:Value} {t:TV} (h:TA w0 w W1 g b3 X) (hg:W1.grownBy W2 X.vy.ownBlock) (ho:OwnT W2 (w.heap.size+1) v (X.ys++[t])) (hn:NewT W1 B t) (hB:w.heap.size+1≤B) (hyB:∀ k,X.vy.ownBlock=some k→k < B) (hbB:b3 < B) (hgw:g < w.heap.size) (hb3:w.heap.size < b3) :
 TZ w0 w (W2.setCell ⟨b3,1,none⟩ v) g b3 ⟨X.vm,v,X.vo,X.vs,X.mem,X.ys++[t],X.os,X.seq,X.snaps⟩:=by
 have hf:=treeP_fit h.tree
 have hY:=h.rows.young
 obtain ⟨a1,a2,a3,a4⟩:=h.after hg (fun k hk=>⟨(World.ownsRow.lt hY k hk).1,box_rowne h.box hY (by decide) k hk⟩) hgw hb3
 refine ⟨boxTr_set1 a1 v,fun bs W' hl ht=>?_,⟨hf.mem,fun s hs=>?_,hf.old⟩,own_nil ho,own_nil h.rows.old,by have:=h.few;show X.snaps.length≤7;omega,a2.set (by omega),gr_set a3 (by omega),boxTr_other a4 (by omega)⟩
 ·have kp:∀ {t s n:Nat} {v:Value} {xs:List Value},W1.ownsRow (w.heap.size+1) t s v n xs→t≠28→(∀ k,v.ownBlock=some k→X.vy.ownBlock≠some k)→W'.ownsRow (w.heap.size+1) t s v n xs:=fun hh htt hn=>keepR hh (Nat.le_refl _) hl (box_rowne h.box hh htt) hg hn ht
  have kt:∀ ts:List TV,InT W1 (w.heap.size+1) ts→InT W' (w.heap.size+1) ts:=fun ts hts t ht2 =>
   ⟨kp (hts t ht2).1 (by decide) (fun k hk e=>rows_apart (hts t ht2).1 hY (by decide) k hk e),kp (hts t ht2).2 (by decide) (fun k hk e=>rows_apart (hts t ht2).2 hY (by decide) k hk e)⟩
  have oy:=kt _ h.rows.youngs
  refine ⟨OwnE.rd (base:=w.heap.size+1) (kp h.rows.mem (by decide) (fun k hk e=>rows_apart h.rows.mem hY (by decide) k hk e)),?_,?_,OwnI.rd (base:=w.heap.size+1) (kp h.rows.snaps (by decide) (fun k hk e=>rows_apart h.rows.snaps hY (by decide) k hk e))⟩
  ·exact rdTs_push (keepR (row:=none) ho (Nat.le_refl _) hl (box_rowne a1 ho (by decide)) (gr_refl _ _) (fun k _ e=>by cases e) ht:OwnT W' (w.heap.size+1) v (X.ys++[t])) (fun s hs=>⟨(oy s hs).1.rd,(oy s hs).2.rd⟩) (hn.keep hB hl hbB hg hyB ht)
  ·by_cases hsame:∃ k,X.vy.ownBlock=some k∧X.vo.ownBlock=some k
   ·obtain ⟨k,k1,k2⟩:=hsame
    rcases h.ap.2 with h2 | ⟨x,h2⟩
    ·exact absurd k2 (h2 k k1)
    ·have hy0:=hY
     rw [h2] at hy0 k1
     have hnil:=own_none0 hy0 k1 h.rows.old k2
     obtain ⟨a,cap,e,hm⟩:=ownT_shape h.rows.old
     rw [hnil] at e
     show RdTs W' X.vo X.os
     rw [hnil,e]
     exact rdTs_nilT rfl hm
   ·exact OwnT.rd (kp h.rows.old (by decide) (fun k hk e=>hsame ⟨k,e,hk⟩)) (kt _ h.rows.olds)
 ·intro b hb
  rcases List.mem_append.1 hs with hs | hs
  ·exact hf.young s hs b hb
  ·rw [List.mem_singleton.1 hs] at hb
   have:=hn.small b hb
   omega
theorem TA.old {w0 w W1 W2:World} {g b3 B:Nat} {X:TrX} {v:Value} {t:TV} (h:TA w0 w W1 g b3 X) (hg:W1.grownBy W2 X.vo.ownBlock) (ho:OwnT W2 (w.heap.size+1) v (X.os++[t])) (hn:NewT W1 B t) (hB:w.heap.size+1≤B) (hyB:∀ k,X.vo.ownBlock=some k→k < B) (hbB:b3 < B) (hgw:g < w.heap.size) (hb3:w.heap.size < b3) :
 TZ w0 w (W2.setCell ⟨b3,2,none⟩ v) g b3 ⟨X.vm,X.vy,v,X.vs,X.mem,X.ys,X.os++[t],X.seq,X.snaps⟩:=by
 have hf:=treeP_fit h.tree
 have hO:=h.rows.old
 obtain ⟨a1,a2,a3,a4⟩:=h.after hg (fun k hk=>⟨(World.ownsRow.lt hO k hk).1,box_rowne h.box hO (by decide) k hk⟩) hgw hb3
 refine ⟨boxTr_set2 a1 v,fun bs W' hl ht=>?_,⟨hf.mem,hf.young,fun s hs=>?_⟩,own_nil h.rows.young,own_nil ho,by have:=h.few;show X.snaps.length≤7;omega,a2.set (by omega),gr_set a3 (by omega),boxTr_other a4 (by omega)⟩
 ·have kp:∀ {t s n:Nat} {v:Value} {xs:List Value},W1.ownsRow (w.heap.size+1) t s v n xs→t≠28→(∀ k,v.ownBlock=some k→X.vo.ownBlock≠some k)→W'.ownsRow (w.heap.size+1) t s v n xs:=fun hh htt hn=>keepR hh (Nat.le_refl _) hl (box_rowne h.box hh htt) hg hn ht
  have kt:∀ ts:List TV,InT W1 (w.heap.size+1) ts→InT W' (w.heap.size+1) ts:=fun ts hts t ht2 =>
   ⟨kp (hts t ht2).1 (by decide) (fun k hk e=>rows_apart (hts t ht2).1 hO (by decide) k hk e),kp (hts t ht2).2 (by decide) (fun k hk e=>rows_apart (hts t ht2).2 hO (by decide) k hk e)⟩
  have oo:=kt _ h.rows.olds
  refine ⟨OwnE.rd (base:=w.heap.size+1) (kp h.rows.mem (by decide) (fun k hk e=>rows_apart h.rows.mem hO (by decide) k hk e)),?_,?_,OwnI.rd (base:=w.heap.size+1) (kp h.rows.snaps (by decide) (fun k hk e=>rows_apart h.rows.snaps hO (by decide) k hk e))⟩
  ·by_cases hsame:∃ k,X.vy.ownBlock=some k∧X.vo.ownBlock=some k
   ·obtain ⟨k,k1,k2⟩:=hsame
    rcases h.ap.2 with h2 | ⟨x,h2⟩
    ·exact absurd k2 (h2 k k1)
    ·obtain ⟨a,cap,e,hm⟩:=ownT_shape h.rows.young
     have hnil:X.ys=[]:=by
      rw [h2] at e
      injection e with _ e2 _
      exact List.length_eq_zero_iff.1 e2.symm
     rw [hnil] at e
     show RdTs W' X.vy X.ys
     rw [hnil,e]
     exact rdTs_nilT rfl hm
   ·exact OwnT.rd (kp h.rows.young (by decide) (fun k hk e=>hsame ⟨k,hk,e⟩)) (kt _ h.rows.youngs)
  ·exact rdTs_push (keepR (row:=none) ho (Nat.le_refl _) hl (box_rowne a1 ho (by decide)) (gr_refl _ _) (fun k _ e=>by cases e) ht:OwnT W' (w.heap.size+1) v (X.os++[t])) (fun s hs=>⟨(oo s hs).1.rd,(oo s hs).2.rd⟩) (hn.keep hB hl hbB hg hyB ht)
 ·intro b hb
  rcases List.mem_append.1 hs with hs | hs
  ·exact hf.old s hs b hb
  ·rw [List.mem_singleton.1 hs] at hb
   have:=hn.small b hb
   omega
end Go.Proofs.YtmlmlemiidedcaaGreat
