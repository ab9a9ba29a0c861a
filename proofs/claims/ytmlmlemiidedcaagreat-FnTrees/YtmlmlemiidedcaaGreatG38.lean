import Derived.Test.YtmlmlemiidedcaaGreatG30
import Derived.Test.YtmlmlemiidedcaaGreatTreSnp
namespace Go.Proofs.YtmlmlemiidedcaaGreat
set_option maxHeartbeats 16000000
set_option maxRecDepth 100000
open Go.RowKit
theorem allF_each:∀ (bs:List ByteArray) (acc es:List Ent),allF bs acc=some es→∀ b∈bs,(unpI b.data.toList).2=true
 | [],_,_,_,b,hb=>by cases hb
 | c::r,acc,es,h,b,hb=>by
  rw [allF] at h
  split at h
  ·rename_i hc
   rcases List.mem_cons.1 hb with rfl | hb
   ·exact hc.1
   ·exact allF_each r _ es h b hb
  ·cases h
theorem okT_small {T:Tbl} (h:tableOk T=true):(∀ s∈T.blocks,s.size≤90009)∧T.bits.length≤1000∧T.blocks.length≤40:=by
 have hp:=tableOk_parts h
 have hlen:=okL_len hp.1
 have hb:=bitsL_len (entriesL T)
 rw [← hp.2.2.2.2] at hb
 unfold tableOk at h
 simp only [Bool.and_eq_true] at h
 obtain ⟨⟨⟨h1,_⟩,_⟩,_⟩:=h
 unfold allL at h1
 split at h1
 ·cases h1
 ·rename_i hn
  split at h1
  ·cases h1
  ·rename_i es he
   refine ⟨fun s hs=>?_,by omega,by omega⟩
   have h2:=allF_each _ _ _ he s hs
   obtain ⟨es',hes⟩:∃ es',unpI s.data.toList=(es',true):=⟨(unpI s.data.toList).1,by rw [← h2]⟩
   obtain ⟨k1,k2⟩:=unpI_back hes
   have k3:=packA_len k1
   rw [k2,size_length] at k3
   exact k3
theorem treeP_young {X:TrX} (h:TreeP X.tre):∀ t∈X.ys,tableOk t.T=true:=fun t ht=>h.full t.T (List.mem_append_left _ (List.mem_map_of_mem ht))
theorem treeP_old {X:TrX} (h:TreeP X.tre):∀ t∈X.os,tableOk t.T=true:=fun t ht=>h.full t.T (List.mem_append_right _ (List.mem_map_of_mem ht))
theorem treeP_fit {X:TrX} (h:TreeP X.tre):FitTr X :=
 ⟨fun e he=>by
  have:=((okL_iff _).1 h.mem).2.1 e he
  simp only [okE,Bool.and_eq_true,decide_eq_true_eq] at this
  exact ⟨by omega,by omega,by omega,by omega⟩,
  fun t ht s hs=>by have:=(okT_small (treeP_young h t ht)).1 s hs;omega,fun t ht s hs=>by have:=(okT_small (treeP_old h t ht)).1 s hs;omega⟩
theorem treeP_siz {X:TrX} {w:World} {lo:Nat} (h:TreeP X.tre) (hr:RowsTr w lo X):CpTr X:=by
 have hl:=okL_len h.mem
 have h1:X.ys.length≤6:=by have:=h.young;rw [show X.tre.young=X.ys.map (·.T) from rfl,List.length_map] at this;exact this
 have h2:X.os.length≤1:=by have:=h.old;rw [show X.tre.old=X.os.map (·.T) from rfl,List.length_map] at this;exact this
 have h3:X.snaps.length≤10:=h.few
 have h4:X.mem.length≤300:=hl
 refine ⟨⟨by omega,by omega,by omega,by omega,fun t ht=>?_,fun t ht=>?_⟩,by omega,own_nil hr.young,own_nil hr.old⟩
 ·have:=okT_small (treeP_young h t ht)
  exact ⟨by omega,by omega,own_nil (hr.youngs t ht).2⟩
 ·have:=okT_small (treeP_old h t ht)
  exact ⟨by omega,by omega,own_nil (hr.olds t ht).2⟩
theorem touch_gr {b:Nat} {w w':World} (h:Touch [b] w w'):w.grownBy w' (some b):=⟨h.os,h.tape,h.output,h.size,fun i hi hr=>h.block i hi (fun e=>hr (by rw [List.mem_singleton.1 e]))⟩
theorem grown_touch {b:Nat} {w w':World} (h:w.grownBy w' (some b)):Touch [b] w w':=⟨h.os,h.tape,h.output,h.size,fun i hi hn=>h.block i hi (fun e=>hn (by simp at e;simp [e]))⟩
def PairTr (X:TrX):Prop:=(∀ b,X.vs.ownBlock=some b→Off b X.ys∧Off b X.os)∧((∀ k,X.vy.ownBlock=some k→X.vo.ownBlock≠some k)∨∃ x,X.vy=.slice x 0 0)
theorem ApTr.pair {X:TrX} (h:ApTr X):PairTr X:=⟨h.1,.inl h.2⟩
structure TD (w0 w W:World) (g bx:Nat) (X:TrX):Prop where
 box:BoxTr W bx X.vm X.vy X.vo X.seq X.vs
 rows:RowsTr W (bx+1) X
 tree:TreeP X.tre
 dc:DCur w0 W g
 gr:w.grownBy W (some g)
 res:BoxTr W w.heap.size (.slice none 0 0) (.slice none 0 0) (.slice none 0 0) 0 (.slice none 0 0)
 ap:PairTr X
theorem RowsTr.off {W:World} {bx:Nat} {X:TrX} (h:RowsTr W (bx+1) X) {k:Nat} (hk:k≤bx):∀ j∈trB X,j ∉ [k]:=fun j hj e=>by
 have:=(h.bound hj).1
 have:=List.mem_singleton.1 e
 omega
theorem TD.draw {w0 w W W1:World} {g bx:Nat} {X:TrX} (h:TD w0 w W g bx X) (hg:W.grownBy W1 (some g)) (hd:DCur w0 W1 g) (hgw:g < w.heap.size) (hbx:w.heap.size < bx):TD w0 w W1 g bx X :=
 ⟨(hg.block bx h.box.lt (fun e=>by simp at e;omega)).trans h.box,h.rows.touch (grown_touch hg) (h.rows.off (by omega)),h.tree,hd,gr_trans h.gr hg,(hg.block w.heap.size h.res.lt (fun e=>by simp at e;omega)).trans h.res,h.ap⟩
theorem TD.below {w0 w W W1:World} {g bx:Nat} {X:TrX} (h:TD w0 w W g bx X) (hb:Below W.heap.size W W1):TD w0 w W1 g bx X :=
 ⟨h.box.on hb,h.rows.below hb,h.tree,h.dc.below hb,gr_below h.gr hb,h.res.on hb,h.ap⟩
theorem TD.touch {w0 w W W1:World} {g bx:Nat} {X Y:TrX} (h:TD w0 w W g bx X) (ht:Touch [bx] W W1) (hgw:g < w.heap.size) (hbx:w.heap.size < bx) (hbox:BoxTr W1 bx Y.vm Y.vy Y.vo Y.seq Y.vs) (hr:RowsTr W1 (bx+1) Y) (hp:TreeP Y.tre) (ha:PairTr Y):TD w0 w W1 g bx Y :=
 ⟨hbox,hr,hp,h.dc.grow (touch_gr ht) (fun k hk=>by have:=Option.some.inj hk;omega),gr_young h.gr (touch_gr ht) (fun k hk=>by have:=Option.some.inj hk;omega),(ht.block _ h.res.lt (by simp;omega)).trans h.res,ha⟩
def Few (T:Tre) (m:Nat):Prop:=2*T.snaps.length+m≤11+(if lastSeq T=true then 1 else 0)
theorem few_end {T:Tre} (h:Few T 0):T.snaps.length≤6:=by
 unfold Few at h
 split at h<;>omega
theorem few_same {T R:Tre} {m:Nat} (h:Few T (m+1)) (hs:R.snaps=T.snaps):Few R m:=by
 unfold Few at h ⊢
 rw [hs]
 split at h<;>split<;>omega
theorem few_less {T R:Tre} {m:Nat} (h:Few T (m+1)) (hs:R.snaps.length < T.snaps.length):Few R m:=by
 unfold Few at h ⊢
 split at h<;>split<;>omega
theorem lastSeq_snap (T:Tre):lastSeq (snapT T)=true:=by
 unfold lastSeq snapT
 simp [List.getD]
theorem few_snap {T:Tre} {m:Nat} (hk:treeOk T=true) (h:Few T (m+1)):Few (snapR T) m:=by
 unfold snapR
 rw [if_pos hk]
 split
 ·exact few_same h rfl
 ·rename_i hn
  have h1:¬ lastSeq T=true:=fun e=>hn (.inl e)
  unfold Few at h ⊢
  rw [if_neg h1] at h
  rw [lastSeq_snap,if_pos rfl]
  show 2*(T.snaps++[T.seq]).length+m≤_
  simp only [List.length_append,List.length_singleton]
  omega
theorem snapR_tree {T:Tre} (h:TreeP T):TreeP (snapR T):=by
 unfold snapR
 rw [if_pos ((treeOk_iff T).2 h)]
 split
 ·exact h
 ·rename_i hn
  have h1:=h.few
  refine snap_tree h (by omega) (fun s hs he=>hn (.inl ?_))
  have:=snaps_last h hs he
  unfold lastSeq
  rw [this]
  have:0 < T.snaps.length:=List.length_pos_of_mem hs
  simp [this]
theorem freeR_tree {T:Tre} (h:TreeP T) (s:Int):TreeP (freeR T s):=by
 unfold freeR
 rw [if_pos ((treeOk_iff T).2 h)]
 exact free_tree h s
theorem few_free {T:Tre} {m:Nat} {s:Int} (hk:treeOk T=true) (h:Few T (m+1)) (hs:s∈T.snaps):Few (freeR T s) m:=by
 refine few_less h ?_
 unfold freeR
 rw [if_pos hk]
 show (T.snaps.filter fun x=>decide (x≠s)).length < _
 rcases Nat.lt_or_ge (T.snaps.filter fun x=>decide (x≠s)).length T.snaps.length with h | h
 ·exact h
 ·have e:=List.filter_sublist.eq_of_length_le h
  rw [← e] at hs
  simp at hs
open Go.RowKit
theorem touch_put5 {w:World} {b:Nat} {u0 u1 u2 u3 u4:Value}:Touch [b] w (put5 w b u0 u1 u2 u3 u4) :=
 ((((Touch.set (by simp)).trans (Touch.set (by simp))).trans (Touch.set (by simp))).trans (Touch.set (by simp))).trans (Touch.set (by simp))
theorem TD.put {w0 w V V2:World} {g bx:Nat} {X:TrX} (Y:TrX) (h:TD w0 w V g bx X) (hb:Below V.heap.size V V2) (hr:RowsTr V2 V.heap.size Y) (hp:TreeP Y.tre) (ha:PairTr Y) (hgw:g < w.heap.size) (hbx:w.heap.size < bx) :
 TD w0 w (put5 V2 bx Y.vm Y.vy Y.vo (.int .i64 Y.seq) Y.vs) g bx Y:=by
 have hlt:=h.box.lt
 have h2:=h.below hb
 refine h2.touch touch_put5 hgw hbx (boxTr_put5 h2.box _ _ _ _ _) ?_ hp ha
 exact RowsTr.mono (lo:=V.heap.size) ⟨row_put5 hr.mem hlt,row_put5 hr.young hlt,hr.youngs.put5 hlt,row_put5 hr.old hlt,hr.olds.put5 hlt,row_put5 hr.snaps hlt⟩ (by omega)
def StepD (w0 w:World) (g bx:Nat) (X:TrX) (e:Ending) (V1:World):Prop:=∃ ok,e=.returned (.bool ok)∧∃ Y,TD w0 w V1 g bx Y∧Y.tre.snaps=X.tre.snaps
theorem call_spill {w0 w V:World} {g bx:Nat} {X:TrX} (h:TD w0 w V g bx X) (hgw:g < w.heap.size) (hbx:w.heap.size < bx) :
 Calls Tryz.prog 56 #[.pointer (some ⟨bx,0,none⟩)] V fun e V1=>StepD w0 w g bx X e V1:=by
 have hY:X.ys.length=X.tre.young.length:=by show _=(X.ys.map (·.T)).length;rw [List.length_map]
 have hlt:=h.box.lt
 refine (l7Spill_any bx X.vm X.vy X.vo X.vs X.mem X.ys X.seq V h.box h.rows.mem.rd (h.rows.young.rd h.rows.youngs) (own_nil h.rows.young) (fun e he=>okE_pk (((okL_iff _).1 h.tree.mem).2.1 e he)) (by have:X.mem.length≤300:=okL_len h.tree.mem;omega) (by rw [hY];exact h.tree.young)).mono ?_
 rintro e V1 ⟨ok,rfl,hok,hno,hyes⟩
 refine ⟨ok,rfl,?_⟩
 cases ok with
 | false=>exact ⟨X,h.below (hno rfl),rfl⟩
 | true =>
  obtain ⟨vm',vy',vb,vk,hb,om,oy,oi,os,ht⟩:=hyes rfl
  have hk:=hok.symm
  rw [Bool.and_eq_true,decide_eq_true_eq,decide_eq_true_eq] at hk
  have hr:=h.rows.touch ht (h.rows.off (Nat.le_refl _))
  refine ⟨⟨vm',vy',X.vo,X.vs,[],⟨builtT X.mem,vb,vk⟩::X.ys,X.os,X.seq,X.snaps⟩,?_,rfl⟩
  refine h.touch ht hgw hbx hb ⟨om.mono (by omega),oy.mono (by omega),?_,hr.old,hr.olds,hr.snaps⟩ ?_ ⟨fun b hb2=>⟨fun t ht2 k hk e=>?_,(h.ap.1 b hb2).2⟩,.inl fun k hk e=>?_⟩
  ·intro t ht2
   rcases List.mem_cons.1 ht2 with rfl | ht2
   ·exact ⟨oi.mono (by omega),os.mono (by omega)⟩
   ·exact hr.youngs t ht2
  ·have h1:=h.tree.young
   exact spill_tree h.tree hk.1 (by rw [hY] at hk;omega)
  ·rcases List.mem_cons.1 ht2 with rfl | ht2
   ·have h1:=(World.ownsRow.lt oi k hk).1
    have h2:=(World.ownsRow.lt h.rows.snaps b hb2).2
    omega
   ·exact (h.ap.1 b hb2).1 t ht2 k hk e
  ·have h1:=(World.ownsRow.lt oy k hk).1
   have h2:=(World.ownsRow.lt h.rows.old k e).2
   omega
theorem call_sink {w0 w V:World} {g bx:Nat} {X:TrX} (h:TD w0 w V g bx X) (hgw:g < w.heap.size) (hbx:w.heap.size < bx) :
 Calls Tryz.prog 57 #[.pointer (some ⟨bx,0,none⟩)] V fun e V1=>StepD w0 w g bx X e V1:=by
 have hY:X.ys.length=X.tre.young.length:=by show _=(X.ys.map (·.T)).length;rw [List.length_map]
 have hO:X.os.length=X.tre.old.length:=by show _=(X.os.map (·.T)).length;rw [List.length_map]
 have hlt:=h.box.lt
 have hTL:tl X.ys X.ys.length++tl X.os X.os.length=tabL X.tre:=tabL_tl rfl rfl
 have hFT:=treeP_fit h.tree
 have hcall:=l7Sink_any bx X.vm X.vy X.vo X.vs X.ys X.os X.seq X.snaps V h.box (h.rows.young.rd h.rows.youngs) (h.rows.old.rd h.rows.olds) h.rows.snaps.rd hFT.young hFT.old (by rw [hY];exact h.tree.young) (by rw [hO];exact h.tree.old) h.tree.few (fun hn=>by
  rw [hTL] at hn ⊢
  have h0:sinkM (tabL X.tre) X.snaps X.seq=sinkL X.tre:=rfl
  rw [h0]
  have hok:=sink_ok h.tree hn
  exact ⟨fun e he=>okE_pk (((okL_iff _).1 hok).2.1 e he),by have:=okL_len hok;omega⟩)
 rw [hTL] at hcall
 refine hcall.mono ?_
 rintro e V1 ⟨ok,rfl,hok,hno,hyes⟩
 refine ⟨ok,rfl,?_⟩
 cases ok with
 | false=>exact ⟨X,h.below (hno rfl),rfl⟩
 | true =>
  obtain ⟨vy',vo',ts,hb,oy,oo,oi,hts,ht,hx0⟩:=hyes rfl
  have hk:=hok.symm
  rw [Bool.and_eq_true,decide_eq_true_eq,decide_eq_true_eq] at hk
  have hr:=h.rows.touch ht (h.rows.off (Nat.le_refl _))
  refine ⟨⟨X.vm,vy',vo',X.vs,X.mem,[],ts,X.seq,X.snaps⟩,?_,rfl⟩
  refine h.touch ht hgw hbx hb ⟨hr.mem,oy.mono (by omega),(fun t ht=>by cases ht),oo.mono (by omega),InT.mono oi (by omega),hr.snaps⟩ ?_ ⟨fun b hb2=>⟨(fun t ht2=>by cases ht2),fun t ht2 k hk e=>by have h1:=(World.ownsRow.lt (oi t ht2).1 k hk).1;have h2:=(World.ownsRow.lt h.rows.snaps b hb2).2;omega⟩,.inr hx0⟩
  have e:(⟨X.mem,[],ts.map (·.T),X.seq,X.snaps⟩:Tre)=sinkT X.tre:=by rw [hts];rfl
  show TreeP (⟨X.mem,[],ts.map (·.T),X.seq,X.snaps⟩:Tre)
  rw [e]
  exact sink_tree h.tree hk.2
theorem call_wrote {w0 w V:World} {g bx B:Nat} {X:TrX} {v:Value} {xs:List Wri} (h:TD w0 w V g bx X) (hgw:g < w.heap.size) (hbx:w.heap.size < bx) (ho:OwnW V B v xs) (hB:bx < B) (hf:∀ x∈xs,FitsW x) :
 Calls Tryz.prog 44 #[.pointer (some ⟨bx,0,none⟩),v] V fun e V1=>StepD w0 w g bx X e V1:=by
 have hlt:=h.box.lt
 refine (l7Wrote_any X.tre X.vm X.vy X.vo X.vs bx (bx+1) v xs V h.box h.rows.mem (by omega) h.tree ho.rd (fun W ht=>OwnW.rd (base:=B) (ht.row ho (fun k hk e=>by have:=(World.ownsRow.lt ho k hk).1;have:=List.mem_singleton.1 e;omega))) hf).mono ?_
 rintro e V1 ⟨rfl,⟨vm',hb,om⟩,ht⟩
 refine ⟨_,rfl,?_⟩
 have hr:=h.rows.touch ht (h.rows.off (Nat.le_refl _))
 cases hroom:roomFor X.tre xs with
 | false =>
  rw [hroom] at hb om
  exact ⟨⟨vm',X.vy,X.vo,X.vs,X.mem,X.ys,X.os,X.seq,X.snaps⟩,h.touch ht hgw hbx hb ⟨om,hr.young,hr.youngs,hr.old,hr.olds,hr.snaps⟩ h.tree h.ap,rfl⟩
 | true =>
  rw [hroom] at hb om
  obtain ⟨e1,e2,e3⟩:=putAll_rest X.tre xs
  have hT:(⟨(putAll X.tre xs).mem,X.ys.map (·.T),X.os.map (·.T),(putAll X.tre xs).seq,X.snaps⟩:Tre)=putAll X.tre xs:=by
   have h1:X.ys.map (·.T)=(putAll X.tre xs).young:=e1.symm
   have h2:X.os.map (·.T)=(putAll X.tre xs).old:=e2.symm
   have h3:X.snaps=(putAll X.tre xs).snaps:=e3.symm
   rw [h1,h2,h3]
  refine ⟨⟨vm',X.vy,X.vo,X.vs,(putAll X.tre xs).mem,X.ys,X.os,(putAll X.tre xs).seq,X.snaps⟩,h.touch ht hgw hbx hb ⟨om,hr.young,hr.youngs,hr.old,hr.olds,hr.snaps⟩ ?_ h.ap,rfl⟩
  show TreeP (⟨(putAll X.tre xs).mem,X.ys.map (·.T),X.os.map (·.T),(putAll X.tre xs).seq,X.snaps⟩:Tre)
  rw [hT]
  unfold roomFor batchOk at hroom
  simp only [Bool.and_eq_true,decide_eq_true_eq] at hroom
  exact putAll_tree h.tree hroom.1.1.2 hroom.1.2 hroom.2
end Go.Proofs.YtmlmlemiidedcaaGreat
namespace Go.Proofs.YtmlmlemiidedcaaGreat
set_option maxHeartbeats 16000000
set_option maxRecDepth 100000
open Go.RowKit
theorem gr_of_belowT {w w':World} (g:Nat) (h:Below w.heap.size w w'):w.grownBy w' (some g):=gr_below (gr_refl w (some g)) h
theorem listed_as7 {P:Program} {md:Region.Mode} {ops:Array Oper} {Q:Exit→Act→World→Prop} {S:World→Prop} {fuel:Nat} {l l':Array Bool} {a:Act} {w:World} (hl:l=l') (h:wpAnyH P md ops Q S fuel l' a w):wpAnyH P md ops Q S fuel l a w:=by subst hl;exact h
theorem own_int_at {w:World} {B gs n cap:Nat} {ns:List Int} (h:OwnI w B (.slice (some ⟨gs,0,none⟩) n cap) ns) (hn:n=ns.length) (i:Nat) (hi:i < n):w.cell? ⟨gs,i,none⟩=some (.int .i64 (ns.getD i 0)):=by
 unfold OwnI at h
 rw [← hn] at h
 have:=h.cellAt i (by omega)
 rw [this,IV_get ns i (by omega)]
 simp [List.getD,List.getElem?_eq_getElem (show i < ns.length by omega)]
theorem getD_mem {ns:List Int} {i:Nat} (h:i < ns.length):ns.getD i 0∈ns:=by
 simp [List.getD,List.getElem?_eq_getElem h]
def TreD (w0 w:World) (g:Nat) (e:Ending) (w':World):Prop :=
 ∃ X:TrX,e=.returned (.agg #[X.vm,X.vy,X.vo,.int .i64 X.seq,X.vs])∧RowsTr w' w.heap.size X∧TreeP X.tre∧X.snaps.length≤6∧PairTr X∧DCur w0 w' g∧w.grownBy w' (some g)
theorem l7Draw_any (w0 w:World) (g:Nat) (sb:Bool) (h:DCur w0 w g) :
 Calls Tryz.prog 63 #[.pointer (some ⟨g,0,none⟩),.bool sb] w fun e w'=>TreD w0 w g e w':=by
 have hlt:=h.lt
 have zr:=boxTr_new w (.slice none 0 0) (.slice none 0 0) (.slice none 0 0) (.slice none 0 0) 0
 obtain ⟨V0,hV0⟩:∃ V0,V0=w.alloc (.cells #[.slice none 0 0,.slice none 0 0,.slice none 0 0,.int .i64 0,.slice none 0 0] 28):=⟨_,rfl⟩
 have b0:Below w.heap.size w V0:=by rw [hV0];exact below1 w _
 have s0:V0.heap.size=w.heap.size+1:=by rw [hV0];simp
 rw [← hV0] at zr
 have zb:=boxTr_new V0 (.slice none 0 0) (.slice none 0 0) (.slice none 0 0) (.slice none 0 0) 0
 obtain ⟨W0,hW0⟩:∃ W0,W0=V0.alloc (.cells #[.slice none 0 0,.slice none 0 0,.slice none 0 0,.int .i64 0,.slice none 0 0] 28):=⟨_,rfl⟩
 have b1:Below V0.heap.size V0 W0:=by rw [hW0];exact below1 V0 _
 rw [← hW0,s0] at zb
 have zr1:=zr.on b1
 have bw:Below w.heap.size w W0:=b0.trans (b1.mono (by omega))
 have HW0:Hid ((w.alloc (.cells #[.slice none 0 0,.slice none 0 0,.slice none 0 0,.int .i64 0,.slice none 0 0] 28)).alloc (.cells #[.slice none 0 0,.slice none 0 0,.slice none 0 0,.int .i64 0,.slice none 0 0] 28)=W0):=by unfold Hid;rw [hW0,hV0]
 obtain ⟨bx,hbx⟩:∃ bx,bx=w.heap.size+1:=⟨_,rfl⟩
 have hz:=ownTree_zero W0 (bx+1)
 have td0:TD w0 w W0 g bx ⟨.slice none 0 0,.slice none 0 0,.slice none 0 0,.slice none 0 0,[],[],[],0,[]⟩:=⟨by rw [hbx];exact zb,⟨hz.mem,hz.young,hz.youngs,hz.old,hz.olds,hz.snaps⟩,zero_tree,h.below bw,gr_of_belowT g bw,zr1,apTr_zero.pair⟩
 have HGW:Hid (g < w.heap.size):=hlt
 have HBX:Hid (w.heap.size < bx):=by unfold Hid;omega
 have HBE:Hid (w.heap.size+1=bx):=hbx.symm
 clear zr zb zr1 b0 b1 hV0 hW0 s0 bw hz h hbx
 go_enter Tryz.func63,Tryz.ntmps63
 go_wp2_with fail
 rw [HW0.out,HBE.out]
 refine (l1Below_any w0 _ g 12 td0.dc (by omega) (by omega)).mono ?_
 rintro e w1 ⟨x,rfl,hx0,hx1,dc1,hg1⟩
 have td1:=td0.draw hg1 dc1 HGW.out HBX.out
 obtain ⟨m0,rfl⟩:=Int.eq_ofNat_of_zero_le hx0
 have hm0:m0≤11:=by omega
 have HF0:Hid (Few (⟨.slice none 0 0,.slice none 0 0,.slice none 0 0,.slice none 0 0,[],[],[],0,[]⟩:TrX).tre m0):=by
  show 2*0+m0≤_
  omega
 clear td0 dc1 hg1 hx0 hx1 HW0
 go_wp2
 go_loopw [6] (fun n wr=>∃ (m:Nat) (X:TrX),n=.int .i64 (m:Int)∧m≤11∧Hid (TD w0 w wr g bx X)∧Hid (Few X.tre m)) (fun n _=>(intOf n).toNat)
 case atStart=>exact ⟨m0,_,rfl,hm0,td1,HF0⟩
 case round =>
  obtain ⟨m1,X,rfl,hm1,HTD,HF1⟩:=hrel
  clear td1 HF0 hm0
  obtain ⟨am,ay,ao,an,mn,yn,on,nn,cm,cy,co,cn,v0,v1,v2,v3⟩:=HTD.out.rows.rd.slices
  have HNS0:Hid (X.vs=.slice an nn cn→nn=X.snaps.length):=fun e=>by
   obtain ⟨a',c',e',_⟩:=HTD.out.rows.snaps.rd
   rw [e] at e'
   injection e' with _ e2 _
  obtain ⟨vm4,vy4,vo4,vs4,mem4,ys4,os4,seq4,snaps4⟩:=X
  simp only at v0 v1 v2 v3
  subst v0
  subst v1
  subst v2
  subst v3
  have HNS:Hid (nn=snaps4.length):=HNS0.out rfl
  clear HNS0
  by_cases hmp:0 < m1
  ·obtain ⟨m,rfl⟩:∃ m,m1=m+1:=⟨m1 - 1,by omega⟩
   have hmi:(0:Int) < ((m+1:Nat):Int):=by omega
   have hmw:((m+1:Nat):Int) - 1=(m:Int):=by omega
   have HF:Hid (Few (⟨.slice am mn cm,.slice ay yn cy,.slice ao on co,.slice an nn cn,mem4,ys4,os4,seq4,snaps4⟩:TrX).tre (m+1)):=HF1.out
   have hnn2:(nn:Int)≤4294967296:=by have h1:=HTD.out.tree.few;have h2:snaps4.length≤10:=h1;rw [HNS.out];omega
   clear HF1 hmp
   go_wp2_with fail
   refine (l1Below_any w0 _ g 8 HTD.out.dc (by omega) (by omega)).mono ?_
   rintro e w2 ⟨y,rfl,hy0,hy1,dc2,hg2⟩
   have td:=HTD.out.draw hg2 dc2 HGW.out HBX.out
   clear HTD dc2 hg2
   by_cases h0:y=0
   ·subst h0
    go_wp2_with fail
    refine (call_spill td HGW.out HBX.out).mono ?_
    rintro e w3 ⟨ok,rfl,Y,td3,hsn⟩
    have HF3:Hid (Few Y.tre m):=few_same HF.out hsn
    clear hsn td
    go_wp2
    go_roundw
    case rel=>exact ⟨m,Y,by go_num,by omega,td3,HF3⟩
    case measure=>simp [intOf]
   by_cases h1:y=1
   ·subst h1
    go_wp2_with fail
    refine (call_sink td HGW.out HBX.out).mono ?_
    rintro e w3 ⟨ok,rfl,Y,td3,hsn⟩
    have HF3:Hid (Few Y.tre m):=few_same HF.out hsn
    clear hsn td
    go_wp2
    go_roundw
    case rel=>exact ⟨m,Y,by go_num,by omega,td3,HF3⟩
    case measure=>simp [intOf]
   have q0:(y == 0)=false:=by simp [h0]
   have q1:(y == 1)=false:=by simp [h1]
   by_cases h2:y=2
   ·subst h2
    cases sb with
    | false =>
     have HF3:Hid (Few (⟨.slice am mn cm,.slice ay yn cy,.slice ao on co,.slice an nn cn,mem4,ys4,os4,seq4,snaps4⟩:TrX).tre m):=few_same HF.out rfl
     have td3:Hid (TD _ _ _ _ _ _):=td
     clear td
     go_wp2
     go_roundw
     case rel=>exact ⟨m,_,by go_num,by omega,td3,HF3⟩
     case measure=>simp [intOf]
    | true =>
     obtain ⟨y0,y1,y2,y3,y4,g0,g1,g2,g3,g4⟩:=td.box.facts
     simp only at y0 y1 y2 y3 y4
     go_wp2_with fail
     refine (specSnap_any ⟨.slice am mn cm,.slice ay yn cy,.slice ao on co,.slice an nn cn,mem4,ys4,os4,seq4,snaps4⟩ _ td.rows.rd (treeP_fit td.tree) (fun _=>(treeP_siz td.tree td.rows).siz)).mono ?_
     clear y0 y1 y2 y3 y4 g0 g1 g2 g3 g4
     rintro e V2 ⟨Y,rfl,heY,hrY,hbY,haY⟩
     obtain ⟨am',ay',ao',an',mn',yn',on',nn',cm',cy',co',cn',v0',v1',v2',v3'⟩:=hrY.rd.slices
     obtain ⟨vm5,vy5,vo5,vs5,mem5,ys5,os5,seq5,snaps5⟩:=Y
     simp only at v0' v1' v2' v3'
     subst v0'
     subst v1'
     subst v2'
     subst v3'
     have HFW:Hid (Few (snapR (⟨.slice am mn cm,.slice ay yn cy,.slice ao on co,.slice an nn cn,mem4,ys4,os4,seq4,snaps4⟩:TrX).tre) m):=few_snap ((treeOk_iff _).2 td.tree) HF.out
     have td2:Hid (TD _ _ _ _ _ _):=td.put ⟨.slice am' mn' cm',.slice ay' yn' cy',.slice ao' on' co',.slice an' nn' cn',mem5,ys5,os5,seq5,snaps5⟩ hbY hrY (by rw [heY];exact snapR_tree td.tree) haY.pair HGW.out HBX.out
     rw [← heY] at HFW
     obtain ⟨y0,y1,y2,y3,y4,g0,g1,g2,g3,g4⟩:=(td.below hbY).box.facts
     simp only at y0 y1 y2 y3 y4
     clear heY hrY td hbY haY
     go_wp2
     go_roundw
     case rel=>exact ⟨m,_,by go_num,by omega,td2,HFW⟩
     case measure=>simp [intOf]
   have q2:(y == 2)=false:=by simp [h2]
   by_cases h3:y=3
   ·subst h3
    have HF3:Hid (Few (⟨.slice am mn cm,.slice ay yn cy,.slice ao on co,.slice an nn cn,mem4,ys4,os4,seq4,snaps4⟩:TrX).tre m):=few_same HF.out rfl
    have td3:Hid (TD w0 w w2 g bx ⟨.slice am mn cm,.slice ay yn cy,.slice ao on co,.slice an nn cn,mem4,ys4,os4,seq4,snaps4⟩):=td
    cases sb with
    | false =>
     clear td
     go_wp2
     go_roundw
     case rel=>exact ⟨m,_,by go_num,by omega,td3,HF3⟩
     case measure=>simp [intOf]
    | true =>
     obtain ⟨y0,y1,y2,y3,y4,g0,g1,g2,g3,g4⟩:=td.box.facts
     simp only at y0 y1 y2 y3 y4
     by_cases hn0:nn=0
     ·subst hn0
      clear td
      go_wp2
      go_roundw
      case rel=>exact ⟨m,_,by go_num,by omega,td3,HF3⟩
      case measure=>simp [intOf]
     have hnn1:(0:Int) < (nn:Int):=by omega
     obtain ⟨gs,rfl⟩:∃ gs,an=some ⟨gs,0,none⟩:=by
      have hne:snaps4≠[]:=fun e=>hn0 (by rw [HNS.out,e];rfl)
      obtain ⟨gs,cap',e⟩:=ownI_some td.rows.snaps hne
      injection e with e1 _ _
      exact ⟨gs,e1⟩
     clear td3 HF3 hn0
     go_wp2_with fail
     refine wp_region_noPanic ?_
     refine wp_region_held_drew (S:=fun _=>True) (by kernel_rfl) trivial (fun hS=>?_)
     replace td:TD w0 w w2.drew g bx ⟨.slice am mn cm,.slice ay yn cy,.slice ao on co,.slice (some ⟨gs,0,none⟩) nn cn,mem4,ys4,os4,seq4,snaps4⟩:=td.below ((Below.refl _ _).drew)
     clear y0 y1 y2 y3 y4 g0 g1 g2 g3 g4
     revert hS td
     generalize w2.drew=V
     intro hS td
     clear w2 wr
     refine kG 1 44 hS ?_
     refine kG 3 46 hS ?_
     refine kG 4 47 hS ?_
     refine wpAnyH_ready (rs:=[0,2,5]) (by kernel_rfl) (by simp) ?_
     refine AllReadyH.cons rfl (fun K hK=>?_) ?_
     obtain ⟨y0,y1,y2,y3,y4,g0,g1,g2,g3,g4⟩:=td.box.facts
     simp only at y0 y1 y2 y3 y4
     go_simp
     clear y0 y1 y2 y3 y4 g0 g1 g2 g3 g4 hS
     refine hK.out _ _ trivial (fun hS=>?_)
     clear hK K
     try simp only [sA,sZ,sS]
     clear hS
     refine listed_as7 (l':=#[true,true,false,true,true,false,false,false,false,false,false,false,false,false,false]) (by kernel_rfl) ?_
     revert td
     revert V
     refine ?tk0
     rotate_left 1
     refine AllReadyH.cons rfl (fun K hK=>?_) ?_
     obtain ⟨y0,y1,y2,y3,y4,g0,g1,g2,g3,g4⟩:=td.box.facts
     simp only at y0 y1 y2 y3 y4
     go_simp
     clear y0 y1 y2 y3 y4 g0 g1 g2 g3 g4 hS
     refine hK.out _ _ trivial (fun hS=>?_)
     clear hK K
     try simp only [sA,sZ,sS]
     clear hS
     refine listed_as7 (l':=#[false,true,true,true,true,false,false,false,false,false,false,false,false,false,false]) (by kernel_rfl) ?_
     revert td
     revert V
     refine ?tk2
     rotate_left 1
     refine AllReadyH.cons rfl (fun K hK=>?_) AllReadyH.nil
     obtain ⟨y0,y1,y2,y3,y4,g0,g1,g2,g3,g4⟩:=td.box.facts
     simp only at y0 y1 y2 y3 y4
     go_simp
     clear y0 y1 y2 y3 y4 g0 g1 g2 g3 g4 hS
     refine hK.out _ _ trivial (fun hS=>?_)
     clear hK K
     try simp only [sA,sZ,sS]
     refine kG 6 49 hS ?_
     clear hS
     refine listed_as7 (l':=#[false,true,false,true,true,true,true,false,false,false,false,false,false,false,false]) (by kernel_rfl) ?_
     revert td
     revert V
     refine ?tk5
     rotate_left 1
     intro V0 td
     have hS:(fun _:World=>True) V0:=trivial
     refine wpAnyH_ready (rs:=[2,5]) (by kernel_rfl) (by simp) ?_
     refine AllReadyH.cons rfl (fun K hK=>?_) ?_
     obtain ⟨y0,y1,y2,y3,y4,g0,g1,g2,g3,g4⟩:=td.box.facts
     simp only at y0 y1 y2 y3 y4
     go_simp
     clear y0 y1 y2 y3 y4 g0 g1 g2 g3 g4 hS
     refine hK.out _ _ trivial (fun hS=>?_)
     clear hK K
     try simp only [sA,sZ,sS]
     clear hS
     refine listed_as7 (l':=#[true,true,true,true,true,false,false,false,false,false,false,false,false,false,false]) (by kernel_rfl) ?_
     revert td
     revert V0
     refine ?tk02
     rotate_left 1
     refine AllReadyH.cons rfl (fun K hK=>?_) AllReadyH.nil
     obtain ⟨y0,y1,y2,y3,y4,g0,g1,g2,g3,g4⟩:=td.box.facts
     simp only at y0 y1 y2 y3 y4
     go_simp
     clear y0 y1 y2 y3 y4 g0 g1 g2 g3 g4 hS
     refine hK.out _ _ trivial (fun hS=>?_)
     clear hK K
     try simp only [sA,sZ,sS]
     refine kG 6 49 hS ?_
     clear hS
     refine listed_as7 (l':=#[true,true,false,true,true,true,true,false,false,false,false,false,false,false,false]) (by kernel_rfl) ?_
     revert td
     revert V0
     refine ?tk05
     rotate_left 1
     intro V0 td
     have hS:(fun _:World=>True) V0:=trivial
     refine wpAnyH_ready (rs:=[0,5]) (by kernel_rfl) (by simp) ?_
     refine AllReadyH.cons rfl (fun K hK=>?_) ?_
     obtain ⟨y0,y1,y2,y3,y4,g0,g1,g2,g3,g4⟩:=td.box.facts
     simp only at y0 y1 y2 y3 y4
     go_simp
     clear y0 y1 y2 y3 y4 g0 g1 g2 g3 g4 hS
     refine hK.out _ _ trivial (fun hS=>?_)
     clear hK K
     try simp only [List.setIfInBounds_toArray,List.set_cons_zero]
     clear hS
     refine listed_as7 (l':=#[true,true,true,true,true,false,false,false,false,false,false,false,false,false,false]) (by kernel_rfl) ?_
     revert td
     revert V0
     exact ?tk02
     refine AllReadyH.cons rfl (fun K hK=>?_) AllReadyH.nil
     obtain ⟨y0,y1,y2,y3,y4,g0,g1,g2,g3,g4⟩:=td.box.facts
     simp only at y0 y1 y2 y3 y4
     go_simp
     clear y0 y1 y2 y3 y4 g0 g1 g2 g3 g4 hS
     refine hK.out _ _ trivial (fun hS=>?_)
     clear hK K
     try simp only [sA,sZ,sS]
     refine kG 6 49 hS ?_
     clear hS
     refine listed_as7 (l':=#[false,true,true,true,true,true,true,false,false,false,false,false,false,false,false]) (by kernel_rfl) ?_
     revert td
     revert V0
     refine ?tk25
     rotate_left 1
     intro V0 td
     have hS:(fun _:World=>True) V0:=trivial
     refine wpAnyH_ready (rs:=[0,2,7]) (by kernel_rfl) (by simp) ?_
     refine AllReadyH.cons rfl (fun K hK=>?_) ?_
     obtain ⟨y0,y1,y2,y3,y4,g0,g1,g2,g3,g4⟩:=td.box.facts
     simp only at y0 y1 y2 y3 y4
     go_simp
     clear y0 y1 y2 y3 y4 g0 g1 g2 g3 g4 hS
     refine hK.out _ _ trivial (fun hS=>?_)
     clear hK K
     try simp only [List.setIfInBounds_toArray,List.set_cons_zero]
     clear hS
     refine listed_as7 (l':=#[true,true,false,true,true,true,true,false,false,false,false,false,false,false,false]) (by kernel_rfl) ?_
     revert td
     revert V0
     exact ?tk05
     refine AllReadyH.cons rfl (fun K hK=>?_) ?_
     obtain ⟨y0,y1,y2,y3,y4,g0,g1,g2,g3,g4⟩:=td.box.facts
     simp only at y0 y1 y2 y3 y4
     go_simp
     clear y0 y1 y2 y3 y4 g0 g1 g2 g3 g4 hS
     refine hK.out _ _ trivial (fun hS=>?_)
     clear hK K
     try simp only [sA,sZ,sS]
     clear hS
     refine listed_as7 (l':=#[false,true,true,true,true,true,true,false,false,false,false,false,false,false,false]) (by kernel_rfl) ?_
     revert td
     revert V0
     exact ?tk25
     refine AllReadyH.cons rfl (fun K hK=>?_) AllReadyH.nil
     go_simp
     refine (l1Below_any w0 _ g _ td.dc hnn1 hnn2).mono ?_
     rintro e V1 ⟨x,rfl,hx0,hx1,dc1,hg⟩
     obtain ⟨j,rfl⟩:=Int.eq_ofNat_of_zero_le hx0
     have hj:j < nn:=by omega
     replace td:=td.draw hg dc1 HGW.out HBX.out
     clear hg dc1 hS hx0 hx1
     refine hK.out _ _ trivial (fun hS=>?_)
     clear hK K
     try simp only [sA,sZ,sS]
     clear hS
     refine listed_as7 (l':=#[false,true,false,true,true,true,true,true,false,false,false,false,false,false,false]) (by kernel_rfl) ?_
     revert hj
     revert td
     revert j
     revert V1
     clear V0
     refine ?tk57
     rotate_left 1
     intro V0 td
     have hS:(fun _:World=>True) V0:=trivial
     refine wpAnyH_ready (rs:=[5]) (by kernel_rfl) (by simp) ?_
     refine AllReadyH.cons rfl (fun K hK=>?_) AllReadyH.nil
     obtain ⟨y0,y1,y2,y3,y4,g0,g1,g2,g3,g4⟩:=td.box.facts
     simp only at y0 y1 y2 y3 y4
     go_simp
     clear y0 y1 y2 y3 y4 g0 g1 g2 g3 g4 hS
     refine hK.out _ _ trivial (fun hS=>?_)
     clear hK K
     try simp only [sA,sZ,sS]
     refine kG 6 49 hS ?_
     clear hS
     refine listed_as7 (l':=#[true,true,true,true,true,true,true,false,false,false,false,false,false,false,false]) (by kernel_rfl) ?_
     revert td
     revert V0
     refine ?tk025
     rotate_left 1
     intro V0 td
     have hS:(fun _:World=>True) V0:=trivial
     refine wpAnyH_ready (rs:=[2,7]) (by kernel_rfl) (by simp) ?_
     refine AllReadyH.cons rfl (fun K hK=>?_) ?_
     obtain ⟨y0,y1,y2,y3,y4,g0,g1,g2,g3,g4⟩:=td.box.facts
     simp only at y0 y1 y2 y3 y4
     go_simp
     clear y0 y1 y2 y3 y4 g0 g1 g2 g3 g4 hS
     refine hK.out _ _ trivial (fun hS=>?_)
     clear hK K
     try simp only [sA,sZ,sS]
     clear hS
     refine listed_as7 (l':=#[true,true,true,true,true,true,true,false,false,false,false,false,false,false,false]) (by kernel_rfl) ?_
     revert td
     revert V0
     exact ?tk025
     refine AllReadyH.cons rfl (fun K hK=>?_) AllReadyH.nil
     go_simp
     refine (l1Below_any w0 _ g _ td.dc hnn1 hnn2).mono ?_
     rintro e V1 ⟨x,rfl,hx0,hx1,dc1,hg⟩
     obtain ⟨j,rfl⟩:=Int.eq_ofNat_of_zero_le hx0
     have hj:j < nn:=by omega
     replace td:=td.draw hg dc1 HGW.out HBX.out
     clear hg dc1 hS hx0 hx1
     refine hK.out _ _ trivial (fun hS=>?_)
     clear hK K
     try simp only [sA,sZ,sS]
     clear hS
     refine listed_as7 (l':=#[true,true,false,true,true,true,true,true,false,false,false,false,false,false,false]) (by kernel_rfl) ?_
     revert hj
     revert td
     revert j
     revert V1
     clear V0
     refine ?tk057
     rotate_left 1
     intro V0 td
     have hS:(fun _:World=>True) V0:=trivial
     refine wpAnyH_ready (rs:=[0,7]) (by kernel_rfl) (by simp) ?_
     refine AllReadyH.cons rfl (fun K hK=>?_) ?_
     obtain ⟨y0,y1,y2,y3,y4,g0,g1,g2,g3,g4⟩:=td.box.facts
     simp only at y0 y1 y2 y3 y4
     go_simp
     clear y0 y1 y2 y3 y4 g0 g1 g2 g3 g4 hS
     refine hK.out _ _ trivial (fun hS=>?_)
     clear hK K
     try simp only [List.setIfInBounds_toArray,List.set_cons_zero]
     clear hS
     refine listed_as7 (l':=#[true,true,true,true,true,true,true,false,false,false,false,false,false,false,false]) (by kernel_rfl) ?_
     revert td
     revert V0
     exact ?tk025
     refine AllReadyH.cons rfl (fun K hK=>?_) AllReadyH.nil
     go_simp
     refine (l1Below_any w0 _ g _ td.dc hnn1 hnn2).mono ?_
     rintro e V1 ⟨x,rfl,hx0,hx1,dc1,hg⟩
     obtain ⟨j,rfl⟩:=Int.eq_ofNat_of_zero_le hx0
     have hj:j < nn:=by omega
     replace td:=td.draw hg dc1 HGW.out HBX.out
     clear hg dc1 hS hx0 hx1
     refine hK.out _ _ trivial (fun hS=>?_)
     clear hK K
     try simp only [sA,sZ,sS]
     refine kG 8 51 hS ?_
     clear hS
     refine listed_as7 (l':=#[false,true,true,true,true,true,true,true,true,false,false,false,false,false,false]) (by kernel_rfl) ?_
     revert hj
     revert td
     revert j
     revert V1
     clear V0
     refine ?tk257
     rotate_left 1
     intro V0 j td hj
     have hS:(fun _:World=>True) V0:=trivial
     refine wpAnyH_ready (rs:=[0,2]) (by kernel_rfl) (by simp) ?_
     refine AllReadyH.cons rfl (fun K hK=>?_) ?_
     obtain ⟨y0,y1,y2,y3,y4,g0,g1,g2,g3,g4⟩:=td.box.facts
     simp only at y0 y1 y2 y3 y4
     go_simp
     clear y0 y1 y2 y3 y4 g0 g1 g2 g3 g4 hS
     refine hK.out _ _ trivial (fun hS=>?_)
     clear hK K
     try simp only [List.setIfInBounds_toArray,List.set_cons_zero]
     clear hS
     refine listed_as7 (l':=#[true,true,false,true,true,true,true,true,false,false,false,false,false,false,false]) (by kernel_rfl) ?_
     revert hj
     revert td
     revert j
     revert V0
     exact ?tk057
     refine AllReadyH.cons rfl (fun K hK=>?_) AllReadyH.nil
     obtain ⟨y0,y1,y2,y3,y4,g0,g1,g2,g3,g4⟩:=td.box.facts
     simp only at y0 y1 y2 y3 y4
     go_simp
     clear y0 y1 y2 y3 y4 g0 g1 g2 g3 g4 hS
     refine hK.out _ _ trivial (fun hS=>?_)
     clear hK K
     try simp only [sA,sZ,sS]
     refine kG 8 51 hS ?_
     clear hS
     refine listed_as7 (l':=#[false,true,true,true,true,true,true,true,true,false,false,false,false,false,false]) (by kernel_rfl) ?_
     revert hj
     revert td
     revert j
     revert V0
     exact ?tk257
     intro V0 td
     have hS:(fun _:World=>True) V0:=trivial
     refine wpAnyH_ready (rs:=[7]) (by kernel_rfl) (by simp) ?_
     refine AllReadyH.cons rfl (fun K hK=>?_) AllReadyH.nil
     go_simp
     refine (l1Below_any w0 _ g _ td.dc hnn1 hnn2).mono ?_
     rintro e V1 ⟨x,rfl,hx0,hx1,dc1,hg⟩
     obtain ⟨j,rfl⟩:=Int.eq_ofNat_of_zero_le hx0
     have hj:j < nn:=by omega
     replace td:=td.draw hg dc1 HGW.out HBX.out
     clear hg dc1 hS hx0 hx1
     refine hK.out _ _ trivial (fun hS=>?_)
     clear hK K
     try simp only [sA,sZ,sS]
     refine kG 8 51 hS ?_
     clear hS
     refine listed_as7 (l':=#[true,true,true,true,true,true,true,true,true,false,false,false,false,false,false]) (by kernel_rfl) ?_
     revert hj
     revert td
     revert j
     revert V1
     clear V0
     refine ?tk0257
     rotate_left 1
     intro V0 j td hj
     have hS:(fun _:World=>True) V0:=trivial
     refine wpAnyH_ready (rs:=[2]) (by kernel_rfl) (by simp) ?_
     refine AllReadyH.cons rfl (fun K hK=>?_) AllReadyH.nil
     obtain ⟨y0,y1,y2,y3,y4,g0,g1,g2,g3,g4⟩:=td.box.facts
     simp only at y0 y1 y2 y3 y4
     go_simp
     clear y0 y1 y2 y3 y4 g0 g1 g2 g3 g4 hS
     refine hK.out _ _ trivial (fun hS=>?_)
     clear hK K
     try simp only [sA,sZ,sS]
     refine kG 8 51 hS ?_
     clear hS
     refine listed_as7 (l':=#[true,true,true,true,true,true,true,true,true,false,false,false,false,false,false]) (by kernel_rfl) ?_
     revert hj
     revert td
     revert j
     revert V0
     exact ?tk0257
     intro V0 j td hj
     have hS:(fun _:World=>True) V0:=trivial
     refine wpAnyH_ready (rs:=[0,9]) (by kernel_rfl) (by simp) ?_
     refine AllReadyH.cons rfl (fun K hK=>?_) ?_
     obtain ⟨y0,y1,y2,y3,y4,g0,g1,g2,g3,g4⟩:=td.box.facts
     simp only at y0 y1 y2 y3 y4
     go_simp
     clear y0 y1 y2 y3 y4 g0 g1 g2 g3 g4 hS
     refine hK.out _ _ trivial (fun hS=>?_)
     clear hK K
     try simp only [List.setIfInBounds_toArray,List.set_cons_zero]
     clear hS
     refine listed_as7 (l':=#[true,true,true,true,true,true,true,true,true,false,false,false,false,false,false]) (by kernel_rfl) ?_
     revert hj
     revert td
     revert j
     revert V0
     exact ?tk0257
     refine AllReadyH.cons rfl (fun K hK=>?_) AllReadyH.nil
     obtain ⟨s9,HS9⟩:∃ s9,Hid (s9=snaps4.getD j 0):=⟨_,rfl⟩
     have hcl:=own_int_at td.rows.snaps HNS.out j hj
     rw [← HS9.out] at hcl
     have hs9:Hid (s9∈snaps4):=by unfold Hid;rw [HS9.out];exact getD_mem (by have:=HNS.out;omega)
     go_simp
     clear hcl HS9 hS
     refine hK.out _ _ trivial (fun hS=>?_)
     clear hK K
     try simp only [sA,sZ,sS]
     clear hS
     refine listed_as7 (l':=#[false,true,true,true,true,true,true,true,true,true,false,false,false,false,false]) (by kernel_rfl) ?_
     revert hs9
     revert hj
     revert td
     revert s9
     revert j
     revert V0
     refine ?tk2579
     rotate_left 1
     intro V0 j td hj
     have hS:(fun _:World=>True) V0:=trivial
     refine wpAnyH_ready (rs:=[9]) (by kernel_rfl) (by simp) ?_
     refine AllReadyH.cons rfl (fun K hK=>?_) AllReadyH.nil
     obtain ⟨s9,HS9⟩:∃ s9,Hid (s9=snaps4.getD j 0):=⟨_,rfl⟩
     have hcl:=own_int_at td.rows.snaps HNS.out j hj
     rw [← HS9.out] at hcl
     have hs9:Hid (s9∈snaps4):=by unfold Hid;rw [HS9.out];exact getD_mem (by have:=HNS.out;omega)
     go_simp
     clear hcl HS9 hS
     refine hK.out _ _ trivial (fun hS=>?_)
     clear hK K
     try simp only [sA,sZ,sS]
     clear hS
     refine listed_as7 (l':=#[true,true,true,true,true,true,true,true,true,true,false,false,false,false,false]) (by kernel_rfl) ?_
     revert hs9
     revert hj
     revert td
     revert s9
     revert j
     revert V0
     refine ?tk02579
     rotate_left 1
     intro V0 j s9 td hj hs9
     have hS:(fun _:World=>True) V0:=trivial
     refine wpAnyH_ready (rs:=[0]) (by kernel_rfl) (by simp) ?_
     refine AllReadyH.cons rfl (fun K hK=>?_) AllReadyH.nil
     obtain ⟨y0,y1,y2,y3,y4,g0,g1,g2,g3,g4⟩:=td.box.facts
     simp only at y0 y1 y2 y3 y4
     go_simp
     clear y0 y1 y2 y3 y4 g0 g1 g2 g3 g4 hS
     refine hK.out _ _ trivial (fun hS=>?_)
     clear hK K
     try simp only [List.setIfInBounds_toArray,List.set_cons_zero]
     clear hS
     refine listed_as7 (l':=#[true,true,true,true,true,true,true,true,true,true,false,false,false,false,false]) (by kernel_rfl) ?_
     revert hs9
     revert hj
     revert td
     revert s9
     revert j
     revert V0
     exact ?tk02579
     intro V0 j s9 td hj hs9
     have hS:(fun _:World=>True) V0:=trivial
     refine wpAnyH_ready (rs:=[10]) (by kernel_rfl) (by simp) ?_
     refine AllReadyH.cons rfl (fun K hK=>?_) AllReadyH.nil
     go_simp
     refine (specFree_any ⟨.slice am mn cm,.slice ay yn cy,.slice ao on co,.slice (some ⟨gs,0,none⟩) nn cn,mem4,ys4,os4,seq4,snaps4⟩ s9 _ td.rows.rd (treeP_fit td.tree) (fun _=>(treeP_siz td.tree td.rows).siz)).mono ?_
     rintro e V2 ⟨Y,rfl,heY,hrY,hbY,haY⟩
     obtain ⟨am',ay',ao',an',mn',yn',on',nn',cm',cy',co',cn',v0',v1',v2',v3'⟩:=hrY.rd.slices
     obtain ⟨vm5,vy5,vo5,vs5,mem5,ys5,os5,seq5,snaps5⟩:=Y
     simp only at v0' v1' v2' v3'
     subst v0'
     subst v1'
     subst v2'
     subst v3'
     have HFW:Hid (Few (freeR (⟨.slice am mn cm,.slice ay yn cy,.slice ao on co,.slice (some ⟨gs,0,none⟩) nn cn,mem4,ys4,os4,seq4,snaps4⟩:TrX).tre s9) m):=few_free ((treeOk_iff _).2 td.tree) HF.out hs9.out
     have td2:=td.put ⟨.slice am' mn' cm',.slice ay' yn' cy',.slice ao' on' co',.slice an' nn' cn',mem5,ys5,os5,seq5,snaps5⟩ hbY hrY (by rw [heY];exact freeR_tree td.tree s9) haY.pair HGW.out HBX.out
     rw [← heY] at HFW
     obtain ⟨y0,y1,y2,y3,y4,g0,g1,g2,g3,g4⟩:=(td.below hbY).box.facts
     simp only at y0 y1 y2 y3 y4
     clear heY hrY td hS haY
     refine hK.out _ _ trivial (fun hS=>?_)
     clear hK K
     refine kG 11 42 hS ?_
     refine kG 12 54 hS ?_
     refine kG 13 55 hS ?_
     refine wpAnyH_ready (rs:=[14]) (by kernel_rfl) (by simp) ?_
     refine AllReadyH.cons rfl (fun K hK=>?_) AllReadyH.nil
     go_simp
     refine hK.out _ _ trivial (fun hS=>?_)
     clear hK K hS y0 y1 y2 y3 y4 g0 g1 g2 g3 g4 hbY
     refine wpAnyH_done (by kernel_rfl) ?_ _
     refine NoPanic.normal ?_
     unfold put5 at td2
     revert td2
     generalize ((((V2.setCell ⟨bx,0,none⟩ (.slice am' mn' cm')).setCell ⟨bx,1,none⟩ (.slice ay' yn' cy')).setCell ⟨bx,2,none⟩ (.slice ao' on' co')).setCell ⟨bx,3,none⟩ (.int .i64 seq5)).setCell ⟨bx,4,none⟩ (.slice an' nn' cn')=P
     intro td2
     go_wp2
     go_roundw
     case rel=>exact ⟨m,_,by go_num,by omega,td2,HFW⟩
     case measure=>simp [intOf]
   have q3:(y == 3)=false:=by simp [h3]
   go_wp2_with fail
   refine (l7DrawBatch_any w0 _ g td.dc).mono ?_
   rintro e w3 ⟨v,xs,rfl,how,hxl,hsm,dc3,hg3⟩
   have td3:=td.draw hg3 dc3 HGW.out HBX.out
   have hbl:=td.box.lt
   clear td dc3 hg3
   go_wp2_with fail
   refine (call_wrote td3 HGW.out HBX.out how hbl (fun x hx=>⟨by have:=(hsm x hx).1;omega,by have:=(hsm x hx).2;omega⟩)).mono ?_
   rintro e w4 ⟨ok,rfl,Y,td4,hsn⟩
   have HF4:Hid (Few Y.tre m):=few_same HF.out hsn
   clear hsn td3 how hsm hbl
   go_wp2
   go_roundw
   case rel=>exact ⟨m,Y,by go_num,by omega,td4,HF4⟩
   case measure=>simp [intOf]
  ·have hm0:m1=0:=by omega
   subst hm0
   have HEND:Hid (TreD w0 w g (.returned (.agg #[.slice am mn cm,.slice ay yn cy,.slice ao on co,.int .i64 seq4,.slice an nn cn])) (put5 wr w.heap.size (.slice am mn cm) (.slice ay yn cy) (.slice ao on co) (.int .i64 seq4) (.slice an nn cn))):=by
    have td:=HTD.out
    have hc:w.heap.size < bx+1:=by have:=HBX.out;omega
    refine ⟨⟨.slice am mn cm,.slice ay yn cy,.slice ao on co,.slice an nn cn,mem4,ys4,os4,seq4,snaps4⟩,rfl,RowsTr.mono (lo:=bx+1) ⟨row_put5 td.rows.mem hc,row_put5 td.rows.young hc,td.rows.youngs.put5 hc,row_put5 td.rows.old hc,td.rows.olds.put5 hc,row_put5 td.rows.snaps hc⟩ (by omega),td.tree,few_end HF1.out,td.ap,?_,?_⟩
    ·exact td.dc.grow (touch_gr touch_put5) (fun k hk=>by have:=Option.some.inj hk;have:=HGW.out;omega)
    ·exact gr_young td.gr (touch_gr touch_put5) (fun k hk=>by have:=Option.some.inj hk;omega)
   obtain ⟨y0,y1,y2,y3,y4,g0,g1,g2,g3,g4⟩:=HTD.out.box.facts
   obtain ⟨m0,m1,m2,m3,m4,n0,n1,n2,n3,n4⟩:=HTD.out.res.facts
   have hzF:=boxTr_put5 HTD.out.res (.slice am mn cm) (.slice ay yn cy) (.slice ao on co) (.slice an nn cn) seq4
   obtain ⟨f0,f1,f2,f3,f4,-⟩:=hzF.facts
   unfold put5 at f0 f1 f2 f3 f4
   simp only at y0 y1 y2 y3 y4
   clear HTD HF1 hzF
   go_wp2
   exact bodyPost_ret (v:=.agg #[.slice am mn cm,.slice ay yn cy,.slice ao on co,.int .i64 seq4,.slice an nn cn]) (by simp [results,Tryz.results63,go_sem,f0,f1,f2,f3,f4]) rfl HEND.out
end Go.Proofs.YtmlmlemiidedcaaGreat
