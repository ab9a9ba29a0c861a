import Derived.Test.YtannfbpohhnnkaaGreatDoorG00
import Derived.Deep.RegionLaw
import Derived.BigQuiet
import Derived.Laws.Cover1
import Derived.Deep.RegionWith
import Derived.Deep.RegionHeld3
namespace Go.Proofs.YtannfbpohhnnkaaGreatDoor
set_option maxHeartbeats 16000000
set_option maxRecDepth 100000
open Go.RowKit
theorem Tryz.info94:(Tryz.prog.info? 94).map (fun i=>(i.zero,i.size,i.bytes))=some (some (.agg #[.string ⟨#[]⟩,.string ⟨#[]⟩,.int .i64 0,.bool false]),4,48):=by kernel_rfl
def EC(e:Ent):List Value:=[.string e.key,.string e.val,.int .i64 e.seq,.bool e.gone]
def EV(es:List Ent):List Value:=es.flatMap EC
theorem zan:∀ es:List Ent,(EV es).length=es.length*4
 | []=>rfl
 | a::r=>by
  have:=zan r;unfold EV at this ⊢;rw[List.flatMap_cons,List.length_append,this,List.length_cons];simp[EC];omega
theorem zdH(a b:List Ent):EV (a++b)=EV a++EV b:=by simp[EV]
theorem zfH(a:Ent)(r:List Ent):EV (a::r)=EC a++EV r:=by simp[EV]
theorem zmd:∀ (es:List Ent) (i:Nat),i<es.length→∀ j,j<4→(EV es)[i*4+j]? = (EC (nth es i))[j]?
 | [],i,h,_,_=>by simp at h
 | a::r,0,_,j,hj=>by
  rw[zfH,zbs,Nat.zero_mul,Nat.zero_add,List.getElem?_append_left (by simp[EC];exact hj)]
 | a::r,i+1,h,j,hj=>by
  rw[zfH,zgw,← zmd r i (by simpa using h) j hj,List.getElem?_append_right (by simp[EC];omega)];congr 1
  simp[EC];omega
theorem zis(es:List Ent):∀ u∈EV es,u.oneCell'=true:=by
 intro u hu;simp only[EV,List.mem_flatMap] at hu;obtain⟨e,_,he⟩:=hu;simp only[EC,List.mem_cons,List.not_mem_nil,or_false] at he;rcases he with rfl | rfl | rfl | rfl<;>rfl
def EntAt(w:World)(b o:Nat)(e:Ent):Prop :=
 w.cell? ⟨b,o,none⟩=some (.string e.key)∧w.cell? ⟨b,o+1,none⟩=some (.string e.val)∧w.cell? ⟨b,o+2,none⟩=some (.int .i64 e.seq)∧w.cell? ⟨b,o+3,none⟩=some (.bool e.gone)
def OwnE(w:World)(base:Nat)(v:Value)(es:List Ent):Prop:=w.ownsRow base 94 4 v es.length (EV es)
def RdE(w:World)(v:Value)(es:List Ent):Prop :=
 ∃ a cap,v=.slice a es.length cap∧es.length≤cap∧cap≤maxLen∧(a=none→cap=0) ∧
  (es=[]∨∃ b off,a=some ⟨b,off,none⟩∧∀ i,i<es.length→EntAt w b (off+i*4) (nth es i))
theorem EntAt.lt{w:World}{b o:Nat}{e:Ent}(h:EntAt w b o e):b<w.heap.size:=World.block_lt_of_cell? w _ h.1
theorem EntAt.of_block{w w':World}{b o:Nat}{e:Ent}(h:EntAt w b o e)(hb:w'.heap[b]? = w.heap[b]?):EntAt w' b o e :=
 ⟨(World.cell?_of_block (a:=⟨b,o,none⟩) hb).trans h.1,(World.cell?_of_block (a:=⟨b,o+1,none⟩) hb).trans h.2.1,(World.cell?_of_block (a:=⟨b,o+2,none⟩) hb).trans h.2.2.1,(World.cell?_of_block (a:=⟨b,o+3,none⟩) hb).trans h.2.2.2⟩
theorem EntAt.below{w w':World}{b o:Nat}{e:Ent}(h:EntAt w b o e)(hb:Below w.heap.size w w'):EntAt w' b o e:=h.of_block (hb.block b h.lt)
theorem zdn{w:World}{base g cap n:Nat}{es:List Ent}(h:w.ownsRow base 94 4 (.slice (some ⟨g,0,none⟩) n cap) n (EV es))(hn:n=es.length)(i:Nat)(hi:i<n):EntAt w g (i*4) (nth es i):=by
 subst hn;have c:∀ j,j<4→w.cell? ⟨g,i*4+j,none⟩=(EC (nth es i))[j]?:=fun j hj=>(h.cellAt (i*4+j) (by omega)).trans (zmd es i hi j hj)
 exact⟨c 0 (by omega),c 1 (by omega),c 2 (by omega),c 3 (by omega)⟩
theorem OwnE.rd{w:World}{base:Nat}{v:Value}{es:List Ent}(h:OwnE w base v es):RdE w v es:=by
 have h':=h;rcases h.2 with ⟨rfl,h0⟩ | ⟨g,cap,cur,rfl,hb,hg,hn,hc,hs,ht⟩
 ·have:es=[]:=List.length_eq_zero_iff.1 h0;subst this;exact⟨none,0,rfl,Nat.le_refl _,Nat.zero_le _,fun _=>rfl,.inl rfl⟩
 ·refine⟨some ⟨g,0,none⟩,cap,rfl,hn,hc,(fun h=>by cases h),.inr ⟨g,0,rfl,fun i hi=>?_⟩⟩;rw[Nat.zero_add];exact zdn h' rfl i hi
theorem OwnE.below{w w':World}{base:Nat}{v:Value}{es:List Ent}(h:OwnE w base v es)(hb:Below w.heap.size w w'):OwnE w' base v es:=zaB h hb
theorem OwnE.drewN{w:World}{base:Nat}{v:Value}{es:List Ent}(h:OwnE w base v es)(q:Nat):OwnE (w.drewN q) base v es:=h
theorem OwnE.mono{w:World}{base base':Nat}{v:Value}{es:List Ent}(h:OwnE w base v es)(hb:base'≤base):OwnE w base' v es:=by
 refine⟨h.1,?_⟩;rcases h.2 with h2 | ⟨g,cap,cur,hv,hg,r⟩
 ·exact .inl h2
 ·exact .inr ⟨g,cap,cur,hv,Nat.le_trans hb hg,r⟩
theorem RdE.below{w w':World}{v:Value}{es:List Ent}(h:RdE w v es)(hb:Below w.heap.size w w'):RdE w' v es:=by
 obtain⟨a,cap,hv,h1,h2,h0,h3⟩:=h;refine⟨a,cap,hv,h1,h2,h0,?_⟩;rcases h3 with h3 | ⟨b,off,ha,hc⟩
 ·exact .inl h3
 ·exact .inr ⟨b,off,ha,fun i hi=>(hc i hi).below hb⟩
theorem RdE.drewN{w:World}{v:Value}{es:List Ent}(h:RdE w v es)(q:Nat):RdE (w.drewN q) v es:=h
theorem rdE_nil(w:World):RdE w (.slice none 0 0) []:=⟨none,0,rfl,Nat.le_refl _,Nat.zero_le _,fun _=>rfl,.inl rfl⟩
theorem zS(w:World):OwnE (w.alloc (.cells #[] 94)) w.heap.size (.slice (some ⟨w.heap.size,0,none⟩) 0 0) []:=World.ownsRow_lit w #[] 0 (Nat.le_refl _) (Nat.zero_le _) rfl
theorem zqC{w:World}{B:Nat}{v:Value}{es:List Ent}(h:OwnE w B v es):∀ k,v.ownBlock=some k→k<w.heap.size:=fun k hk=>(World.ownsRow.lt h k hk).2
theorem zp2{w1:World}{B:Nat}{v':Value}{ys zs:List Ent}(h:w1.ownsRow B 94 4 v' (ys.length+zs.length) (EV ys++EV zs)):OwnE w1 B v' (ys++zs):=by
 unfold OwnE;rw[zdH,List.length_append];exact h
theorem RdE.at{w:World}{a:Option Addr}{n cap:Nat}{es:List Ent}(h:RdE w (.slice a n cap) es)(hn:n=es.length)(i:Nat)(hi:i<es.length):∃ b off,a=some ⟨b,off,none⟩∧EntAt w b (off+i*4) (nth es i):=by
 obtain⟨a',cap',hv,_,_,_,h3⟩:=h;simp only[Value.slice.injEq] at hv;obtain⟨rfl,_,_⟩:=hv;rcases h3 with rfl | ⟨b,off,ha,hc⟩
 ·simp at hi
 ·exact⟨b,off,ha,hc i hi⟩
theorem EV_nth{es:List Ent}{j:Nat}{u:Value}(h:(EV es)[j]? = some u):j / 4<es.length∧(EC (nth es (j / 4)))[j % 4]? = some u:=by
 have hj:j<(EV es).length:=(List.getElem?_eq_some_iff.1 h).1;rw[zan] at hj;have h1:j / 4<es.length:=by omega
 refine⟨h1,?_⟩;have h2:=zmd es (j / 4) h1 (j % 4) (by omega);rw[show j / 4*4+j % 4=j by omega] at h2;rw[← h2];exact h
theorem EntAt.cellAt{w:World}{b o:Nat}{e:Ent}(h:EntAt w b o e){j:Nat}{u:Value}(hu:(EC e)[j]? = some u):w.cell? ⟨b,o+j,none⟩=some u:=by
 obtain⟨h0,h1,h2,h3⟩:=h;match j,hu with
 | 0,hu=>simp[EC] at hu;subst hu;exact h0
 | 1,hu=>simp[EC] at hu;subst hu;exact h1
 | 2,hu=>simp[EC] at hu;subst hu;exact h2
 | 3,hu=>simp[EC] at hu;subst hu;exact h3
theorem zf2{w:World}{b off:Nat}{es:List Ent}(h:∀ i,i<es.length→EntAt w b (off+i*4) (nth es i)):∀ j u,(EV es)[j]? = some u→w.cell? ((⟨b,off,none⟩:Addr).add j)=some u:=by
 intro j u hu;obtain⟨h1,h2⟩:=EV_nth hu;have:=(h _ h1).cellAt h2;rw[Addr.add_lit];rw[show off+j / 4*4+j % 4=off+j by omega] at this;exact this
theorem zdd(ty:TypeId){w:World}{base:Nat}{v u:Value}{ys zs:List Ent}(hown:OwnE w base v ys)(hr:RdE w u zs)(hl:ys.length+zs.length≤1000000000)(hbase:base≤w.heap.size) :
 ∃ v' w',(Builtin.append_ #[31,31] ty #[v,u]).run Tryz.prog w=.ok v' w'∧OwnE w' base v' (ys++zs)∧w.grownBy w' v.ownBlock:=by
 obtain⟨i0,hi,hz0,hz1,hz2⟩:=info_parts Tryz.info94;obtain⟨a,cap,rfl,h1,h2,h0,h3⟩:=hr;have row:∀ ad news,news=EV zs→(∀ j u,news[j]? = some u→w.cell? (ad.add j)=some u)→∃ v' w',(Builtin.append_ #[31,31] ty #[v,.slice (some ad) zs.length cap]).run Tryz.prog w=.ok v' w'∧OwnE w' base v' (ys++zs)∧w.grownBy w' v.ownBlock:=by
  intro ad news hn hc;subst hn;obtain⟨v',w',hrun,r1,r2,_⟩:=run_append_own (P:=Tryz.prog) w base 31 ty 94 i0 _ 4 48 Tryz.underlying31 hi hz0 hz1 hz2 rfl (by decide) v ys.length (EV ys) hown ad zs.length cap (EV zs) (zan zs) hc (zis zs) (by unfold maxLen;omega) (by omega) hbase;exact⟨v',w',hrun,zp2 r1,r2⟩
 cases a with
 | some ad =>
  refine row ad (EV zs) rfl ?_;rcases h3 with rfl | ⟨b,off,ha,hc⟩
  ·intro j u hj;simp[EV] at hj
  ·cases ha;exact zf2 hc
 | none =>
  have hc0:=h0 rfl;subst hc0;rcases h3 with rfl | ⟨b,off,ha,hc⟩
  ·refine⟨v,w,run_append_owned_none (P:=Tryz.prog) w base 31 ty 94 i0 4 Tryz.underlying31 hi v ys.length (EV ys) hown,by simpa using hown,⟨rfl,rfl,rfl,Nat.le_refl _,fun _ _ _=>rfl⟩⟩
  ·cases ha
theorem zi{w:World}{ops:Array Oper}{rest:List Oper}{o:Oper}{a:Act}{Q:Exit→Act→World→Prop}(hgd:o.guard=none)(s x:Operand)
 (ho:o.op=.call { callee:=.builtin .append,args:=#[s,x],argTypes:=#[31,31] }) (base:Nat) (v u:Value) (ys zs:List Ent) (hs:a.eval s=v) (hx:a.eval x=u) (hown:OwnE w base v ys) (hr:RdE w u zs) (hl:ys.length+zs.length≤1000000000) (hbase:base≤w.heap.size)
 (h:∀ v' w',OwnE w' base v' (ys++zs)→w.grownBy w' v.ownBlock→wpList Tryz.prog ops Q rest (a.put o.dst v') w'):wpList Tryz.prog ops Q (o::rest) a w:=by
 refine wpList_plain hgd fun K hK=>?_
 obtain⟨v',w',hrun,r1,r2⟩:=zdd o.type hown hr hl hbase;unfold Oper.wp;simp[execOp,ho,resolve,invoke,builtin,hs,hx,hrun,Result.andThen];exact hK _ _ (h v' w' r1 r2)
theorem zI{w:World}{ops:Array Oper}{o:Oper}{a:Act}{K:Act→World→Prop}{Q:Exit→Act→World→Prop}{E:Prop}(hgd:o.guard=none)(d:Nat)(hd:o.dst=some d)(s x:Operand)
 (ho:o.op=.call { callee:=.builtin .append,args:=#[s,x],argTypes:=#[31,31] }) (base:Nat) (v u:Value) (ys zs:List Ent) (hs:a.eval s=v) (hx:a.eval x=u) (hown:OwnE w base v ys) (hr:RdE w u zs) (hl:ys.length+zs.length≤1000000000) (hbase:base≤w.heap.size)
 (h:∀ v' w',OwnE w' base v' (ys++zs)→w.grownBy w' v.ownBlock→K (a.put (some d) v') w') :
 if Region.wanted o (yielded ops a.tmps)=true then Oper.wp Tryz.prog o a w K Q else E:=by
 have hw:Region.wanted o (yielded ops a.tmps)=true:=by simp[Region.wanted,hgd]
 rw[if_pos hw];obtain⟨v',w',hrun,r1,r2⟩:=zdd o.type hown hr hl hbase;unfold Oper.wp;simp[execOp,ho,resolve,invoke,builtin,hs,hx,hrun,Result.andThen];have h':=h v' w' r1 r2;rw[← hd] at h';exact h'
def Fits(e:Ent):Prop:=e.key.size≤4503599627370496∧e.val.size≤4503599627370496∧-9223372036854775808≤e.seq∧e.seq≤9223372036854775807
open Go.RowKit
theorem zF{a b:Bool}(h:a=b):Ending.returned (.bool a)=.returned (.bool b):=by rw[h]
theorem zcT{k:IntKind}{a b:Int}(h:a=b):Ending.returned (.int k a)=.returned (.int k b):=by rw[h]
theorem za(w:World)(x:Obj):Below w.heap.size w (w.alloc x):=(Below.refl _ _).alloc (Nat.le_refl _) _
theorem zbp(w:World)(x y:Obj):Below w.heap.size w ((w.alloc x).alloc y):=(za w x).alloc (by simp) _
theorem bcell{W w1:World}(hb:Below W.heap.size W w1):(∀ b o,b<W.heap.size→w1.cell? ⟨b,o,none⟩=W.cell? ⟨b,o,none⟩)∧(∀ b o,b<W.heap.size→w1.frozen? ⟨b,o,none⟩=W.frozen? ⟨b,o,none⟩) :=
 ⟨fun b o h=>hb.cell (p:=⟨b,o,none⟩) h,fun b o h=>hb.frozen (p:=⟨b,o,none⟩) h⟩
theorem takeH{P:Program}{ops:Array Oper}{Q:Exit→Act→World→Prop}{md:Region.Mode}{S:World→Prop}{i d:Nat}{oi:Oper}{v:Value}{fuel:Nat}{listed:Array Bool}{a:Act}{w:World}(hi:ops[i]? = some oi)(hd:oi.dst=some d)
 (hs:Region.noSelect ops=true) (hf:Region.free md ops listed i=true) (hr:(Region.ready md ops listed).contains i=true)
 (hQ:∀ c a w,Q (.panic c) (a.put (some d) v) w→Q (.panic c) a w) (hy:YieldsIf P ops S oi v a) (hS:S w)
 (h:wpAnyH P md ops Q S fuel (listed.setIfInBounds i true) (a.put (some d) v) w):wpAnyH P md ops Q S (fuel+1) listed a w :=
 wpAnyH_take hi hs hf hr (by rw[hd];exact hQ) hy hS (by rw[hd];exact h)
theorem rdy(i:Nat){P:Program}{ops:Array Oper}{Q:Exit→Act→World→Prop}{md:Region.Mode}{S:World→Prop}{o:Oper}{fuel:Nat}{listed:Array Bool}{a:Act}{w:World}(h:∀ K':Act→World→Prop,Shut (∀ a w,S w→(S w→wpAnyH P md ops Q S fuel (listed.setIfInBounds i true) a w)→K' a w)→if Region.wanted o (yielded ops a.tmps)=true then Oper.wp P o a w K' Q else K' (a.put o.dst undef) w)(ho:ops[i]? = some o:=by rfl)(hr:Region.ready md ops listed=[i]:=by kernel_rfl):wpAnyH P md ops Q S (fuel+1) listed a w:=wpAnyH_ready hr (by simp) (AllReadyH.cons ho h AllReadyH.nil)
theorem dne{P:Program}{ops:Array Oper}{Q:Exit→Act→World→Prop}{md:Region.Mode}{S:World→Prop}{fuel:Nat}{listed:Array Bool}{a:Act}{w:World}(h:Q .normal a w)(hr:Region.ready md ops listed=[]:=by kernel_rfl):wpAnyH P md ops (NoPanic Q) S fuel listed a w:=wpAnyH_done hr (NoPanic.normal h) _
theorem tkG(i d:Nat){P:Program}{ops:Array Oper}{Q:Exit→Act→World→Prop}{md:Region.Mode}{S:World→Prop}{oi:Oper}{v:Value}{fuel:Nat}{listed:Array Bool}{a:Act}{w:World}(hS:S w)
 (h:wpAnyH P md ops (NoPanic Q) S fuel (listed.setIfInBounds i true) (a.put (some d) v) w) (hi:ops[i]? = some oi:=by rfl) (hd:oi.dst=some d:=by rfl)
 (hs:Region.noSelect ops=true:=by kernel_rfl) (hf:Region.free md ops listed i=true:=by kernel_rfl) (hr:(Region.ready md ops listed).contains i=true:=by kernel_rfl) (hw:Region.wanted oi (yielded ops a.tmps)=true:=by kernel_rfl)
 (hy:∀ w,S w→(execOp a.eval oi).run P w=.ok (.value v) w:=by intro w hS;(try dsimp only[Nat.zero_add] at hS);go_simp;(try with_reducible rfl)):wpAnyH P md ops (NoPanic Q) S (fuel+1) listed a w :=
 takeH hi hd hs hf hr (fun _ _ _ h=>h) (Or.inl ⟨hw,hy⟩) hS h
theorem kG(i d:Nat){P:Program}{ops:Array Oper}{Q:Exit→Act→World→Prop}{md:Region.Mode}{S:World→Prop}{oi:Oper}{v:Value}{fuel:Nat}{listed:Array Bool}{a a':Act}{w:World}(hS:S w)(h:wpAnyH P md ops (NoPanic Q) S fuel (listed.setIfInBounds i true) a' w)(hi:ops[i]? = some oi:=by rfl)(hd:oi.dst=some d:=by rfl)(hs:Region.noSelect ops=true:=by kernel_rfl)(hf:Region.free md ops listed i=true:=by kernel_rfl)(hr:(Region.ready md ops listed).contains i=true:=by kernel_rfl)(hw:Region.wanted oi (yielded ops a.tmps)=true:=by kernel_rfl)(hy:∀ w,S w→(execOp a.eval oi).run P w=.ok (.value v) w:=by intro w hS;(try dsimp only[Nat.zero_add] at hS);go_simp;(try with_reducible rfl))(ha:a.put (some d) v=a':=by (try simp only[Act.put,sA,sZ,sS]);(try rfl)):wpAnyH P md ops (NoPanic Q) S (fuel+1) listed a w:=takeH hi hd hs hf hr (fun _ _ _ h=>h) (Or.inl ⟨hw,hy⟩) hS (ha ▸ h)
theorem tkS(i d:Nat){P:Program}{ops:Array Oper}{Q:Exit→Act→World→Prop}{md:Region.Mode}{S:World→Prop}{oi:Oper}{fuel:Nat}{listed:Array Bool}{a:Act}{w:World}(hS:S w)
 (h:wpAnyH P md ops (NoPanic Q) S fuel (listed.setIfInBounds i true) (a.put (some d) undef) w) (hi:ops[i]? = some oi:=by rfl) (hd:oi.dst=some d:=by rfl)
 (hs:Region.noSelect ops=true:=by kernel_rfl) (hf:Region.free md ops listed i=true:=by kernel_rfl) (hr:(Region.ready md ops listed).contains i=true:=by kernel_rfl) (hw:Region.wanted oi (yielded ops a.tmps)=false:=by kernel_rfl):wpAnyH P md ops (NoPanic Q) S (fuel+1) listed a w :=
 takeH hi hd hs hf hr (fun _ _ _ h=>h) (Or.inr ⟨hw,rfl⟩) hS h
theorem kS(i d:Nat){P:Program}{ops:Array Oper}{Q:Exit→Act→World→Prop}{md:Region.Mode}{S:World→Prop}{oi:Oper}{fuel:Nat}{listed:Array Bool}{a a':Act}{w:World}(hS:S w)(h:wpAnyH P md ops (NoPanic Q) S fuel (listed.setIfInBounds i true) a' w)(hi:ops[i]? = some oi:=by rfl)(hd:oi.dst=some d:=by rfl)(hs:Region.noSelect ops=true:=by kernel_rfl)(hf:Region.free md ops listed i=true:=by kernel_rfl)(hr:(Region.ready md ops listed).contains i=true:=by kernel_rfl)(hw:Region.wanted oi (yielded ops a.tmps)=false:=by kernel_rfl)(ha:a.put (some d) undef=a':=by (try simp only[Act.put,sA,sZ,sS]);(try rfl)):wpAnyH P md ops (NoPanic Q) S (fuel+1) listed a w:=takeH hi hd hs hf hr (fun _ _ _ h=>h) (Or.inr ⟨hw,rfl⟩) hS (ha ▸ h)
theorem zg{w:World}{B t s n c j:Nat}{v u:Value}{xs:List Value}(ho:w.ownsRow B t s v n xs)(hc:∀ k,v.ownBlock=some k→c≠k):(w.setCell ⟨c,j,none⟩ u).ownsRow B t s v n xs :=
 zj ho (⟨rfl,rfl,rfl,by simp,fun k _ hk=>heap_setCell_other w ⟨c,j,none⟩ k u (fun e=>hk (by simp[e]))⟩:w.grownBy (w.setCell ⟨c,j,none⟩ u) (some c)) (fun k hk e=>hc k hk (Option.some.inj e))
theorem zh{w:World}{B1 B2 t1 t2 s1 s2 n1 n2:Nat}{v1 v2:Value}{xs ys:List Value}(h1:w.ownsRow B1 t1 s1 v1 n1 xs)(h2:w.ownsRow B2 t2 s2 v2 n2 ys)(ht:t1≠t2):∀ k,v1.ownBlock=some k→v2.ownBlock=some k→False:=by
 intro k hk1 hk2;rcases h1.2 with ⟨rfl,_⟩ | ⟨g,cap,cur,rfl,_,hg,_⟩
 ·simp[Value.ownBlock] at hk1
 ·rcases h2.2 with ⟨rfl,_⟩ | ⟨g2,cap2,cur2,rfl,_,hg2,_⟩
  ·simp[Value.ownBlock] at hk2
  ·obtain rfl:g=k:=by simpa [Value.ownBlock] using hk1
   obtain rfl:g2=g:=by simpa [Value.ownBlock] using hk2
   rw[hg] at hg2;injection hg2 with hg2
   injection hg2 with _ h3
   exact ht h3
def NilOk(v:Value):Prop:=∀ n c,v=.slice none n c→c=0
theorem zdw(ty:TypeId){w:World}{base:Nat}{v u:Value}{ys zs:List ByteArray}(hown:OwnS w base v ys)(hr:RdS w u zs)(hn:NilOk u)(hl:ys.length+zs.length≤1000000000)(hbase:base≤w.heap.size) :
 ∃ v' w',(Builtin.append_ #[96,96] ty #[v,u]).run Tryz.prog w=.ok v' w'∧OwnS w' base v' (ys++zs)∧w.grownBy w' v.ownBlock:=by
 obtain⟨i0,hi,hz0,hz1,hz2⟩:=info_parts Tryz.info9;obtain⟨a,cap,rfl,h1,h2,h3⟩:=hr;have more:∀ {w1:World} {v':Value},w1.ownsRow base 9 1 v' (ys.length+zs.length) (SV ys++SV zs)→OwnS w1 base v' (ys++zs):=fun h=>by unfold OwnS;rw[zoP,List.length_append];exact h
 have row:∀ ad,(∀ j u,(SV zs)[j]? = some u→w.cell? (ad.add j)=some u)→∃ v' w',(Builtin.append_ #[96,96] ty #[v,.slice (some ad) zs.length cap]).run Tryz.prog w=.ok v' w'∧OwnS w' base v' (ys++zs)∧w.grownBy w' v.ownBlock:=by
  intro ad hc;obtain⟨v',w',hrun,r1,r2,_⟩:=run_append_own (P:=Tryz.prog) w base 96 ty 9 i0 _ 1 16 Tryz.underlying96 hi hz0 hz1 hz2 rfl (by decide) v ys.length (SV ys) hown ad zs.length cap (SV zs) (by rw[zj9];omega) hc (fun u hu=>by obtain⟨_,_,rfl⟩:=List.mem_map.1 hu;rfl) (by unfold maxLen;omega) (by omega) hbase;exact⟨v',w',hrun,more r1,r2⟩
 cases a with
 | some ad =>
  refine row ad ?_;rcases h3 with rfl | ⟨b,off,ha,hc⟩
  ·intro j u hj;simp[SV] at hj
  ·cases ha
   intro j u hj;have hjl:j<zs.length:=by have:=(List.getElem?_eq_some_iff.1 hj).1;rwa [zj9] at this
   rw[zpX zs j hjl] at hj;cases hj
   rw[Addr.add_lit];exact hc j hjl
 | none =>
  have hc0:=hn _ _ rfl;subst hc0;rcases h3 with rfl | ⟨b,off,ha,hc⟩
  ·refine⟨v,w,run_append_owned_none (P:=Tryz.prog) w base 96 ty 9 i0 1 Tryz.underlying96 hi v ys.length (SV ys) hown,by simpa using hown,⟨rfl,rfl,rfl,Nat.le_refl _,fun _ _ _=>rfl⟩⟩
  ·cases ha
theorem zO{w:World}{ops:Array Oper}{rest:List Oper}{o:Oper}{a:Act}{Q:Exit→Act→World→Prop}(hgd:o.guard=none)(s x:Operand)
 (ho:o.op=.call { callee:=.builtin .append,args:=#[s,x],argTypes:=#[96,96] }) (base:Nat) (v u:Value) (ys zs:List ByteArray) (hs:a.eval s=v) (hx:a.eval x=u) (hown:OwnS w base v ys) (hr:RdS w u zs) (hn:NilOk u) (hl:ys.length+zs.length≤1000000000) (hbase:base≤w.heap.size)
 (h:∀ v' w',OwnS w' base v' (ys++zs)→w.grownBy w' v.ownBlock→wpList Tryz.prog ops Q rest (a.put o.dst v') w'):wpList Tryz.prog ops Q (o::rest) a w:=by
 refine wpList_plain hgd fun K hK=>?_
 obtain⟨v',w',hrun,r1,r2⟩:=zdw o.type hown hr hn hl hbase;unfold Oper.wp;simp[execOp,ho,resolve,invoke,builtin,hs,hx,hrun,Result.andThen];exact hK _ _ (h v' w' r1 r2)
theorem zgd{w:World}{ops:Array Oper}{o:Oper}{a:Act}{K:Act→World→Prop}{Q:Exit→Act→World→Prop}{E:Prop}(hgd:o.guard=none)(d:Nat)(hd:o.dst=some d)(s x:Operand)
 (ho:o.op=.call { callee:=.builtin .append,args:=#[s,x],argTypes:=#[96,96] }) (base:Nat) (v u:Value) (ys zs:List ByteArray) (hs:a.eval s=v) (hx:a.eval x=u) (hown:OwnS w base v ys) (hr:RdS w u zs) (hn:NilOk u) (hl:ys.length+zs.length≤1000000000) (hbase:base≤w.heap.size)
 (h:∀ v' w',OwnS w' base v' (ys++zs)→w.grownBy w' v.ownBlock→K (a.put (some d) v') w') :
 if Region.wanted o (yielded ops a.tmps)=true then Oper.wp Tryz.prog o a w K Q else E:=by
 have hw:Region.wanted o (yielded ops a.tmps)=true:=by simp[Region.wanted,hgd]
 rw[if_pos hw];obtain⟨v',w',hrun,r1,r2⟩:=zdw o.type hown hr hn hl hbase;unfold Oper.wp;simp[execOp,ho,resolve,invoke,builtin,hs,hx,hrun,Result.andThen];have h':=h v' w' r1 r2;rw[← hd] at h';exact h'
theorem za7{w:World}{ops:Array Oper}{o:Oper}{a:Act}{K:Act→World→Prop}{Q:Exit→Act→World→Prop}{E:Prop}(hgd:o.guard=none)(d:Nat)(hd:o.dst=some d)(e:TypeId)(s:Nat)
 (hrun:(execOp a.eval o).run Tryz.prog w=.ok (.value (.slice (some ⟨w.heap.size,0,none⟩) 0 0)) (w.alloc (.cells #[] e)))
 (h:∀ b W',Below w.heap.size w W'→W'.ownsRow w.heap.size e s (.slice (some ⟨b,0,none⟩) 0 0) 0 []→w.heap.size≤b→b<W'.heap.size→K (a.put (some d) (.slice (some ⟨b,0,none⟩) 0 0)) W') :
 if Region.wanted o (yielded ops a.tmps)=true then Oper.wp Tryz.prog o a w K Q else E:=by
 have hw:Region.wanted o (yielded ops a.tmps)=true:=by simp[Region.wanted,hgd]
 rw[if_pos hw];have h':=h w.heap.size _ (za w (.cells #[] e)) (World.ownsRow_lit w #[] 0 (Nat.le_refl _) (Nat.zero_le _) (by simp)) (Nat.le_refl _) (by simp);rw[← hd] at h';unfold Oper.wp;rw[hrun];exact h'
theorem zas{w:World}{B t s n c j:Nat}{v u:Value}{xs:List Value}(ho:w.ownsRow B t s v n xs)(hc:c<B):(w.setCell ⟨c,j,none⟩ u).ownsRow B t s v n xs:=zg ho (fun k hk e=>by have:=(World.ownsRow.lt ho k hk).1;omega)
def oneB(v:Value):List Nat:=v.ownBlock.toList
theorem mem_oneB{v:Value}{k:Nat}:k∈oneB v↔v.ownBlock=some k:=by
 unfold oneB;rw[Option.mem_toList]
structure Touch (bs:List Nat) (w w':World):Prop where
 os:w'.os=w.os
 tape:w'.tape=w.tape
 output:w'.output=w.output
 size:w.heap.size≤w'.heap.size
 block:∀ k,k<w.heap.size→k ∉ bs→w'.heap[k]? = w.heap[k]?
theorem Touch.refl(bs:List Nat)(w:World):Touch bs w w:=⟨rfl,rfl,rfl,Nat.le_refl _,fun _ _ _=>rfl⟩
theorem Touch.of_below{bs:List Nat}{w w':World}(h:Below w.heap.size w w'):Touch bs w w':=⟨h.os,h.tape,h.output,h.size,fun k hk _=>h.block k hk⟩
theorem Touch.of_grown{bs:List Nat}{w w':World}{row:Option Nat}(h:w.grownBy w' row)(hr:∀ k,row=some k→k∈bs):Touch bs w w':=⟨h.os,h.tape,h.output,h.size,fun k hk hn=>h.block k hk (fun e=>hn (hr k e.symm))⟩
theorem Touch.set{bs:List Nat}{w:World}{g j:Nat}{u:Value}(hg:g∈bs):Touch bs w (w.setCell ⟨g,j,none⟩ u):=⟨rfl,rfl,rfl,by simp,fun k _ hn=>heap_setCell_other w ⟨g,j,none⟩ k u (fun e=>hn (by rw[e];exact hg))⟩
theorem Touch.trans{bs:List Nat}{a b c:World}(h:Touch bs a b)(k:Touch bs b c):Touch bs a c:=⟨k.os.trans h.os,k.tape.trans h.tape,k.output.trans h.output,Nat.le_trans h.size k.size,fun i hi hn=>(k.block i (Nat.lt_of_lt_of_le hi h.size) hn).trans (h.block i hi hn)⟩
theorem Touch.more{bs cs:List Nat}{w w':World}(h:Touch bs w w')(hs:∀ k∈bs,k∈cs):Touch cs w w':=⟨h.os,h.tape,h.output,h.size,fun k hk hn=>h.block k hk (fun e=>hn (hs k e))⟩
theorem Touch.row{bs:List Nat}{w w':World}{B t s n:Nat}{v:Value}{xs:List Value}(h:Touch bs w w')(ho:w.ownsRow B t s v n xs)(hn:∀ k,v.ownBlock=some k→k ∉ bs):w'.ownsRow B t s v n xs:=by
 refine⟨ho.1,?_⟩;rcases ho.2 with h2 | ⟨g,cap,cur,hv,hg,hh,r⟩
 ·exact .inl h2
 ·have hgo:v.ownBlock=some g:=by rw[hv];rfl
  exact .inr ⟨g,cap,cur,hv,hg,(h.block g (World.ownsRow.lt ho g hgo).2 (hn g hgo)).trans hh,r⟩
theorem Touch.below{bs:List Nat}{a w w':World}(h:Touch bs w w')(hb:Below a.heap.size a w)(hn:∀ k∈bs,a.heap.size≤k):Below a.heap.size a w' :=
 ⟨h.os.trans hb.os,h.tape.trans hb.tape,h.output.trans hb.output,Nat.le_trans hb.size h.size,fun k hk=>(h.block k (Nat.lt_of_lt_of_le hk hb.size) (fun e=>by have:=hn k e;omega)).trans (hb.block k hk)⟩
theorem zdc{w:World}{B t z n:Nat}{v:Value}{xs:List Value}(h:w.ownsRow B t z v n xs):NilOk v:=by
 intro m c e;rcases h.2 with ⟨hv,_⟩ | ⟨g,cap,cur,hv,_⟩
 ·rw[hv] at e;cases e;rfl
 ·rw[hv] at e;cases e
open Go.RowKit
theorem zcb(a b:ByteArray):(a.toList==b.toList)=kEq a b:=by
 rw[Bool.eq_iff_iff,beq_iff_eq];unfold kEq;rw[decide_eq_true_eq];exact⟨zbu,fun h=>by rw[h]⟩
theorem ahd_w1{a b:Ent}(h:Op.bytesLess a.key.toList b.key.toList=true):true=ahd a b:=by
 have:kLt a.key b.key=true:=h;simp[ahd,this]
theorem ahd_w2{a b:Ent}(_h:¬ Op.bytesLess a.key.toList b.key.toList=true)(h2:a.key.toList=b.key.toList):decide (b.seq<a.seq)=ahd a b:=by
 have h3:=zbu h2;simp[ahd,h3,zW,kEq]
theorem ahd_w3{a b:Ent}(h:¬ Op.bytesLess a.key.toList b.key.toList=true)(h2:¬ a.key.toList=b.key.toList):false=ahd a b:=by
 have h3:a.key≠b.key:=fun e=>h2 (by rw[e])
 have h4:kLt a.key b.key=false:=by simpa [kLt] using h
 simp[ahd,h3,h4,kEq]
theorem zaY(a b:Ent)(w:World) :
 Calls Tryz.prog 137 #[.agg #[.string a.key,.string a.val,.int .i64 a.seq,.bool a.gone],.agg #[.string b.key,.string b.val,.int .i64 b.seq,.bool b.gone]] w fun e w'=>e=.returned (.bool (ahd a b))∧Below w.heap.size w w':=by
 go_enter Tryz.func137,Tryz.ntmps137
 go_wp2;all_goals go_ret
 ·exact⟨zF (ahd_w1 ‹_›),zbp _ _ _⟩
 ·exact⟨zF (ahd_w2 ‹_› ‹_›),zbp _ _ _⟩
 ·exact⟨zF (ahd_w3 ‹_› ‹_›),zbp _ _ _⟩
theorem l1In_any(x lo hi:Int)(w:World) :
 Calls Tryz.prog 31 #[.int .i64 x,.int .i64 lo,.int .i64 hi] w fun e w'=>e=.returned (.bool (decide (lo≤x)&&decide (x≤hi)))∧w'=w:=by
 go_enter Tryz.func31,Tryz.ntmps31
 go_wp2;all_goals go_ret
 ·exact⟨by simp_all,rfl⟩
 ·exact⟨zF (by rw[Bool.eq_iff_iff];simp;omega),rfl⟩
theorem zjT(s:ByteArray):s.toList=[]↔s.size=0:=by
 rw[ByteArray.toList_eq,List.eq_nil_iff_length_eq_zero,Array.length_toList];exact Iff.rfl
theorem zoN(a:Ent):okE a=true↔1≤(a.key.size:Int)∧(a.key.size:Int)≤40∧(a.val.size:Int)≤200∧(a.gone=true→a.val.size=0)∧1≤a.seq∧a.seq≤1000000:=by
 simp only[okE,Bool.and_eq_true,Bool.or_eq_true,Bool.not_eq_true',decide_eq_true_eq];generalize a.val.size=v;generalize a.key.size=k;cases a.gone<;>simp<;>omega
theorem zej(a:Ent)(w:World)(hf:Fits a) :
 Calls Tryz.prog 144 #[.agg #[.string a.key,.string a.val,.int .i64 a.seq,.bool a.gone]] w fun e w'=>e=.returned (.bool (okE a))∧Below w.heap.size w w':=by
 obtain⟨f1,f2,f3,f4⟩:=hf;go_enter Tryz.func144,Tryz.ntmps144
 go_wp2_with (go_at_call 31;refine(l1In_any _ _ _ _).mono ?_;rintro e w' ⟨rfl,rfl⟩)
 all_goals go_ret
 all_goals refine⟨zF ?_,za _ _⟩
 all_goals rw[Bool.eq_iff_iff,zoN]
 all_goals simp_all [zjT]
 all_goals omega
theorem zei(a:Ent)(w:World)(hf:Fits a) :
 Calls Tryz.prog 125 #[.agg #[.string a.key,.string a.val,.int .i64 a.seq,.bool a.gone]] w fun e w'=>e=.returned (.bool (okE a))∧Below w.heap.size w w':=by
 obtain⟨f1,f2,f3,f4⟩:=hf;go_enter Tryz.func125,Tryz.ntmps125
 go_wp2;all_goals go_ret
 all_goals refine⟨zF ?_,za _ _⟩
 all_goals rw[Bool.eq_iff_iff,zoN]
 all_goals simp_all [zjT]
 all_goals omega
theorem cmpK_w1{a b:ByteArray}(h:Op.bytesLess a.toList b.toList=true) : -1=cmpK a b:=by
 have:kLt a b=true:=h;simp[cmpK,this]
theorem cmpK_w2{a b:ByteArray}(h:Op.bytesLess a.toList b.toList=false)(h2:¬ a.toList=b.toList):1=cmpK a b:=by
 have h3:kLt a b=false:=h;have h4:kLt b a=true:=by
  cases h5:kLt b a with
  | true=>rfl
  | false=>exact absurd (congrArg ByteArray.toList (zk5 h3 h5)) h2
 simp[cmpK,h3,h4]
theorem cmpK_w3{a b:ByteArray}(h2:a.toList=b.toList):0=cmpK a b:=by
 have:=zbu h2;subst this;simp[cmpK,zW]
theorem znQ(s:ByteArray)(w:World):Calls Tryz.prog 242 #[.string s] w fun e w'=>e=.returned (.bool false)∧w'=w:=by
 go_enter Tryz.func242,Tryz.ntmps242
 go_wp2;go_ret;exact⟨by simp,rfl⟩
theorem znw(s:Int)(w:World):Calls Tryz.prog 243 #[.int .i64 s] w fun e w'=>e=.returned (.bool false)∧w'=w:=by
 go_enter Tryz.func243,Tryz.ntmps243
 go_wp2;go_ret;exact⟨by simp,rfl⟩
theorem zn1(a b:ByteArray)(w:World):Calls Tryz.prog 225 #[.string a,.string b] w fun e w'=>e=.returned (.int .i64 (cmpK a b))∧w'=w:=by
 go_enter Tryz.func225,Tryz.ntmps225
 go_wp2_with (go_at_call 242;refine(znQ _ _).mono ?_;rintro e w' ⟨rfl,rfl⟩)
 all_goals go_ret
 ·exact⟨zcT (cmpK_w1 ‹_›),rfl⟩
 ·exact⟨zcT (cmpK_w2 ‹_› (by simp_all)),rfl⟩
 ·exact⟨zcT (cmpK_w3 (by simp_all)),rfl⟩
theorem zon(a b:Int)(w:World):Calls Tryz.prog 226 #[.int .i64 a,.int .i64 b] w fun e w'=>e=.returned (.int .i64 (cmpI a b))∧w'=w:=by
 go_enter Tryz.func226,Tryz.ntmps226
 go_wp2_with (go_at_call 243;refine(znw _ _).mono ?_;rintro e w' ⟨rfl,rfl⟩)
 all_goals go_ret
 all_goals exact⟨zcT (by unfold cmpI;first | rw[if_pos ‹_›] | (rw[if_neg (by omega)];first | rw[if_pos ‹_›] | rw[if_neg (by omega)])),rfl⟩
theorem zpt(a b:ByteArray) : -1≤cmpK a b∧cmpK a b≤1:=by unfold cmpK;split<;>(try split)<;>omega
theorem zlH(a b:Int) : -1≤cmpI a b∧cmpI a b≤1:=by unfold cmpI;split<;>(try split)<;>omega
theorem or_any(x y:Int)(b:Nat)(w:World)(h0:w.cell? ⟨b,0,none⟩=some (.int .i64 x))(h1:w.cell? ⟨b,1,none⟩=some (.int .i64 y))(bx : -1≤x∧x≤1)(hy1 : -1≤y∧y≤1) :
 Calls Tryz.prog 224 #[.slice (some ⟨b,0,none⟩) 2 2] w fun e w'=>e=.returned (.int .i64 (if x≠0 then x else y))∧w'=w:=by
 by_cases hx:x=0
 ·have hy':(if x≠0 then x else y)=y:=by simp[hx]
  rw[hy'];clear hy';subst hx;by_cases hy:y=0
  ·subst hy;go_enter Tryz.func224,Tryz.ntmps224
   go_wp2;refine wp_loop_rounds 3 ?_;rw[rounds_succ];go_wp2;rw[rounds_succ];go_wp2;rw[rounds_succ];go_wp2;go_ret;exact⟨rfl,rfl⟩
  ·have hy2:(y != 0)=true:=by simpa using hy
   go_enter Tryz.func224,Tryz.ntmps224
   go_wp2;refine wp_loop_rounds 3 ?_;rw[rounds_succ];go_wp2;rw[rounds_succ];go_wp2;go_ret;exact⟨rfl,rfl⟩
 ·have hx':(if x≠0 then x else y)=x:=by simp[hx]
  rw[hx'];clear hx';have hx2:(x != 0)=true:=by simpa using hx
  go_enter Tryz.func224,Tryz.ntmps224
  go_wp2;refine wp_loop_rounds 3 ?_;rw[rounds_succ];go_wp2;go_ret;exact⟨rfl,rfl⟩
open Go.RowKit
theorem tkA(i d:Nat){P:Program}{ops:Array Oper}{Q:Exit→Act→World→Prop}{md:Region.Mode}{S:World→Prop}{oi:Oper}{v:Value}{fuel:Nat}{listed:Array Bool}{a:Act}{w:World}(hS:S w)
 (h:wpAnyH P md ops (NoPanic Q) S fuel (listed.setIfInBounds i true) (a.put (some d) v) w) (hi:ops[i]? = some oi:=by rfl) (hd:oi.dst=some d:=by rfl)
 (hs:Region.noSelect ops=true:=by kernel_rfl) (hf:Region.free md ops listed i=true:=by kernel_rfl) (hr:(Region.ready md ops listed).contains i=true:=by kernel_rfl) (hw:Region.wanted oi (yielded ops a.tmps)=true:=by kernel_rfl)
 (hy:∀ w,S w→(execOp a.eval oi).run P w=.ok (.value v) w:=by intro w hS;(try dsimp only[EntAt,Nat.zero_add] at hS);go_simp;(try with_reducible rfl)):wpAnyH P md ops (NoPanic Q) S (fuel+1) listed a w :=
 takeH hi hd hs hf hr (fun _ _ _ h=>h) (Or.inl ⟨hw,hy⟩) hS h
theorem kA(i d:Nat){P:Program}{ops:Array Oper}{Q:Exit→Act→World→Prop}{md:Region.Mode}{S:World→Prop}{oi:Oper}{v:Value}{fuel:Nat}{listed:Array Bool}{a a':Act}{w:World}(hS:S w)(h:wpAnyH P md ops (NoPanic Q) S fuel (listed.setIfInBounds i true) a' w)(hi:ops[i]? = some oi:=by rfl)(hd:oi.dst=some d:=by rfl)(hs:Region.noSelect ops=true:=by kernel_rfl)(hf:Region.free md ops listed i=true:=by kernel_rfl)(hr:(Region.ready md ops listed).contains i=true:=by kernel_rfl)(hw:Region.wanted oi (yielded ops a.tmps)=true:=by kernel_rfl)(hy:∀ w,S w→(execOp a.eval oi).run P w=.ok (.value v) w:=by intro w hS;(try dsimp only[EntAt,Nat.zero_add] at hS);go_simp;(try with_reducible rfl))(ha:a.put (some d) v=a':=by (try simp only[Act.put,sA,sZ,sS]);(try rfl)):wpAnyH P md ops (NoPanic Q) S (fuel+1) listed a w:=takeH hi hd hs hf hr (fun _ _ _ h=>h) (Or.inl ⟨hw,hy⟩) hS (ha ▸ h)
theorem zgB(a:Ent)(w:World)(hf:Fits a)(h:okE a=true) :
 Calls Tryz.prog 144 #[.agg #[.string a.key,.string a.val,.int .i64 a.seq,.bool a.gone]] w fun e w'=>e=.returned (.bool true)∧Below w.heap.size w w':=by
 have:=zej a w hf;rwa [h] at this
theorem znF(a:Ent)(w:World)(hf:Fits a)(h:okE a=false) :
 Calls Tryz.prog 144 #[.agg #[.string a.key,.string a.val,.int .i64 a.seq,.bool a.gone]] w fun e w'=>e=.returned (.bool false)∧Below w.heap.size w w':=by
 have:=zej a w hf;rwa [h] at this
theorem zbc(v:Value)(es:List Ent)(w:World)(hr:RdE w v es)(hf:∀ e∈es,Fits e) :
 Calls Tryz.prog 101 #[v] w fun e w'=>e=.returned (.bool (okL es))∧Below w.heap.size w w':=by
 obtain⟨a,cap,hv,hl,hm,_⟩:=id hr;unfold maxLen at hm;subst hv;have HF:Hid (∀ e∈es,Fits e):=hf;clear hf;by_cases hbig:300<es.length
 ·go_enter Tryz.func101,Tryz.ntmps101
  go_wp2;go_ret;exact⟨zF (by simp[okL];omega),Below.refl _ _⟩
 ·go_enter Tryz.func101,Tryz.ntmps101
  go_wp2;go_loopw [3] (fun i wr=>∃ k:Nat,k≤es.length∧i=.int .i64 k∧Hid (okTo es k=true)∧Below w.heap.size w wr) (fun i _=>es.length-(intOf i).toNat)
  case atStart=>exact⟨0,Nat.zero_le _,rfl,rfl,Below.refl _ _⟩
  case round =>
   obtain⟨k,hk,rfl,HO,hb⟩:=hrel;by_cases hlt:k<es.length
   ·obtain⟨b,off,rfl,hc⟩:=hr.at rfl k hlt;have hc2:=hc.below hb;have hlt2:=hc2.lt;obtain⟨c0,c1,c2,c3⟩:=hc2;have hfk:=HF.out _ (List.getElem_mem hlt);rw[← zE hlt] at hfk;obtain⟨x,hx⟩:∃ x,x=nth es k:=⟨_,rfl⟩;rw[← hx] at c0 c1 c2 c3 hfk;have HX:Hid (x=nth es k):=hx;clear hx hc;cases hok:okE x with
    | false =>
     have RES:Hid (okL es=false):=zeB hlt (by unfold okAt;rw[← HX.out,hok];rfl);go_wp2_with fail
     refine wp_region_noPanic ?_;refine wp_region_held_drew (S:=fun w'=>EntAt w' b (off+k*4) x) (by kernel_rfl) ⟨c0,c1,c2,c3⟩ (fun hH=>?_);refine kA 0 13 hH ?_;refine kA 1 14 hH ?_;refine kA 2 15 hH ?_;refine kA 3 16 hH ?_;refine rdy 4 (fun K hK=>?_);go_simp;refine(znF x _ hfk hok).mono ?_;rintro e w' ⟨rfl,hb'⟩;refine hK.out _ _ (hH.below hb') (fun hA=>?_);clear hK K;try simp only[Act.put,sA,sZ,sS]
     refine kA 5 18 hA ?_;refine kA 6 19 hA ?_;refine kS 7 20 hA ?_;refine kS 8 21 hA ?_;refine kS 9 22 hA ?_;refine kS 10 23 hA ?_;refine kS 11 24 hA ?_;refine kS 12 25 hA ?_;refine kS 13 26 hA ?_;refine kS 14 27 hA ?_;refine kS 15 28 hA ?_;refine kS 16 29 hA ?_;refine kS 17 30 hA ?_;refine kS 18 31 hA ?_;refine kS 19 32 hA ?_;refine kS 20 33 hA ?_;refine kS 21 34 hA ?_;refine kA 22 35 hA ?_;refine dne ?_;go_wp2;go_ret;exact⟨zF RES.out.symm,hb.drew.trans (hb'.mono hb.size)⟩
    | true =>
     by_cases hk0:k=0
     ·skip
      have HO2:Hid (okTo es (k+1)=true):=by
       show _=_;rw[zeX,HO.out];unfold okAt;rw[← HX.out,hok];simp[hk0]
      have hkn:decide (0<k)=false:=by simpa using hk0
      clear hk0;go_wp2_with fail
      refine wp_region_noPanic ?_;refine wp_region_held_drew (S:=fun w'=>EntAt w' b (off+k*4) x) (by kernel_rfl) ⟨c0,c1,c2,c3⟩ (fun hH=>?_);refine kA 0 13 hH ?_;refine kA 1 14 hH ?_;refine kA 2 15 hH ?_;refine kA 3 16 hH ?_;refine rdy 4 (fun K hK=>?_);go_simp;refine(zgB x _ hfk hok).mono ?_;rintro e w' ⟨rfl,hb'⟩;refine hK.out _ _ (hH.below hb') (fun hA=>?_);clear hK K;try simp only[Act.put,sA,sZ,sS]
      refine kA 5 18 hA ?_;refine kA 6 19 hA ?_;refine kA 7 20 hA ?_;refine kA 8 21 hA ?_;refine kA 9 22 hA ?_;refine kS 10 23 hA ?_;refine kS 11 24 hA ?_;refine kS 12 25 hA ?_;refine kS 13 26 hA ?_;refine kS 14 27 hA ?_;refine kS 15 28 hA ?_;refine kS 16 29 hA ?_;refine kS 17 30 hA ?_;refine kS 18 31 hA ?_;refine kS 19 32 hA ?_;refine kS 20 33 hA ?_;refine kA 21 34 hA ?_;refine kA 22 35 hA ?_;refine dne ?_;go_wp2;go_roundw
      case rel=>exact⟨k+1,by omega,by go_num,HO2,hb.drew.trans (hb'.mono hb.size)⟩
      case measure=>simp[intOf];omega
     ·skip
      obtain⟨b2,off2,ha2,hd⟩:=hr.at rfl (k-1) (by omega);simp only[Option.some.injEq,Addr.mk.injEq] at ha2;obtain⟨rfl,rfl,_⟩:=ha2;have hd2:=hd.below hb;obtain⟨d0,d1,d2,d3⟩:=hd2;obtain⟨y,hy⟩:∃ y,y=nth es (k-1):=⟨_,rfl⟩;rw[← hy] at d0 d1 d2 d3;have HY:Hid (y=nth es (k-1)):=hy;clear hy hd;obtain⟨j,hj⟩:∃ j,j=k-1:=⟨k-1,rfl⟩;rw[← hj] at d0 d1 d2 d3;have HJ:Hid (j=k-1):=hj;have hkj:(k:Int)-1=(j:Int):=by omega
      have hkp:decide (0<k)=true:=by simp;omega
      have hbn:b<wr.drew.heap.size:=hlt2;have hj1:(j:Int)<(es.length:Int):=by omega
      have hj0:(0:Int)≤(j:Int):=by omega
      have hjn:j<es.length:=by omega
      have hwr:IntKind.i64.wrap (j:Int)=(j:Int):=by rw[IntKind.wrap_i64];omega
      have hk1:(k:Int)<(es.length:Int):=by omega
      clear hj hk0;go_wp2_with fail
      go_region_held3 (fun w'=>w'.cell? ⟨b,off+k*4,none⟩=some (.string x.key)∧w'.cell? ⟨b,off+k*4+1,none⟩=some (.string x.val)∧w'.cell? ⟨b,off+k*4+2,none⟩=some (.int .i64 x.seq)∧w'.cell? ⟨b,off+k*4+3,none⟩=some (.bool x.gone) ∧
       w'.cell? ⟨b,off+j*4,none⟩=some (.string y.key)∧w'.cell? ⟨b,off+j*4+1,none⟩=some (.string y.val)∧w'.cell? ⟨b,off+j*4+2,none⟩=some (.int .i64 y.seq)∧w'.cell? ⟨b,off+j*4+3,none⟩=some (.bool y.gone)) (go_keep)
       (first
        | (go_at_call 144;refine(zgB x _ hfk hok).mono ?_;rintro e w1 ⟨rfl,hb1⟩;have hcc1:∀ o,w1.cell? ⟨b,o,none⟩=wr.cell? ⟨b,o,none⟩:=fun o=>(bcell hb1).1 b o (by simpa using hlt2);have hz1:b<w1.heap.size:=by have:=hb1.size;simp at this;omega)
        | (go_at_call 137;refine(zaY y x _).mono ?_;rintro e w2 ⟨rfl,hb2⟩;have hcc2:∀ o,w2.cell? ⟨b,o,none⟩=wr.cell? ⟨b,o,none⟩:=fun o=>((bcell hb2).1 b o hz1).trans (hcc1 o)))
      have bz:=(hb.drew.trans (hb1.mono hb.size)).trans (hb2.mono (by have:=hb.size;have:=hb1.size;simp at this;omega));cases hah:ahd y x with
      | false =>
       have RES:Hid (okL es=false):=zeB hlt (by unfold okAt;rw[← HX.out,← HY.out,hok,hah];simp;omega);go_wp2;go_ret;exact⟨zF RES.out.symm,bz⟩
      | true =>
       have HO2:Hid (okTo es (k+1)=true):=by
        show _=_;rw[zeX,HO.out];unfold okAt;rw[← HX.out,← HY.out,hok,hah];simp
       go_wp2;go_roundw
       case rel=>exact⟨k+1,by omega,by go_num,HO2,bz⟩
       case measure=>simp[intOf];omega
   ·have hke:k=es.length:=by omega
    subst hke;go_wp2;go_ret;exact⟨zF (by simp[okL,HO.out];omega),hb⟩
open Go.RowKit
def zd5(w:World)(o:Option Ent)(e:Ending)(w':World):Prop :=
 e=.returned (.tuple #[.agg #[.string (o.getD zeroE).key,.string (o.getD zeroE).val,.int .i64 (o.getD zeroE).seq,.bool (o.getD zeroE).gone],.bool o.isSome])∧Below w.heap.size w w'
theorem zex{w w':World}{o:Option Ent}{x:Ent}(ho:o=some x)(hb:Below w.heap.size w w'):zd5 w o (.returned (.tuple #[.agg #[.string x.key,.string x.val,.int .i64 x.seq,.bool x.gone],.bool true])) w':=by
 subst ho;exact⟨rfl,hb⟩
theorem zcU{w w':World}{o:Option Ent}(ho:o=none)(hb:Below w.heap.size w w'):zd5 w o (.returned (.tuple #[.agg #[.string ⟨#[]⟩,.string ⟨#[]⟩,.int .i64 0,.bool false],.bool false])) w':=by
 subst ho;exact⟨rfl,hb⟩
theorem znR(v:Value)(es:List Ent)(key:ByteArray)(q:Int)(w:World)(hr:RdE w v es) :
 Calls Tryz.prog 186 #[v,.string key,.int .i64 q] w fun e w'=>zd5 w (seenL es key q) e w':=by
 obtain⟨a,cap,hv,hl,hm,_⟩:=id hr;unfold maxLen at hm;subst hv;go_enter Tryz.func186,Tryz.ntmps186
 go_wp2;go_loop [8] (fun i=>∃ k:Nat,k≤es.length∧i=.int .i64 k∧Hid (∀ j,j<k→seenP key q (nth es j)=false)) (fun i=>es.length-(intOf i).toNat)
 case atStart=>exact⟨0,Nat.zero_le _,rfl,fun j hj=>absurd hj (Nat.not_lt_zero _)⟩
 case round =>
  obtain⟨k,hk,rfl,HO⟩:=hrel;by_cases hlt:k<es.length
  ·obtain⟨b,off,rfl,hc⟩:=hr.at rfl k hlt;have hlt2:=hc.lt;obtain⟨c0,c1,c2,c3⟩:=hc;obtain⟨x,hx⟩:∃ x,x=nth es k:=⟨_,rfl⟩;rw[← hx] at c0 c1 c2 c3;have HX:Hid (x=nth es k):=hx;clear hx;have KB:=zcb x.key key;cases hke:kEq x.key key with
   | false =>
    rw[hke] at KB;have HO2:Hid (∀ j,j<k+1→seenP key q (nth es j)=false):=by
     intro j hj;by_cases hjk:j=k
     ·subst hjk;rw[← HX.out];simp[seenP,hke]
     ·exact HO.out j (by omega)
    go_wp2;go_round
    case rel=>exact⟨k+1,by omega,by go_num,HO2⟩
    case measure=>simp[intOf];omega
   | true =>
    rw[hke] at KB;by_cases hq:x.seq≤q
    ·have RES:Hid (seenL es key q=some x):=by
      show _=_;rw[zfm es key q k hlt HO.out (by rw[← HX.out];simp[seenP,hke,hq]),← HX.out]
     go_wp2;exact bodyPost_ret (v:=.tuple #[.agg #[.string x.key,.string x.val,.int .i64 x.seq,.bool x.gone],.bool true]) (by simp[results,Tryz.results186,go_sem]) rfl (zex RES.out (za _ _))
    ·have HO2:Hid (∀ j,j<k+1→seenP key q (nth es j)=false):=by
      intro j hj;by_cases hjk:j=k
      ·subst hjk;rw[← HX.out];simp[seenP,hq]
      ·exact HO.out j (by omega)
     go_wp2;go_round
     case rel=>exact⟨k+1,by omega,by go_num,HO2⟩
     case measure=>simp[intOf];omega
  ·have hke:k=es.length:=by omega
   subst hke;have RES:Hid (seenL es key q=none):=zih es key q HO.out;go_wp2;exact bodyPost_ret (v:=.tuple #[.agg #[.string ⟨#[]⟩,.string ⟨#[]⟩,.int .i64 0,.bool false],.bool false]) (by simp[results,Tryz.results186,go_sem]) rfl (zcU RES.out (za _ _))
theorem znP(v:Value)(es:List Ent)(w:World)(hr:RdE w v es)(hf:∀ e∈es,Fits e)(h:okL es=true) :
 Calls Tryz.prog 101 #[v] w fun e w'=>e=.returned (.bool true)∧Below w.heap.size w w':=by
 have:=zbc v es w hr hf;rwa [h] at this
theorem zqS(v:Value)(es:List Ent)(w:World)(hr:RdE w v es)(hf:∀ e∈es,Fits e)(h:okL es=false) :
 Calls Tryz.prog 101 #[v] w fun e w'=>e=.returned (.bool false)∧Below w.heap.size w w':=by
 have:=zbc v es w hr hf;rwa [h] at this
def BoxAt(w:World)(b:Nat)(x:Ent):Prop:=EntAt w b 0 x∧∀ o,w.frozen? ⟨b,o,none⟩=false
theorem BoxAt.below{w w':World}{b:Nat}{x:Ent}(h:BoxAt w b x)(hb:Below w.heap.size w w'):BoxAt w' b x :=
 ⟨h.1.below hb,fun o=>((bcell hb).2 b o h.1.lt).trans (h.2 o)⟩
theorem zew(w:World)(t:TypeId):BoxAt (w.alloc (.cells #[.string ⟨#[]⟩,.string ⟨#[]⟩,.int .i64 0,.bool false] t)) w.heap.size zeroE :=
 ⟨⟨by simp[zeroE],by simp[zeroE],by simp[zeroE],by simp[zeroE]⟩,fun o=>by simp⟩
theorem BoxAt.facts{w:World}{b:Nat}{x:Ent}(h:BoxAt w b x):w.cell? ⟨b,0,none⟩=some (.string x.key)∧w.cell? ⟨b,1,none⟩=some (.string x.val)∧w.cell? ⟨b,2,none⟩=some (.int .i64 x.seq)∧w.cell? ⟨b,3,none⟩=some (.bool x.gone) ∧
 w.frozen? ⟨b,0,none⟩=false∧w.frozen? ⟨b,1,none⟩=false∧w.frozen? ⟨b,2,none⟩=false∧w.frozen? ⟨b,3,none⟩=false:=by
 obtain⟨⟨h0,h1,h2,h3⟩,hf⟩:=h;simp only[Nat.zero_add] at h1 h2 h3;exact⟨h0,h1,h2,h3,hf 0,hf 1,hf 2,hf 3⟩
theorem zqL(v:Value)(es:List Ent)(key:ByteArray)(q:Int)(x:Ent)(s:Bool)(w:World)(hr:RdE w v es)(hx:(seenL es key q).getD zeroE=x)(hs:(seenL es key q).isSome=s) :
 Calls Tryz.prog 186 #[v,.string key,.int .i64 q] w fun e w'=>e=.returned (.tuple #[.agg #[.string x.key,.string x.val,.int .i64 x.seq,.bool x.gone],.bool s])∧Below w.heap.size w w':=by
 have:=znR v es key q w hr;unfold zd5 at this;rwa [hx,hs] at this
theorem zba{B:Nat}{w0 w:World}(h:Below B w0 w){g:Nat}(hg:B≤g)(a b c d:Value)(i j k l:Nat):Below B w0 ((((w.setCell ⟨g,i,none⟩ a).setCell ⟨g,j,none⟩ b).setCell ⟨g,k,none⟩ c).setCell ⟨g,l,none⟩ d) :=
 (((h.setCell (by exact hg) _).setCell (by exact hg) _).setCell (by exact hg) _).setCell (by exact hg) _
end Go.Proofs.YtannfbpohhnnkaaGreatDoor
