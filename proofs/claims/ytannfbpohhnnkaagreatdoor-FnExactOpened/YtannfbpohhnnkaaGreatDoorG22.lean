import Derived.Test.YtannfbpohhnnkaaGreatDoorG21
import Derived.Maps.AppendAt
namespace Go.Proofs.YtannfbpohhnnkaaGreatDoor
set_option maxHeartbeats 16000000
set_option maxRecDepth 100000
open Go.RowKit
theorem zde{w:World}{ops:Array Oper}{o:Oper}{a:Act}{K:Act→World→Prop}{Q:Exit→Act→World→Prop}{E:Prop}(hgd:o.guard=none)(d:Nat)(hd:o.dst=some d)(s x:Operand)
 (ho:o.op=.call { callee:=.builtin .append,args:=#[s,x],argTypes:=#[239,239] }) (base:Nat) (v:Value) (b:Nat) (hs:List Src) (c:Src) (hv:a.eval s=v) (hx:a.eval x=.slice (some ⟨b,0,none⟩) 1 1) (hown:OwnH w base v hs) (hc:SrcAt w b 0 c) (hc1:c.v.oneCell'=true)
 (hl:hs.length≤1000000) (hbase:base≤w.heap.size)
 (h:∀ v' w',OwnH w' base v' (hs++[c])→w.grownBy w' v.ownBlock→(v'.ownBlock=v.ownBlock∨v'.ownBlock=some w.heap.size)→K (a.put (some d) v') w') :
 if Region.wanted o (yielded ops a.tmps)=true then Oper.wp Tryz.prog o a w K Q else E:=by
 have hw:Region.wanted o (yielded ops a.tmps)=true:=by simp[Region.wanted,hgd]
 rw[if_pos hw];obtain⟨i0,hi,hz0,hz1,hz2⟩:=info_parts Tryz.info263;obtain⟨v',w',hrun,r1,r2,_,r3⟩:=run_append_own_at (P:=Tryz.prog) w base 239 o.type 263 i0 _ 2 32 Tryz.underlying239 hi hz0 hz1 hz2 rfl (by decide) v hs.length (HV hs) hown ⟨b,0,none⟩ 1 1 (HCs c) rfl
  (by
   intro j u hj;match j,hj with
   | 0,hj=>simp[HCs] at hj;subst hj;simpa [Addr.add] using hc.1
   | 1,hj=>simp[HCs] at hj;subst hj;simpa [Addr.add] using hc.2)
  (by
   intro u hu;simp only[HCs,List.mem_cons,List.not_mem_nil,or_false] at hu;rcases hu with rfl | rfl
   ·exact hc1
   ·rfl) (by unfold maxLen;omega) (by omega) hbase
 have r1':OwnH w' base v' (hs++[c]):=by
  unfold OwnH;rw[zjN,HV_one,List.length_append];exact r1
 unfold Oper.wp;simp[execOp,ho,resolve,invoke,builtin,hv,hx,hrun,Result.andThen];have h':=h v' w' r1' r2 r3;rw[← hd] at h';exact h'
theorem zlL(w:World)(s:Src)(t:TypeId):SrcAt (w.alloc (.cells #[s.v,.int .i64 s.no] t)) w.heap.size 0 s:=by
 constructor<;>simp[World.cell?_alloc_at]
theorem zql{w:World}{b:Nat}{v u:Value}{t:TypeId}(h:w.heap[b]? = some (.cells #[v] t (0,0))):(w.setCell ⟨b,0,none⟩ u).heap[b]? = some (.cells #[u] t (0,0)):=by
 have:=heap_setCell_same w b 0 #[v] t u h;simpa using this
theorem zfD{w:World}{b:Nat}{v:Value}{t:TypeId}(h:w.heap[b]? = some (.cells #[v] t (0,0))):w.frozen? ⟨b,0,none⟩=false:=by simp[World.frozen?,h]
theorem zeg(w:World)(x:Value):(Instr.typeAssert (.iface 263 x) 20 263 false).run Tryz.prog w=.ok x w:=by kernel_rfl
def PushPost(w0 w:World)(sb:Nat)(v:Value)(hs:List Src)(e:Ending)(w':World):Prop :=
 ∃ v',e=.returned (.tuple #[])∧Hp w0 w' sb v' hs∧Hop w v sb w' v'
theorem ze1{w w':World}{B:Nat}{v:Value}{hs:List Src}(h:OwnH w B v hs)(hb:∀ k,v.ownBlock=some k→w'.heap[k]? = w.heap[k]?):OwnH w' B v hs:=by
 refine⟨h.1,?_⟩;rcases h.2 with h2 | ⟨g,cap,cur,hv,hg,hh,r⟩
 ·exact .inl h2
 ·exact .inr ⟨g,cap,cur,hv,hg,by rw[hb g (by rw[hv];rfl)];exact hh,r⟩
theorem Hp.pushed{w0 w w1 w2:World}{sb:Nat}{v v':Value}{hs:List Src}{s:Src}(h:Hp w0 w sb v hs)(b1:Below w.heap.size w w1)(ho:OwnH w2 w0.heap.size v' (hs++[s]))(hg:w1.grownBy w2 v.ownBlock)(hv:v'.ownBlock=v.ownBlock∨v'.ownBlock=some w1.heap.size)
 (hr:RdE w0 s.v s.es) (hne:s.es≠[]) (hf:hs.length<20):Hp w0 (w2.setCell ⟨sb,0,none⟩ v') sb v' (hs++[s])∧Hop w v sb (w2.setCell ⟨sb,0,none⟩ v') v':=by
 have h1:=h.below b1;have hvs:∀ k,v'.ownBlock=some k→k≠sb:=fun k hk=>by
  rcases hv with e | e
  ·exact h.ne k (by rw[← e];exact hk)
  ·rw[e] at hk;have:=Option.some.inj hk;have:=h1.lt;omega
 have hbox:w2.heap[sb]? = some (.cells #[v] 239 (0,0)):=(hg.block sb h1.lt (fun e=>h.ne sb e.symm rfl)).trans h1.box;have bel2:Below w0.heap.size w0 w2:=h1.bel.grown hg h1.bel.size (fun k hk=>(World.ownsRow.lt h1.own k hk).1);refine⟨⟨bel2.setCell h.ge _,h.ge,zql hbox,ze1 ho (fun k hk=>heap_setCell_other w2 ⟨sb,0,none⟩ k v' (fun e=>hvs k hk (by simpa using e))),hvs,fun x hx=>?_,by rw[List.length_append];simp;omega⟩,⟨?_,fun k hk hks hkv=>?_,fun k hk=>?_⟩⟩
 ·rcases List.mem_append.1 hx with hx | hx
  ·exact h.rd x hx
  ·rw[List.mem_singleton.1 hx];exact⟨hr,hne⟩
 ·have:=b1.size;have:=hg.size;simp;omega
 ·rw[heap_setCell_other w2 ⟨sb,0,none⟩ k v' (fun e=>hks (by simpa using e))];rw[hg.block k (Nat.lt_of_lt_of_le hk b1.size) (fun e=>hkv e.symm)];exact b1.block k hk
 ·rcases hv with e | e
  ·exact .inl (by rw[← e];exact hk)
  ·rw[e] at hk;have:=Option.some.inj hk;have:=b1.size;exact .inr (by omega)
theorem za4(i d:Nat){P:Program}{ops:Array Oper}{Q:Exit→Act→World→Prop}{md:Region.Mode}{S:World→Prop}{oi:Oper}{v:Value}{fuel:Nat}{listed:Array Bool}{a a':Act}{w:World}(hS:S w)(h:wpAnyH P md ops (NoPanic Q) S fuel (listed.setIfInBounds i true) a' w)(hi:ops[i]? = some oi:=by rfl)(hd:oi.dst=some d:=by rfl)(hs:Region.noSelect ops=true:=by kernel_rfl)(hf:Region.free md ops listed i=true:=by kernel_rfl)(hr:(Region.ready md ops listed).contains i=true:=by kernel_rfl)(hw:Region.wanted oi (yielded ops a.tmps)=true:=by kernel_rfl)(hy:∀ w,S w→(execOp a.eval oi).run P w=.ok (.value v) w:=by intro w hS;(try dsimp only[EntAt,SrcAt,Nat.zero_add] at hS);go_simp;(try with_reducible rfl))(ha:a.put (some d) v=a':=by (try simp only[Act.put,sA,sZ,sS]);(try rfl)):wpAnyH P md ops (NoPanic Q) S (fuel+1) listed a w:=takeH hi hd hs hf hr (fun _ _ _ h=>h) (Or.inl ⟨hw,hy⟩) hS (ha ▸ h)
theorem push_any(w0 w:World)(sb:Nat)(v:Value)(hs:List Src)(s:Src)(h:Hp w0 w sb v hs)(hr:RdE w0 s.v s.es)(hne:s.es≠[])(hf:hs.length<20) :
 Calls Tryz.prog 279 #[.pointer (some ⟨sb,0,none⟩),.iface 263 (.agg #[s.v,.int .i64 s.no])] w fun e w'=>PushPost w0 w sb v (hs++[s]) e w':=by
 obtain⟨sv,ses,no⟩:=s;obtain⟨sa,sc,hsv,-⟩:=id hr;simp only at hsv;obtain⟨sn,hsn⟩:∃ sn,sn=ses.length:=⟨_,rfl⟩;rw[← hsn] at hsv;subst hsv;obtain⟨a,cap,hv,-⟩:=zgn h.own;obtain⟨n,hn⟩:∃ n,n=hs.length:=⟨_,rfl⟩;rw[← hn] at hv;subst hv;have HH:Hid (Hp w0 w sb (.slice a n cap) hs):=h;have hce:=h.cell;have hfz:=zfD h.box;have HPU:Hid (∀ w1 w2 v',Below w.heap.size w w1→OwnH w2 w0.heap.size v' (hs++[⟨.slice sa sn sc,ses,no⟩])→w1.grownBy w2 (Value.slice a n cap).ownBlock→(v'.ownBlock=(Value.slice a n cap).ownBlock∨v'.ownBlock=some w1.heap.size) →
  (∃ cc,w2.cell? ⟨sb,0,none⟩=some cc)∧w2.frozen? ⟨sb,0,none⟩=false∧Hp w0 (w2.setCell ⟨sb,0,none⟩ v') sb v' (hs++[⟨.slice sa sn sc,ses,no⟩])∧Hop w (.slice a n cap) sb (w2.setCell ⟨sb,0,none⟩ v') v'):=fun w1 w2 v' b1 b2 b3 b4=>by
  have h1:=h.below b1;have hbox:w2.heap[sb]? = some (.cells #[.slice a n cap] 239 (0,0)):=(b3.block sb h1.lt (fun e=>h.ne sb e.symm rfl)).trans h1.box;exact⟨⟨.slice a n cap,by simp[World.cell?,hbox]⟩,zfD hbox,h.pushed b1 b2 b3 b4 hr hne hf⟩
 have HB:Hid (w0.heap.size≤w.heap.size):=h.bel.size;have hta:=fun W=>zeg W (.agg #[.slice sa sn sc,.int .i64 no])
 have HF:Hid (hs.length≤1000000):=by unfold Hid;omega
 clear hne hf hr hn hsn h;go_enter Tryz.func279,Tryz.ntmps279
 go_wp2_with fail
 refine wp_region_noPanic ?_;refine wp_region_held_drew (S:=fun _=>True) (by kernel_rfl) trivial (fun hH=>?_);refine za4 0 4 hH ?_;refine za4 1 5 hH ?_;refine za4 2 6 hH ?_;refine za4 4 8 hH ?_;refine za4 5 9 hH ?_;refine wpAnyH_ready (rs:=[3,6]) (by kernel_rfl) (by simp) ?_;refine AllReadyH.cons rfl (fun K hK=>?_) ?_
 ·go_simp;refine hK.out _ _ trivial (fun hH=>?_);clear hK K;try simp only[Act.put,sA,sZ,sS]
  refine rdy 6 (fun K hK=>?_);go_simp;refine hK.out _ _ trivial (fun hH=>?_);clear hK K;try simp only[Act.put,sA,sZ,sS]
  have b1:Below w.heap.size w (w.drew.alloc (.cells #[.slice sa sn sc,.int .i64 no] 263)):=((Below.refl w.heap.size w).drew).alloc (Nat.le_refl _) _;have hoV:OwnH (w.drew.alloc (.cells #[.slice sa sn sc,.int .i64 no] 263)) w0.heap.size (.slice a n cap) hs:=HH.out.own.below b1;have hsV:SrcAt (w.drew.alloc (.cells #[.slice sa sn sc,.int .i64 no] 263)) w.heap.size 0 ⟨.slice sa sn sc,ses,no⟩:=zlL w.drew ⟨.slice sa sn sc,ses,no⟩ _;have hbV:w0.heap.size≤(w.drew.alloc (.cells #[.slice sa sn sc,.int .i64 no] 263)).heap.size:=Nat.le_trans HB.out b1.size;clear hce hfz;try simp only[World.drew_alloc] at b1 hoV hsV hbV
  refine rdy 7 (fun K hK=>?_);refine zde rfl 11 rfl (.tmp 7) (.tmp 10) rfl w0.heap.size _ _ hs ⟨.slice sa sn sc,ses,no⟩ rfl rfl hoV hsV rfl HF.out hbV ?_;intro v2 w2 ho2 hg2 hv2;obtain⟨⟨cc,hcc⟩,hfz2,hp2,hop2⟩:=HPU.out _ w2 v2 b1 ho2 hg2 hv2;obtain⟨a2,c2,hva,-⟩:=zgn ho2;generalize (hs++[(⟨.slice sa sn sc,ses,no⟩:Src)]).length=n2 at hva;subst hva;clear hoV hsV hbV ho2 hg2 hv2 b1;refine hK.out _ _ trivial (fun hH=>?_);clear hK K;try simp only[Act.put,sA,sZ,sS]
  refine za4 8 12 hH ?_;refine rdy 9 (fun K hK=>?_);go_simp;refine hK.out _ _ trivial (fun hH=>?_);clear hK K;try simp only[Act.put,sA,sZ,sS]
  refine dne ?_;go_end0
  exact⟨_,rfl,hp2,hop2⟩
 ·refine AllReadyH.cons rfl (fun K hK=>?_) AllReadyH.nil;go_simp;refine hK.out _ _ trivial (fun hH=>?_);clear hK K;try simp only[Act.put,sA,sZ,sS]
  have hce2:=((za w (.cells #[.slice sa sn sc,.int .i64 no] 263)).cell (World.block_lt_of_cell? w _ hce)).trans hce;refine rdy 3 (fun K hK=>?_);go_simp;refine hK.out _ _ trivial (fun hH=>?_);clear hK K;try simp only[Act.put,sA,sZ,sS]
  clear hce2;have b1:Below w.heap.size w (w.drew.alloc (.cells #[.slice sa sn sc,.int .i64 no] 263)):=((Below.refl w.heap.size w).drew).alloc (Nat.le_refl _) _;have hoV:OwnH (w.drew.alloc (.cells #[.slice sa sn sc,.int .i64 no] 263)) w0.heap.size (.slice a n cap) hs:=HH.out.own.below b1;have hsV:SrcAt (w.drew.alloc (.cells #[.slice sa sn sc,.int .i64 no] 263)) w.heap.size 0 ⟨.slice sa sn sc,ses,no⟩:=zlL w.drew ⟨.slice sa sn sc,ses,no⟩ _;have hbV:w0.heap.size≤(w.drew.alloc (.cells #[.slice sa sn sc,.int .i64 no] 263)).heap.size:=Nat.le_trans HB.out b1.size;clear hce hfz;try simp only[World.drew_alloc] at b1 hoV hsV hbV
  refine rdy 7 (fun K hK=>?_);refine zde rfl 11 rfl (.tmp 7) (.tmp 10) rfl w0.heap.size _ _ hs ⟨.slice sa sn sc,ses,no⟩ rfl rfl hoV hsV rfl HF.out hbV ?_;intro v2 w2 ho2 hg2 hv2;obtain⟨⟨cc,hcc⟩,hfz2,hp2,hop2⟩:=HPU.out _ w2 v2 b1 ho2 hg2 hv2;obtain⟨a2,c2,hva,-⟩:=zgn ho2;generalize (hs++[(⟨.slice sa sn sc,ses,no⟩:Src)]).length=n2 at hva;subst hva;clear hoV hsV hbV ho2 hg2 hv2 b1;refine hK.out _ _ trivial (fun hH=>?_);clear hK K;try simp only[Act.put,sA,sZ,sS]
  refine za4 8 12 hH ?_;refine rdy 9 (fun K hK=>?_);go_simp;refine hK.out _ _ trivial (fun hH=>?_);clear hK K;try simp only[Act.put,sA,sZ,sS]
  refine dne ?_;go_end0
  exact⟨_,rfl,hp2,hop2⟩
theorem zoA{w:World}{B g n cap:Nat}{hs:List Src}(h:OwnH w B (.slice (some ⟨g,0,none⟩) n cap) hs)(m:Nat)(hm:m≤hs.length):OwnH w B (.slice (some ⟨g,0,none⟩) m cap) (hs.take m):=by
 have hl:(hs.take m).length=m:=by rw[List.length_take];omega
 refine⟨by rw[ze2],?_⟩;rcases h.2 with ⟨h2,_⟩ | ⟨g',cap',cur,hv,hg,hh,h1,h3,h4,h5⟩
 ·cases h2
 ·simp only[Value.slice.injEq,Option.some.injEq,Addr.mk.injEq,and_true] at hv;obtain⟨rfl,_,rfl⟩:=hv;refine .inr ⟨g,cap,cur,by rw[hl],hg,hh,by rw[hl];omega,h3,h4,?_⟩;rw[hl];have e:HV hs=HV (hs.take m)++HV (hs.drop m):=by rw[← zjN,List.take_append_drop]
  have e2:(cur.toList.take (hs.length*2)).take (m*2)=(HV hs).take (m*2):=by rw[h5]
  rw[List.take_take,Nat.min_eq_left (by omega)] at e2;rw[e2,e,List.take_append_of_le_length (by rw[ze2,hl];exact Nat.le_refl _),List.take_of_length_le (by rw[ze2,hl];exact Nat.le_refl _)]
def PopPost(w0 w:World)(sb:Nat)(v:Value)(hs:List Src)(s:Src)(e:Ending)(w':World):Prop :=
 ∃ v',e=.returned (.iface 263 (.agg #[s.v,.int .i64 s.no]))∧Hp w0 w' sb v' hs∧Hop w v sb w' v'
theorem pop_any(w0 w:World)(sb:Nat)(v:Value)(hs:List Src)(n:Nat)(h:Hp w0 w sb v hs)(hn:hs.length=n+1) :
 Calls Tryz.prog 278 #[.pointer (some ⟨sb,0,none⟩)] w fun e w'=>PopPost w0 w sb v (hs.take n) (sN hs n) e w':=by
 obtain⟨g,cap,hv,hlc,hcm⟩:=zeb h.own (by omega);rw[hn] at hv hlc;subst hv;obtain⟨k1,k2⟩:=zhh h.own n (by omega);obtain⟨sa,sn,sc,hsv⟩:=h.slices _ (zkI (show n<hs.length by omega));have hce:=h.cell;have HPO:Hid (∀ w1,Below w.heap.size w w1→w1.cell? ⟨sb,0,none⟩=some (.slice (some ⟨g,0,none⟩) (n+1) cap)∧w1.frozen? ⟨sb,0,none⟩=false∧Hp w0 (w1.setCell ⟨sb,0,none⟩ (.slice (some ⟨g,0,none⟩) n cap)) sb (.slice (some ⟨g,0,none⟩) n cap) (hs.take n)∧Hop w (.slice (some ⟨g,0,none⟩) (n+1) cap) sb (w1.setCell ⟨sb,0,none⟩ (.slice (some ⟨g,0,none⟩) n cap)) (.slice (some ⟨g,0,none⟩) n cap)):=fun w1 b1=>by
  have h1:=h.below b1;have hgs:=h.ne g rfl;refine⟨h1.cell,zfD h1.box,⟨h1.bel.setCell h.ge _,h.ge,zql h1.box,ze1 (zoA h1.own n (by omega)) (fun k hk=>heap_setCell_other w1 ⟨sb,0,none⟩ k _ (fun e=>hgs (by have:=Option.some.inj hk;simp at this e;omega))),fun k hk=>h.ne k hk,fun s hs=>h.rd s (List.mem_of_mem_take hs),by rw[List.length_take];have:=h.few;omega⟩,⟨by have:=b1.size;simp;omega,fun k hk hks _=>?_,fun k hk=>.inl hk⟩⟩;rw[heap_setCell_other w1 ⟨sb,0,none⟩ k _ (fun e=>hks (by simpa using e))];exact b1.block k hk
 obtain⟨s,hs0⟩:∃ s,s=sN hs n:=⟨_,rfl⟩;rw[← hs0] at k1 k2 hsv ⊢;obtain⟨no,hno⟩:∃ no,no=s.no:=⟨_,rfl⟩;have HE:Hid (Ending.returned (.iface 263 (.agg #[.slice sa sn sc,.int .i64 no]))=.returned (.iface 263 (.agg #[s.v,.int .i64 s.no]))):=by unfold Hid;rw[hsv,hno]
 rw[hsv] at k1;rw[← hno] at k2;generalize hs.take n=hs2 at HPO ⊢;unfold maxLen at hcm;have hn20:n≤20:=by have:=h.few;omega
 have hsl:=h.lt;have hne1:¬ w.heap.size=sb:=by omega
 have hne2:¬ sb=w.heap.size:=by omega
 obtain⟨hce1,hfz1,hp1,hop1⟩:=HPO.out _ (za w (.cells #[.slice sa sn sc,.int .i64 no] 263));obtain⟨_,_,hp0,hop0⟩:=HPO.out w (Below.refl _ _);have HP1:Hid (_∧_):=⟨hp0.below (za _ (.cells #[.slice sa sn sc,.int .i64 no] 263)),hop0.trans (Hop.below (za _ (.cells #[.slice sa sn sc,.int .i64 no] 263)))⟩;clear hs0 hno hsv h hn HPO hp1 hop1 hp0 hop0;go_enter Tryz.func278,Tryz.ntmps278
 go_wp2;go_ret;exact⟨_,HE.out,HP1.out.1,HP1.out.2⟩
open Go.RowKit
theorem hlen_any(a:Option Addr)(n c:Nat)(w:World):Calls Tryz.prog 222 #[.slice a n c] w fun e w'=>e=.returned (.int .i64 n)∧w'=w:=by
 go_enter Tryz.func222,Tryz.ntmps222
 go_wp2;go_ret;exact⟨rfl,rfl⟩
theorem Hp.len_any{w0 w:World}{sb:Nat}{v:Value}{hs:List Src}(h:Hp w0 w sb v hs)(n:Nat)(hn:hs.length=n):Calls Tryz.prog 222 #[v] w fun e w'=>e=.returned (.int .i64 n)∧w'=w:=by
 obtain⟨a,cap,hv,-,-⟩:=zgn h.own;subst hn;rw[hv];exact hlen_any a _ cap w
theorem up_at(w0 w:World)(sb:Nat)(v:Value)(hs:List Src)(j:Nat)(x:Int)(hx:x=(j:Int))(h:Hp w0 w sb v hs)(hj:j<hs.length)(hu:upOk hs j) :
 Calls Tryz.prog 254 #[.iface 237 (.pointer (some ⟨sb,0,none⟩)),.int .i64 x] w fun e w'=>zmE w0 w sb v hs e w':=by
 subst hx;exact up_any w0 w sb v hs j h hj hu
def zcW(w0 w:World)(sb:Nat)(v:Value)(hs:List Src)(u:Value)(e:Ending)(w':World):Prop :=
 ∃ v' hs',e=.returned u∧Hp w0 w' sb v' hs'∧hs'.Perm hs∧HP hs' hs'.length∧Hop w v sb w' v'
theorem zkn(w0 w:World)(sb:Nat)(v:Value)(hs:List Src)(s:Src)(h:Hp w0 w sb v hs)(hh:HP hs hs.length)(hr:RdE w0 s.v s.es)(hne:s.es≠[])(hf:hs.length<20) :
 Calls Tryz.prog 240 #[.iface 237 (.pointer (some ⟨sb,0,none⟩)),.iface 263 (.agg #[s.v,.int .i64 s.no])] w fun e w'=>zcW w0 w sb v (hs++[s]) (.tuple #[]) e w':=by
 have hq:=m_Push w sb;have HC:Hid (Calls _ _ _ _ _):=push_any w0 w sb v hs s h hr hne hf;have HU:Hid (upOk (hs++[s]) hs.length):=up_push s hh;obtain⟨n,hn⟩:∃ n,hs.length=n:=⟨_,rfl⟩;rw[hn] at HU hf;have hl2:(hs++[s]).length=n+1:=by rw[List.length_append,hn];rfl
 have HL2:Hid ((hs++[s]).length=n+1):=hl2;clear h hh hr hne hn hl2;generalize hs++[s]=hs2 at HC HU HL2;go_enter Tryz.func240,Tryz.ntmps240
 go_wp2_with fail
 refine HC.out.mono ?_;rintro e w1 ⟨v1,rfl,h1,hop1⟩;have hq1:=m_Len w1 sb v1 h1.cell;clear HC hq;go_wp2_with fail
 refine(h1.len_any (n+1) HL2.out).mono ?_;rintro e w2 ⟨rfl,hw2⟩;obtain rfl:=hw2.symm;clear hq1;go_wp2_with fail
 refine(up_at w0 _ sb v1 hs2 n _ ?e1 h1 (by rw[HL2.out];omega) HU.out).mono ?_
 case e1=>omega
 rintro e w3 ⟨hs3,rfl,h3,hp3,hh3,hop3⟩;have HE:Hid (zcW w0 w sb v hs2 (.tuple #[]) (.returned (.tuple #[])) w3):=⟨v1,hs3,rfl,h3,hp3,hh3,hop1.trans hop3⟩;clear h1 h3 hp3 hh3 hop1 hop3;go_wp2;go_end0
 exact HE.out
theorem zlB(w0 w:World)(sb:Nat)(v:Value)(hs:List Src)(h:Hp w0 w sb v hs)(hh:HP hs hs.length)(h0:0<hs.length) :
 Calls Tryz.prog 241 #[.iface 237 (.pointer (some ⟨sb,0,none⟩))] w fun e w' =>
  ∃ hs1,hs.Perm (sN hs 0::hs1)∧zcW w0 w sb v hs1 (.iface 263 (.agg #[(sN hs 0).v,.int .i64 (sN hs 0).no])) e w':=by
 obtain⟨n,hn⟩:∃ n,hs.length=n+1:=⟨hs.length-1,by omega⟩;have hq:=m_Len w sb v h.cell;have HD:Hid (dnOk (swapS hs 0 n) 0 n):=dn_root hn hh;have HSW:Hid (∀ k,sN (swapS hs 0 n) k=if k=n then sN hs 0 else if k=0 then sN hs n else sN hs k):=fun k=>zeu h0 (by omega)
 have HSP:Hid ((swapS hs 0 n).Perm hs):=zbw h0 (by omega);have hn20:n≤20:=by have:=h.few;omega
 have HN:Hid (hs.length=n+1):=hn;clear hh h0 hn;go_enter Tryz.func241,Tryz.ntmps241
 go_wp2_with fail
 refine(h.len_any (n+1) HN.out).mono ?_;rintro e w1 ⟨rfl,hw1⟩;obtain rfl:=hw1.symm;clear hq;have hq1:=zkA w sb v h.cell;go_wp2_with fail
 refine(zeH w0 _ sb v hs 0 n _ _ ?e1 ?e2 h (by rw[HN.out];omega) (by rw[HN.out];omega)).mono ?_
 case e1=>rfl
 case e2=>omega
 rintro e w2 ⟨rfl,h2,hop2⟩;clear hq1 h;obtain⟨hs2,hhs2⟩:∃ hs2,hs2=swapS hs 0 n:=⟨_,rfl⟩;rw[← hhs2] at h2 HD HSW HSP;clear hhs2;go_wp2_with fail
 refine(down_any w0 _ sb v hs2 n _ ?e3 h2 (by rw[HSP.out.length_eq,HN.out];omega) HD.out).mono ?_
 case e3=>omega
 rintro e w3 ⟨hs3,b3,rfl,h3,hp3,ht3,hh3,hop3⟩;have hop4:=hop2.trans hop3;have hl3:hs3.length=n+1:=by rw[hp3.length_eq,HSP.out.length_eq,HN.out]
 have HLAST:Hid (sN hs3 n=sN hs 0):=by unfold Hid;rw[ht3 n (Nat.le_refl _),HSW.out n,if_pos rfl]
 have HPERM:Hid (hs.Perm (sN hs 0::hs3.take n)):=by
  unfold Hid;have e1:hs3=hs3.take n++[sN hs3 n]:=by
   have:=List.take_succ_eq_append_getElem (l:=hs3) (i:=n) (by omega);rw[← sN_eq (by omega),List.take_of_length_le (by omega)] at this;exact this
  have e2:hs3.Perm (sN hs3 n::hs3.take n):=by
   conv=>lhs;rw[e1]
   exact List.perm_append_comm
  rw[HLAST.out] at e2;exact(HSP.out.symm.trans hp3.symm).trans e2
 have HHP:Hid (HP (hs3.take n) (hs3.take n).length):=HP_take (by omega) hh3;have HC:Hid (Calls _ _ _ _ _):=pop_any w0 w3 sb v hs3 n h3 hl3;have hq3:=m_Pop w3 sb;rw[HLAST.out] at HC;clear h2 h3 hp3 ht3 hh3 hop2 hop3 hl3 HD HSW HSP;generalize hs3.take n=hs4 at HPERM HHP HC;go_wp2_with fail
 refine HC.out.mono ?_;rintro e w5 ⟨v5,rfl,h5,hop5⟩;have HE:Hid (zcW w0 w sb v hs4 (.iface 263 (.agg #[(sN hs 0).v,.int .i64 (sN hs 0).no])) (.returned (.iface 263 (.agg #[(sN hs 0).v,.int .i64 (sN hs 0).no]))) w5):=⟨v5,hs4,rfl,h5,List.Perm.refl _,HHP.out,hop4.trans hop5⟩;clear h5 hop5 hop4 HC hq3;go_wp2;go_ret;exact⟨hs4,HPERM.out,HE.out⟩
theorem zk8(w0 w:World)(sb:Nat)(v:Value)(hs:List Src)(u:Value)(l:List Ent)(k:Nat)(x:Int)(hx:x=(k:Int))(h:Hp w0 w sb v hs)(hh:HP hs hs.length)(hr:RdE w0 u l)(hf:hs.length<20) :
 Calls Tryz.prog 221 #[.pointer (some ⟨sb,0,none⟩),u,.int .i64 x] w fun e w'=>zcW w0 w sb v (rest hs u l k) (.tuple #[]) e w':=by
 subst hx;obtain⟨a,cap,hu,h1,h2,-⟩:=id hr;obtain⟨n,hn⟩:∃ n,n=l.length:=⟨_,rfl⟩;rw[← hn] at hu h1;unfold maxLen at h2;by_cases h0:n=0
 ·have HE:Hid (zcW w0 w sb v (rest hs u l k) (.tuple #[]) (.returned (.tuple #[])) w):=by
   unfold Hid rest;rw[if_pos (by rw[← hn];exact h0)];exact⟨v,hs,rfl,h,List.Perm.refl _,hh,Hop.refl _ _ _⟩
  subst hu;subst h0;clear h hh hr hf hn;go_enter Tryz.func221,Tryz.ntmps221
  go_wp2;go_end0
  exact HE.out
 ·have HR:Hid (rest hs u l k=hs++[⟨u,l,k⟩]):=by unfold Hid rest;rw[if_neg (by rw[← hn];exact h0)]
  have HC:Hid (Calls _ _ _ _ _):=zkn w0 w sb v hs ⟨u,l,k⟩ h hh hr (fun e=>h0 (by have e':l=[]:=e;rw[hn,e'];rfl)) hf;rw[HR.out];have hpos:0<n:=by omega
  simp only at HC;generalize hs++[(⟨u,l,k⟩:Src)]=hs2 at HC;subst hu;clear HR h hh hr hf hn h0;go_enter Tryz.func221,Tryz.ntmps221
  go_wp2_with fail
  refine HC.out.mono ?_;rintro e w1 ⟨v1,hs1,rfl,r⟩;have HE:Hid (zcW w0 w sb v hs2 (.tuple #[]) (.returned (.tuple #[])) w1):=⟨v1,hs1,rfl,r⟩;clear r HC;go_wp2;go_end0
  exact HE.out
open Go.RowKit
theorem zku{a b:List Src}(h:a.Perm b)(v:Value)(r:List Ent)(no:Nat):(rest a v r no).Perm (rest b v r no):=by
 unfold rest;split
 ·exact h
 ·exact h.append_right _
theorem Hp.row_lt{w0 w:World}{sb:Nat}{v:Value}{hs:List Src}(h:Hp w0 w sb v hs):∀ k,v.ownBlock=some k→k<w.heap.size:=fun k hk=>(World.ownsRow.lt h.own k hk).2
theorem zlr{w w':World}{b:Nat}{x:Ent}(h:BoxAt w b x)(hb:w'.heap[b]? = w.heap[b]?):BoxAt w' b x :=
 ⟨h.1.of_block hb,fun o=>by have:=h.2 o;simp only[World.frozen?] at this ⊢;rw[hb];exact this⟩
theorem Hp.set{w0 w:World}{sb:Nat}{v:Value}{hs:List Src}(h:Hp w0 w sb v hs){b:Nat}(o:Nat)(u:Value)(hb:w0.heap.size≤b)(h1:b≠sb)(h2:v.ownBlock≠some b):Hp w0 (w.setCell ⟨b,o,none⟩ u) sb v hs :=
 ⟨h.bel.setCell hb _,h.ge,(heap_setCell_other w ⟨b,o,none⟩ sb u (fun e=>h1 (by simpa using e.symm))).trans h.box,ze1 h.own (fun k hk=>heap_setCell_other w ⟨b,o,none⟩ k u (fun e=>h2 (hk.trans (congrArg some (show k=b by simpa using e))))),h.ne,h.rd,h.few⟩
theorem Hop.set{w w1:World}{v v1:Value}{sb:Nat}(h:Hop w v sb w1 v1){b:Nat}(o:Nat)(u:Value)(hb:w.heap.size≤b):Hop w v sb (w1.setCell ⟨b,o,none⟩ u) v1 :=
 ⟨by simpa using h.size,fun k hk hs hv=>(heap_setCell_other w1 ⟨b,o,none⟩ k u (fun e=>by simp at e;omega)).trans (h.block k hk hs hv),h.row⟩
theorem zaH{w:World}{b:Nat}{y:Ent}(h:EntAt w b 0 y)(x:Ent):EntAt ((((w.setCell ⟨b,0,none⟩ (.string x.key)).setCell ⟨b,1,none⟩ (.string x.val)).setCell ⟨b,2,none⟩ (.int .i64 x.seq)).setCell ⟨b,3,none⟩ (.bool x.gone)) b 0 x:=by
 obtain⟨z0,z1,z2,z3⟩:=h;rw[Nat.zero_add] at z1 z2 z3;refine⟨?_,?_,?_,?_⟩
 ·rw[World.cell?_setCell_other _ _ _ _ (by simp),World.cell?_setCell_other _ _ _ _ (by simp),World.cell?_setCell_other _ _ _ _ (by simp),World.cell?_setCell_same _ _ _ z0]
 ·rw[Nat.zero_add,World.cell?_setCell_other _ _ _ _ (by simp),World.cell?_setCell_other _ _ _ _ (by simp)];exact World.cell?_setCell_same _ _ _ (by rw[World.cell?_setCell_other _ _ _ _ (by simp)];exact z1)
 ·rw[Nat.zero_add,World.cell?_setCell_other _ _ _ _ (by simp)];exact World.cell?_setCell_same _ _ _ (by rw[World.cell?_setCell_other _ _ _ _ (by simp),World.cell?_setCell_other _ _ _ _ (by simp)];exact z2)
 ·rw[Nat.zero_add];exact World.cell?_setCell_same _ _ _ (by rw[World.cell?_setCell_other _ _ _ _ (by simp),World.cell?_setCell_other _ _ _ _ (by simp),World.cell?_setCell_other _ _ _ _ (by simp)];exact z3)
def zmp(w0 w:World)(sb:Nat)(v:Value)(hs:List Src)(x:Ent)(r:List Ent)(e:Ending)(w':World):Prop :=
 ∃ (hs1 hs':List Src) (vt v':Value),e=.returned (.agg #[.string x.key,.string x.val,.int .i64 x.seq,.bool x.gone])∧hs.Perm (sN hs 0::hs1)∧hs'.Perm (rest hs1 vt r (sN hs 0).no)∧Hp w0 w' sb v' hs'∧HP hs' hs'.length∧Hop w v sb w' v'
theorem take_any(w0 w:World)(sb:Nat)(v:Value)(hs:List Src)(x:Ent)(r:List Ent)(h:Hp w0 w sb v hs)(hh:HP hs hs.length)(h0:0<hs.length)(hx:(sN hs 0).es=x::r) :
 Calls Tryz.prog 223 #[.pointer (some ⟨sb,0,none⟩)] w fun e w'=>zmp w0 w sb v hs x r e w':=by
 have b0:=za w (.cells #[.string ⟨#[]⟩,.string ⟨#[]⟩,.int .i64 0,.bool false] 94);have hz:=zew w 94;have hz0:=h.below b0;have hslt:=h.lt;have hrlt:=h.row_lt;have hs0:(w.alloc (.cells #[.string ⟨#[]⟩,.string ⟨#[]⟩,.int .i64 0,.bool false] 94)).heap.size=w.heap.size+1:=by simp
 have hrd:=(h.rd _ (zkI h0)).1;rw[hx] at hrd;obtain⟨bx,ox,n,cap,hsv,hn,hnc,hcm,hxa⟩:=zjI hrd;rw[hsv] at hrd;have HC:Hid (Calls _ _ _ _ _):=zlB w0 _ sb v hs hz0 hh h0;rw[hsv] at HC;obtain⟨no,hno⟩:∃ no,no=(sN hs 0).no:=⟨_,rfl⟩;have HTP:Hid (∀ e w',zmp w0 w sb v hs x r e w'↔∃ (hs1 hs':List Src) (vt v':Value),e=.returned (.agg #[.string x.key,.string x.val,.int .i64 x.seq,.bool x.gone])∧hs.Perm (sN hs 0::hs1)∧hs'.Perm (rest hs1 vt r no)∧Hp w0 w' sb v' hs'∧HP hs' hs'.length∧Hop w v sb w' v'):=fun e w'=>by rw[hno];exact Iff.rfl
 rw[← hno] at HC;have hop0:Hop w v sb _ v:=Hop.below b0;have hta:=fun W=>zeg W (.agg #[.slice (some ⟨bx,ox,none⟩) (n+1) cap,.int .i64 no])
 have HFEW:Hid (hs.length≤20):=h.few;have HNR:Hid (n=r.length):=hn;unfold maxLen at hcm;clear hh h0 hx hsv hno hn;go_enter Tryz.func223,Tryz.ntmps223
 go_wp2_with fail
 generalize hWz:w.alloc (.cells #[.string ⟨#[]⟩,.string ⟨#[]⟩,.int .i64 0,.bool false] 94)=Wz at HC hz hz0 hop0 hs0 b0 ⊢;refine HC.out.mono ?_;rintro e w1 ⟨hs1,hp1,v1,hs2,rfl,h1,hp2,hh2,hop1⟩;have hzb:=zlr hz (hop1.block w.heap.size (by omega) (by omega) (fun e=>by have:=hrlt _ e;omega));have hv1:∀ k,v1.ownBlock=some k→k≠w.heap.size:=fun k hk=>by
  rcases hop1.row k hk with e | e
  ·have:=hrlt _ e;omega
  ·omega
 have hsz1:w.heap.size<w1.heap.size:=by have:=hop1.size;omega
 have b2:=za w1 (.cells #[.slice (some ⟨bx,ox,none⟩) (n+1) cap,.int .i64 no] 263);have b2d:Below w1.heap.size w1 (w1.alloc (.cells #[.slice (some ⟨bx,ox,none⟩) (n+1) cap,.int .i64 no] 263)).drew:=b2.drew;have h2d:=h1.below b2d;have hzd:=hzb.below b2d;have hsrc:SrcAt (w1.alloc (.cells #[.slice (some ⟨bx,ox,none⟩) (n+1) cap,.int .i64 no] 263)) w1.heap.size 0 ⟨.slice (some ⟨bx,ox,none⟩) (n+1) cap,[],no⟩:=zlL w1 ⟨.slice (some ⟨bx,ox,none⟩) (n+1) cap,[],no⟩ _;have hfew:hs2.length<20:=by
  have e1:=hp1.length_eq;have e2:=hp2.length_eq;have:=HFEW.out;simp at e1;omega
 have HBW:Hid (w0.heap.size≤w.heap.size):=h.bel.size;clear hz hz0 hzb b2 HC h b0 hs0 hWz;by_cases hc1:cap=1
 ·skip
  subst hc1;obtain rfl:n=0:=by omega
  have hcut:=zfK hrd HNR.out;go_wp2_with fail
  refine wp_region_noPanic ?_;refine wp_region_held_drew (S:=fun W=>SrcAt W w1.heap.size 0 ⟨.slice (some ⟨bx,ox,none⟩) (0+1) 1,[],no⟩) (by kernel_rfl) hsrc (fun hH=>?_);refine za4 0 8 hH ?_;refine za4 1 9 hH ?_;refine za4 2 10 hH ?_;refine za4 3 11 hH ?_;refine za4 4 12 hH ?_;refine za4 5 13 hH ?_;refine rdy 6 (fun K hK=>?_);go_simp;refine(zk8 w0 _ sb v1 hs2 _ r no _ rfl h2d hh2 hcut hfew).mono ?_;rintro e w3 ⟨v3,hs3,rfl,h3,hp3,hh3,hop3⟩;have hOB:w3.heap[w1.heap.size]? = _:=hop3.block w1.heap.size (by show w1.heap.size<(w1.alloc _).heap.size;simp) (by have:=h1.lt;omega) (fun e=>by have:=h1.row_lt _ e;omega);have hRB:w3.heap[w.heap.size]? = _:=hop3.block w.heap.size (by show w.heap.size<(w1.alloc _).heap.size;simp;omega) (by omega) (fun e=>hv1 _ e rfl);refine hK.out _ _ (hH.of_block hOB) (fun hB=>?_);clear hK K;try simp only[Act.put,sA,sZ,sS]
  refine dne ?_;have hz3:=zlr hzd hRB;have hx3:=hxa.of_block (h3.bel.block bx hxa.lt);have hop5:=((hop0.trans hop1).trans (Hop.below b2d)).trans hop3;have hv3:v3.ownBlock≠some w.heap.size:=fun e=>by
   rcases hop3.row _ e with e | e
   ·exact hv1 _ e rfl
   ·have e2:(w1.alloc (.cells #[.slice (some ⟨bx,ox,none⟩) (0+1) 1,.int .i64 no] 263)).heap.size≤w.heap.size:=e;simp at e2;omega
  have hne:w.heap.size≠sb:=by omega
  have HEND:Hid (Hp w0 ((((w3.setCell ⟨w.heap.size,0,none⟩ (.string x.key)).setCell ⟨w.heap.size,1,none⟩ (.string x.val)).setCell ⟨w.heap.size,2,none⟩ (.int .i64 x.seq)).setCell ⟨w.heap.size,3,none⟩ (.bool x.gone)) sb v3 hs3∧Hop w v sb ((((w3.setCell ⟨w.heap.size,0,none⟩ (.string x.key)).setCell ⟨w.heap.size,1,none⟩ (.string x.val)).setCell ⟨w.heap.size,2,none⟩ (.int .i64 x.seq)).setCell ⟨w.heap.size,3,none⟩ (.bool x.gone)) v3) :=
   ⟨(((h3.set 0 _ HBW.out hne hv3).set 1 _ HBW.out hne hv3).set 2 _ HBW.out hne hv3).set 3 _ HBW.out hne hv3,(((hop5.set 0 _ (Nat.le_refl _)).set 1 _ (Nat.le_refl _)).set 2 _ (Nat.le_refl _)).set 3 _ (Nat.le_refl _)⟩
  have HPP:Hid (hs.Perm (sN hs 0::hs1)∧hs3.Perm (rest hs1 (.slice (some ⟨bx,ox,none⟩) 0 0) r no)∧HP hs3 hs3.length):=⟨hp1,hp3.trans (zku hp2 _ _ _),hh3⟩;obtain⟨k1,k2⟩:=hB;obtain⟨z0,z1,z2,z3,f0,f1,f2,f3⟩:=hz3.facts;obtain⟨c0,c1,c2,c3⟩:=id hx3;have hneO:¬ w1.heap.size=w.heap.size:=by omega
  clear hOB hRB hp1 hp2 hp3 hh3 hh2 h3 h2d hcut hfew hop0 hop1 hop3 hop5 hv3 hzd hsrc b2d hv1;simp only[Nat.zero_add] at k1 k2;go_wp2;have x0:((((w3.setCell ⟨w.heap.size,0,none⟩ (.string x.key)).setCell ⟨w.heap.size,1,none⟩ (.string x.val)).setCell ⟨w.heap.size,2,none⟩ (.int .i64 x.seq)).setCell ⟨w.heap.size,3,none⟩ (.bool x.gone)).cell? ⟨w.heap.size,0,none⟩=some (.string x.key):=(zaH hz3.1 x).1;have x1:=(zaH hz3.1 x).2.1;have x2:=(zaH hz3.1 x).2.2.1;have x3:=(zaH hz3.1 x).2.2.2;rw[Nat.zero_add] at x1 x2 x3;exact bodyPost_ret (v:=.agg #[.string x.key,.string x.val,.int .i64 x.seq,.bool x.gone]) (by simp[results,Tryz.results223,go_sem,x0,x1,x2,x3]) rfl ((HTP.out _ _).2 ⟨hs1,hs3,_,v3,rfl,HPP.out.1,HPP.out.2.1,HEND.out.1,HPP.out.2.2,HEND.out.2⟩)
 ·skip
  have hcut:=zit hrd HNR.out hc1;have h1n:(1:Int)≤(n:Int)+1:=by omega
  go_wp2_with fail
  refine wp_region_noPanic ?_;refine wp_region_held_drew (S:=fun W=>SrcAt W w1.heap.size 0 ⟨.slice (some ⟨bx,ox,none⟩) (n+1) cap,[],no⟩) (by kernel_rfl) hsrc (fun hH=>?_);refine za4 0 8 hH ?_;refine za4 1 9 hH ?_;refine za4 2 10 hH ?_;refine za4 3 11 hH ?_;refine za4 4 12 hH ?_;refine za4 5 13 hH ?_;refine rdy 6 (fun K hK=>?_);go_simp;refine(zk8 w0 _ sb v1 hs2 _ r no _ rfl h2d hh2 hcut hfew).mono ?_;rintro e w3 ⟨v3,hs3,rfl,h3,hp3,hh3,hop3⟩;have hOB:w3.heap[w1.heap.size]? = _:=hop3.block w1.heap.size (by show w1.heap.size<(w1.alloc _).heap.size;simp) (by have:=h1.lt;omega) (fun e=>by have:=h1.row_lt _ e;omega);have hRB:w3.heap[w.heap.size]? = _:=hop3.block w.heap.size (by show w.heap.size<(w1.alloc _).heap.size;simp;omega) (by omega) (fun e=>hv1 _ e rfl);refine hK.out _ _ (hH.of_block hOB) (fun hB=>?_);clear hK K;try simp only[Act.put,sA,sZ,sS]
  refine dne ?_;have hz3:=zlr hzd hRB;have hx3:=hxa.of_block (h3.bel.block bx hxa.lt);have hop5:=((hop0.trans hop1).trans (Hop.below b2d)).trans hop3;have hv3:v3.ownBlock≠some w.heap.size:=fun e=>by
   rcases hop3.row _ e with e | e
   ·exact hv1 _ e rfl
   ·have e2:(w1.alloc (.cells #[.slice (some ⟨bx,ox,none⟩) (n+1) cap,.int .i64 no] 263)).heap.size≤w.heap.size:=e;simp at e2;omega
  have hne:w.heap.size≠sb:=by omega
  have HEND:Hid (Hp w0 ((((w3.setCell ⟨w.heap.size,0,none⟩ (.string x.key)).setCell ⟨w.heap.size,1,none⟩ (.string x.val)).setCell ⟨w.heap.size,2,none⟩ (.int .i64 x.seq)).setCell ⟨w.heap.size,3,none⟩ (.bool x.gone)) sb v3 hs3∧Hop w v sb ((((w3.setCell ⟨w.heap.size,0,none⟩ (.string x.key)).setCell ⟨w.heap.size,1,none⟩ (.string x.val)).setCell ⟨w.heap.size,2,none⟩ (.int .i64 x.seq)).setCell ⟨w.heap.size,3,none⟩ (.bool x.gone)) v3) :=
   ⟨(((h3.set 0 _ HBW.out hne hv3).set 1 _ HBW.out hne hv3).set 2 _ HBW.out hne hv3).set 3 _ HBW.out hne hv3,(((hop5.set 0 _ (Nat.le_refl _)).set 1 _ (Nat.le_refl _)).set 2 _ (Nat.le_refl _)).set 3 _ (Nat.le_refl _)⟩
  have HPP:Hid (hs.Perm (sN hs 0::hs1)∧hs3.Perm (rest hs1 (.slice (some ⟨bx,ox+4,none⟩) n (cap-1)) r no)∧HP hs3 hs3.length):=⟨hp1,hp3.trans (zku hp2 _ _ _),hh3⟩;obtain⟨k1,k2⟩:=hB;obtain⟨z0,z1,z2,z3,f0,f1,f2,f3⟩:=hz3.facts;obtain⟨c0,c1,c2,c3⟩:=id hx3;have hneO:¬ w1.heap.size=w.heap.size:=by omega
  clear hOB hRB hp1 hp2 hp3 hh3 hh2 h3 h2d hcut hfew hop0 hop1 hop3 hop5 hv3 hzd hsrc b2d hv1;simp only[Nat.zero_add] at k1 k2;go_wp2;have x0:((((w3.setCell ⟨w.heap.size,0,none⟩ (.string x.key)).setCell ⟨w.heap.size,1,none⟩ (.string x.val)).setCell ⟨w.heap.size,2,none⟩ (.int .i64 x.seq)).setCell ⟨w.heap.size,3,none⟩ (.bool x.gone)).cell? ⟨w.heap.size,0,none⟩=some (.string x.key):=(zaH hz3.1 x).1;have x1:=(zaH hz3.1 x).2.1;have x2:=(zaH hz3.1 x).2.2.1;have x3:=(zaH hz3.1 x).2.2.2;rw[Nat.zero_add] at x1 x2 x3;exact bodyPost_ret (v:=.agg #[.string x.key,.string x.val,.int .i64 x.seq,.bool x.gone]) (by simp[results,Tryz.results223,go_sem,x0,x1,x2,x3]) rfl ((HTP.out _ _).2 ⟨hs1,hs3,_,v3,rfl,HPP.out.1,HPP.out.2.1,HEND.out.1,HPP.out.2.2,HEND.out.2⟩)
end Go.Proofs.YtannfbpohhnnkaaGreatDoor
