import Derived.Test.YtjlnchhgkfnldaaGreatG19
namespace Go.Proofs.YtjlnchhgkfnldaaGreat
set_option maxHeartbeats 16000000
set_option maxRecDepth 100000
open Go.RowKit
theorem hlen_any(a:Option Addr)(n c:Nat)(w:World):Calls Tryz.prog 109 #[.slice a n c] w fun e w'=>e=.returned (.int .i64 n)∧w'=w:=by
 go_enter Tryz.func109,Tryz.ntmps109
 go_wp2;go_ret;exact⟨rfl,rfl⟩
theorem Hp.len_any{w0 w:World}{sb:Nat}{v:Value}{hs:List Src}(h:Hp w0 w sb v hs)(n:Nat)(hn:hs.length=n):Calls Tryz.prog 109 #[v] w fun e w'=>e=.returned (.int .i64 n)∧w'=w:=by
 obtain⟨a,cap,hv,-,-⟩:=zfW h.own;subst hn;rw[hv];exact hlen_any a _ cap w
theorem up_at(w0 w:World)(sb:Nat)(v:Value)(hs:List Src)(j:Nat)(x:Int)(hx:x=(j:Int))(h:Hp w0 w sb v hs)(hj:j<hs.length)(hu:upOk hs j) :
 Calls Tryz.prog 156 #[.iface 135 (.pointer (some ⟨sb,0,none⟩)),.int .i64 x] w fun e w'=>zlC w0 w sb v hs e w':=by
 subst hx;exact up_any w0 w sb v hs j h hj hu
def zc9(w0 w:World)(sb:Nat)(v:Value)(hs:List Src)(u:Value)(e:Ending)(w':World):Prop :=
 ∃ v' hs',e=.returned u∧Hp w0 w' sb v' hs'∧hs'.Perm hs∧HP hs' hs'.length∧Hop w v sb w' v'
theorem zjt(w0 w:World)(sb:Nat)(v:Value)(hs:List Src)(s:Src)(h:Hp w0 w sb v hs)(hh:HP hs hs.length)(hr:RdE w0 s.v s.es)(hne:s.es≠[])(hf:hs.length<20) :
 Calls Tryz.prog 134 #[.iface 135 (.pointer (some ⟨sb,0,none⟩)),.iface 163 (.agg #[s.v,.int .i64 s.no])] w fun e w'=>zc9 w0 w sb v (hs++[s]) (.tuple #[]) e w':=by
 have hq:=m_Push w sb;have HC:Hid (Calls _ _ _ _ _):=push_any w0 w sb v hs s h hr hne hf;have HU:Hid (upOk (hs++[s]) hs.length):=up_push s hh;obtain⟨n,hn⟩:∃ n,hs.length=n:=⟨_,rfl⟩;rw[hn] at HU hf;have hl2:(hs++[s]).length=n+1:=by rw[lA,hn];rfl
 have HL2:Hid ((hs++[s]).length=n+1):=hl2;clear h hh hr hne hn hl2;generalize hs++[s]=hs2 at HC HU HL2;go_enter Tryz.func134,Tryz.ntmps134
 go_wp2_with fail
 refine HC.out.mono ?_;rintro e w1 ⟨v1,rfl,h1,hop1⟩;have hq1:=m_Len w1 sb v1 h1.cell;clear HC hq;go_wp2_with fail
 refine(h1.len_any (n+1) HL2.out).mono ?_;rintro e w2 ⟨rfl,hw2⟩;obtain rfl:=hw2.symm;clear hq1;go_wp2_with fail
 refine(up_at w0 _ sb v1 hs2 n _ ?e1 h1 (by rw[HL2.out];omega) HU.out).mono ?_
 case e1=>omega
 rintro e w3 ⟨hs3,rfl,h3,hp3,hh3,hop3⟩;have HE:Hid (zc9 w0 w sb v hs2 (.tuple #[]) (.returned (.tuple #[])) w3):=⟨v1,hs3,rfl,h3,hp3,hh3,hop1.trans hop3⟩;clear h1 h3 hp3 hh3 hop1 hop3;go_wp2;go_end0
 exact HE.out
theorem zli(w0 w:World)(sb:Nat)(v:Value)(hs:List Src)(h:Hp w0 w sb v hs)(hh:HP hs hs.length)(h0:0<hs.length) :
 Calls Tryz.prog 135 #[.iface 135 (.pointer (some ⟨sb,0,none⟩))] w fun e w' =>
  ∃ hs1,hs.Perm (sN hs 0::hs1)∧zc9 w0 w sb v hs1 (.iface 163 (.agg #[(sN hs 0).v,.int .i64 (sN hs 0).no])) e w':=by
 obtain⟨n,hn⟩:∃ n,hs.length=n+1:=⟨hs.length-1,by omega⟩;have hq:=m_Len w sb v h.cell;have HD:Hid (dnOk (swapS hs 0 n) 0 n):=dn_root hn hh;have HSW:Hid (∀ k,sN (swapS hs 0 n) k=if k=n then sN hs 0 else if k=0 then sN hs n else sN hs k):=fun k=>zep h0 (by omega)
 have HSP:Hid ((swapS hs 0 n).Perm hs):=zce h0 (by omega);have hn20:n≤20:=by have:=h.few;omega
 have HN:Hid (hs.length=n+1):=hn;clear hh h0 hn;go_enter Tryz.func135,Tryz.ntmps135
 go_wp2_with fail
 refine(h.len_any (n+1) HN.out).mono ?_;rintro e w1 ⟨rfl,hw1⟩;obtain rfl:=hw1.symm;clear hq;have hq1:=ziY w sb v h.cell;go_wp2_with fail
 refine(zeH w0 _ sb v hs 0 n _ _ ?e1 ?e2 h (by rw[HN.out];omega) (by rw[HN.out];omega)).mono ?_
 case e1=>rfl
 case e2=>omega
 rintro e w2 ⟨rfl,h2,hop2⟩;clear hq1 h;obtain⟨hs2,hhs2⟩:∃ hs2,hs2=swapS hs 0 n:=⟨_,rfl⟩;rw[← hhs2] at h2 HD HSW HSP;clear hhs2;go_wp2_with fail
 refine(down_any w0 _ sb v hs2 n _ ?e3 h2 (by rw[HSP.out.length_eq,HN.out];omega) HD.out).mono ?_
 case e3=>omega
 rintro e w3 ⟨hs3,b3,rfl,h3,hp3,ht3,hh3,hop3⟩;have hop4:=hop2.trans hop3;have hl3:hs3.length=n+1:=by rw[hp3.length_eq,HSP.out.length_eq,HN.out]
 have HLAST:Hid (sN hs3 n=sN hs 0):=by unfold Hid;rw[ht3 n (nR _),HSW.out n,if_pos rfl]
 have HPERM:Hid (hs.Perm (sN hs 0::hs3.take n)):=by
  unfold Hid;have e1:hs3=hs3.take n++[sN hs3 n]:=by
   have:=List.take_succ_eq_append_getElem (l:=hs3) (i:=n) (by omega);rw[← sN_eq (by omega),List.take_of_length_le (by omega)] at this;exact this
  have e2:hs3.Perm (sN hs3 n::hs3.take n):=by
   conv=>lhs;rw[e1]
   exact List.perm_append_comm
  rw[HLAST.out] at e2;exact(HSP.out.symm.trans hp3.symm).trans e2
 have HHP:Hid (HP (hs3.take n) (hs3.take n).length):=HP_take (by omega) hh3;have HC:Hid (Calls _ _ _ _ _):=pop_any w0 w3 sb v hs3 n h3 hl3;have hq3:=m_Pop w3 sb;rw[HLAST.out] at HC;clear h2 h3 hp3 ht3 hh3 hop2 hop3 hl3 HD HSW HSP;generalize hs3.take n=hs4 at HPERM HHP HC;go_wp2_with fail
 refine HC.out.mono ?_;rintro e w5 ⟨v5,rfl,h5,hop5⟩;have HE:Hid (zc9 w0 w sb v hs4 (.iface 163 (.agg #[(sN hs 0).v,.int .i64 (sN hs 0).no])) (.returned (.iface 163 (.agg #[(sN hs 0).v,.int .i64 (sN hs 0).no]))) w5):=⟨v5,hs4,rfl,h5,List.Perm.refl _,HHP.out,hop4.trans hop5⟩;clear h5 hop5 hop4 HC hq3;go_wp2;go_ret;exact⟨hs4,HPERM.out,HE.out⟩
theorem zkC(w0 w:World)(sb:Nat)(v:Value)(hs:List Src)(u:Value)(l:List Ent)(k:Nat)(x:Int)(hx:x=(k:Int))(h:Hp w0 w sb v hs)(hh:HP hs hs.length)(hr:RdE w0 u l)(hf:hs.length<20) :
 Calls Tryz.prog 108 #[.pointer (some ⟨sb,0,none⟩),u,.int .i64 x] w fun e w'=>zc9 w0 w sb v (rest hs u l k) (.tuple #[]) e w':=by
 subst hx;obtain⟨a,cap,hu,h1,h2,-⟩:=id hr;obtain⟨n,hn⟩:∃ n,n=l.length:=⟨_,rfl⟩;rw[← hn] at hu h1;unfold maxLen at h2;by_cases h0:n=0
 ·have HE:Hid (zc9 w0 w sb v (rest hs u l k) (.tuple #[]) (.returned (.tuple #[])) w):=by
   unfold Hid rest;rw[if_pos (by rw[← hn];exact h0)];exact⟨v,hs,rfl,h,List.Perm.refl _,hh,Hop.refl _ _ _⟩
  subst hu;subst h0;clear h hh hr hf hn;go_enter Tryz.func108,Tryz.ntmps108
  go_wp2;go_end0
  exact HE.out
 ·have HR:Hid (rest hs u l k=hs++[⟨u,l,k⟩]):=by unfold Hid rest;rw[if_neg (by rw[← hn];exact h0)]
  have HC:Hid (Calls _ _ _ _ _):=zjt w0 w sb v hs ⟨u,l,k⟩ h hh hr (fun e=>h0 (by have e':l=[]:=e;rw[hn,e'];rfl)) hf;rw[HR.out];have hpos:0<n:=by omega
  simp only at HC;generalize hs++[(⟨u,l,k⟩:Src)]=hs2 at HC;subst hu;clear HR h hh hr hf hn h0;go_enter Tryz.func108,Tryz.ntmps108
  go_wp2_with fail
  refine HC.out.mono ?_;rintro e w1 ⟨v1,hs1,rfl,r⟩;have HE:Hid (zc9 w0 w sb v hs2 (.tuple #[]) (.returned (.tuple #[])) w1):=⟨v1,hs1,rfl,r⟩;clear r HC;go_wp2;go_end0
  exact HE.out
open Go.RowKit
theorem ziS{a b:List Src}(h:a.Perm b)(v:Value)(r:List Ent)(no:Nat):(rest a v r no).Perm (rest b v r no):=by
 unfold rest;split
 ·exact h
 ·exact h.append_right _
theorem Hp.row_lt{w0 w:World}{sb:Nat}{v:Value}{hs:List Src}(h:Hp w0 w sb v hs):∀ k,v.ownBlock=some k→k<w.heap.size:=fun k hk=>(oL h.own k hk).2
theorem zkR{w w':World}{b:Nat}{x:Ent}(h:BoxAt w b x)(hb:w'.heap[b]? = w.heap[b]?):BoxAt w' b x :=
 ⟨h.1.of_block hb,fun o=>by have:=h.2 o;simp only[World.frozen?] at this ⊢;rw[hb];exact this⟩
theorem Hp.set{w0 w:World}{sb:Nat}{v:Value}{hs:List Src}(h:Hp w0 w sb v hs){b:Nat}(o:Nat)(u:Value)(hb:w0.heap.size≤b)(h1:b≠sb)(h2:v.ownBlock≠some b):Hp w0 (w.setCell ⟨b,o,none⟩ u) sb v hs :=
 ⟨h.bel.setCell hb _,h.ge,(heap_setCell_other w ⟨b,o,none⟩ sb u (fun e=>h1 (by simpa using e.symm))).trans h.box,ze1 h.own (fun k hk=>heap_setCell_other w ⟨b,o,none⟩ k u (fun e=>h2 (hk.trans (congrArg some (show k=b by simpa using e))))),h.ne,h.rd,h.few⟩
theorem Hop.set{w w1:World}{v v1:Value}{sb:Nat}(h:Hop w v sb w1 v1){b:Nat}(o:Nat)(u:Value)(hb:w.heap.size≤b):Hop w v sb (w1.setCell ⟨b,o,none⟩ u) v1 :=
 ⟨by simpa using h.size,fun k hk hs hv=>(heap_setCell_other w1 ⟨b,o,none⟩ k u (fun e=>by simp at e;omega)).trans (h.block k hk hs hv),h.row⟩
theorem za1{w:World}{b:Nat}{y:Ent}(h:EntAt w b 0 y)(x:Ent):EntAt ((((w.setCell ⟨b,0,none⟩ (.string x.key)).setCell ⟨b,1,none⟩ (.string x.val)).setCell ⟨b,2,none⟩ (.int .i64 x.seq)).setCell ⟨b,3,none⟩ (.bool x.gone)) b 0 x:=by
 obtain⟨z0,z1,z2,z3⟩:=h;rw[Nat.zero_add] at z1 z2 z3;refine⟨?_,?_,?_,?_⟩
 ·rw[World.cell?_setCell_other _ _ _ _ (by simp),World.cell?_setCell_other _ _ _ _ (by simp),World.cell?_setCell_other _ _ _ _ (by simp),World.cell?_setCell_same _ _ _ z0]
 ·rw[Nat.zero_add,World.cell?_setCell_other _ _ _ _ (by simp),World.cell?_setCell_other _ _ _ _ (by simp)];exact World.cell?_setCell_same _ _ _ (by rw[World.cell?_setCell_other _ _ _ _ (by simp)];exact z1)
 ·rw[Nat.zero_add,World.cell?_setCell_other _ _ _ _ (by simp)];exact World.cell?_setCell_same _ _ _ (by rw[World.cell?_setCell_other _ _ _ _ (by simp),World.cell?_setCell_other _ _ _ _ (by simp)];exact z2)
 ·rw[Nat.zero_add];exact World.cell?_setCell_same _ _ _ (by rw[World.cell?_setCell_other _ _ _ _ (by simp),World.cell?_setCell_other _ _ _ _ (by simp),World.cell?_setCell_other _ _ _ _ (by simp)];exact z3)
def zlB(w0 w:World)(sb:Nat)(v:Value)(hs:List Src)(x:Ent)(r:List Ent)(e:Ending)(w':World):Prop :=
 ∃ (hs1 hs':List Src) (vt v':Value),e=.returned (.agg #[.string x.key,.string x.val,.int .i64 x.seq,.bool x.gone])∧hs.Perm (sN hs 0::hs1)∧hs'.Perm (rest hs1 vt r (sN hs 0).no)∧Hp w0 w' sb v' hs'∧HP hs' hs'.length∧Hop w v sb w' v'
theorem zdg(i d:Nat){P:Program}{ops:Array Oper}{Q:Exit→Act→World→Prop}{md:Region.Mode}{S:World→Prop}{oi:Oper}{v:Value}{fuel:Nat}{listed:Array Bool}{a a':Act}{w:World}(hS:S w)(h:wpAnyH P md ops (NoPanic Q) S fuel (listed.setIfInBounds i true) a' w)(hi:ops[i]? = some oi:=by rfl)(hd:oi.dst=some d:=by rfl)(hs:Region.noSelect ops=true:=by kernel_rfl)(hf:Region.free md ops listed i=true:=by kernel_rfl)(hr:(Region.ready md ops listed).contains i=true:=by kernel_rfl)(hw:Region.wanted oi (yielded ops a.tmps)=true:=by kernel_rfl)(hy:∀ w,S w→(execOp a.eval oi).run P w=.ok (.value v) w:=by intro w hS;(try dsimp only[EntAt,SrcAt,Nat.zero_add] at hS);go_simp;(try with_reducible rfl))(ha:a.put (some d) v=a':=by (try simp only[Act.put,sA,sZ,sS]);(try rfl)):wpAnyH P md ops (NoPanic Q) S (fuel+1) listed a w:=takeH hi hd hs hf hr (fun _ _ _ h=>h) (Or.inl ⟨hw,hy⟩) hS (ha ▸ h)
theorem take_any(w0 w:World)(sb:Nat)(v:Value)(hs:List Src)(x:Ent)(r:List Ent)(h:Hp w0 w sb v hs)(hh:HP hs hs.length)(h0:0<hs.length)(hx:(sN hs 0).es=x::r) :
 Calls Tryz.prog 110 #[.pointer (some ⟨sb,0,none⟩)] w fun e w'=>zlB w0 w sb v hs x r e w':=by
 have b0:=ze w (.cells #[.string ⟨#[]⟩,.string ⟨#[]⟩,.int .i64 0,.bool false] 40);have hz:=zd4 w 40;have hz0:=h.below b0;have hslt:=h.lt;have hrlt:=h.row_lt;have hs0:(w.alloc (.cells #[.string ⟨#[]⟩,.string ⟨#[]⟩,.int .i64 0,.bool false] 40)).heap.size=w.heap.size+1:=by simp
 have hrd:=(h.rd _ (zjJ h0)).1;rw[hx] at hrd;obtain⟨bx,ox,n,cap,hsv,hn,hnc,hcm,hxa⟩:=zje hrd;rw[hsv] at hrd;have HC:Hid (Calls _ _ _ _ _):=zli w0 _ sb v hs hz0 hh h0;rw[hsv] at HC;obtain⟨no,hno⟩:∃ no,no=(sN hs 0).no:=⟨_,rfl⟩;have HTP:Hid (∀ e w',zlB w0 w sb v hs x r e w'↔∃ (hs1 hs':List Src) (vt v':Value),e=.returned (.agg #[.string x.key,.string x.val,.int .i64 x.seq,.bool x.gone])∧hs.Perm (sN hs 0::hs1)∧hs'.Perm (rest hs1 vt r no)∧Hp w0 w' sb v' hs'∧HP hs' hs'.length∧Hop w v sb w' v'):=fun e w'=>by rw[hno];exact Iff.rfl
 rw[← hno] at HC;have hop0:Hop w v sb _ v:=Hop.below b0;have hta:=fun W=>zek W (.agg #[.slice (some ⟨bx,ox,none⟩) (n+1) cap,.int .i64 no])
 have HFEW:Hid (hs.length≤20):=h.few;have HNR:Hid (n=r.length):=hn;unfold maxLen at hcm;clear hh h0 hx hsv hno hn;go_enter Tryz.func110,Tryz.ntmps110
 go_wp2_with fail
 generalize hWz:w.alloc (.cells #[.string ⟨#[]⟩,.string ⟨#[]⟩,.int .i64 0,.bool false] 40)=Wz at HC hz hz0 hop0 hs0 b0 ⊢;refine HC.out.mono ?_;rintro e w1 ⟨hs1,hp1,v1,hs2,rfl,h1,hp2,hh2,hop1⟩;have hzb:=zkR hz (hop1.block w.heap.size (by omega) (by omega) (fun e=>by have:=hrlt _ e;omega));have hv1:∀ k,v1.ownBlock=some k→k≠w.heap.size:=fun k hk=>by
  rcases hop1.row k hk with e | e
  ·have:=hrlt _ e;omega
  ·omega
 have hsz1:w.heap.size<w1.heap.size:=by have:=hop1.size;omega
 have b2:=ze w1 (.cells #[.slice (some ⟨bx,ox,none⟩) (n+1) cap,.int .i64 no] 163);have b2d:Below w1.heap.size w1 (w1.alloc (.cells #[.slice (some ⟨bx,ox,none⟩) (n+1) cap,.int .i64 no] 163)).drew:=b2.drew;have h2d:=h1.below b2d;have hzd:=hzb.below b2d;have hsrc:SrcAt (w1.alloc (.cells #[.slice (some ⟨bx,ox,none⟩) (n+1) cap,.int .i64 no] 163)) w1.heap.size 0 ⟨.slice (some ⟨bx,ox,none⟩) (n+1) cap,[],no⟩:=zkk w1 ⟨.slice (some ⟨bx,ox,none⟩) (n+1) cap,[],no⟩ _;have hfew:hs2.length<20:=by
  have e1:=hp1.length_eq;have e2:=hp2.length_eq;have:=HFEW.out;simp at e1;omega
 have HBW:Hid (w0.heap.size≤w.heap.size):=h.bel.size;clear hz hz0 hzb b2 HC h b0 hs0 hWz;by_cases hc1:cap=1
 ·skip
  subst hc1;obtain rfl:n=0:=by omega
  have hcut:=zfk hrd HNR.out;go_wp2_with fail
  refine brg (S:=fun W=>SrcAt W w1.heap.size 0 ⟨.slice (some ⟨bx,ox,none⟩) (0+1) 1,[],no⟩) hsrc (fun hH=>?_);refine zdg 0 8 hH ?_;refine zdg 1 9 hH ?_;refine zdg 2 10 hH ?_;refine zdg 3 11 hH ?_;refine zdg 4 12 hH ?_;refine zdg 5 13 hH ?_;refine rdy 6 (fun K hK=>?_);go_simp;refine(zkC w0 _ sb v1 hs2 _ r no _ rfl h2d hh2 hcut hfew).mono ?_;rintro e w3 ⟨v3,hs3,rfl,h3,hp3,hh3,hop3⟩;have hOB:w3.heap[w1.heap.size]? = _:=hop3.block w1.heap.size (by show w1.heap.size<(w1.alloc _).heap.size;simp) (by have:=h1.lt;omega) (fun e=>by have:=h1.row_lt _ e;omega);have hRB:w3.heap[w.heap.size]? = _:=hop3.block w.heap.size (by show w.heap.size<(w1.alloc _).heap.size;simp;omega) (by omega) (fun e=>hv1 _ e rfl);refine hK.out _ _ (hH.of_block hOB) (fun hB=>?_);clear hK K;try simp only[Act.put,sA,sZ,sS]
  refine dne ?_;have hz3:=zkR hzd hRB;have hx3:=hxa.of_block (h3.bel.block bx hxa.lt);have hop5:=((hop0.trans hop1).trans (Hop.below b2d)).trans hop3;have hv3:v3.ownBlock≠some w.heap.size:=fun e=>by
   rcases hop3.row _ e with e | e
   ·exact hv1 _ e rfl
   ·have e2:(w1.alloc (.cells #[.slice (some ⟨bx,ox,none⟩) (0+1) 1,.int .i64 no] 163)).heap.size≤w.heap.size:=e;simp at e2;omega
  have hne:w.heap.size≠sb:=by omega
  have HEND:Hid (Hp w0 ((((w3.setCell ⟨w.heap.size,0,none⟩ (.string x.key)).setCell ⟨w.heap.size,1,none⟩ (.string x.val)).setCell ⟨w.heap.size,2,none⟩ (.int .i64 x.seq)).setCell ⟨w.heap.size,3,none⟩ (.bool x.gone)) sb v3 hs3∧Hop w v sb ((((w3.setCell ⟨w.heap.size,0,none⟩ (.string x.key)).setCell ⟨w.heap.size,1,none⟩ (.string x.val)).setCell ⟨w.heap.size,2,none⟩ (.int .i64 x.seq)).setCell ⟨w.heap.size,3,none⟩ (.bool x.gone)) v3) :=
   ⟨(((h3.set 0 _ HBW.out hne hv3).set 1 _ HBW.out hne hv3).set 2 _ HBW.out hne hv3).set 3 _ HBW.out hne hv3,(((hop5.set 0 _ (nR _)).set 1 _ (nR _)).set 2 _ (nR _)).set 3 _ (nR _)⟩
  have HPP:Hid (hs.Perm (sN hs 0::hs1)∧hs3.Perm (rest hs1 (.slice (some ⟨bx,ox,none⟩) 0 0) r no)∧HP hs3 hs3.length):=⟨hp1,hp3.trans (ziS hp2 _ _ _),hh3⟩;obtain⟨k1,k2⟩:=hB;obtain⟨z0,z1,z2,z3,f0,f1,f2,f3⟩:=hz3.facts;obtain⟨c0,c1,c2,c3⟩:=id hx3;have hneO:¬ w1.heap.size=w.heap.size:=by omega
  clear hOB hRB hp1 hp2 hp3 hh3 hh2 h3 h2d hcut hfew hop0 hop1 hop3 hop5 hv3 hzd hsrc b2d hv1;simp only[Nat.zero_add] at k1 k2;go_wp2;have x0:((((w3.setCell ⟨w.heap.size,0,none⟩ (.string x.key)).setCell ⟨w.heap.size,1,none⟩ (.string x.val)).setCell ⟨w.heap.size,2,none⟩ (.int .i64 x.seq)).setCell ⟨w.heap.size,3,none⟩ (.bool x.gone)).cell? ⟨w.heap.size,0,none⟩=some (.string x.key):=(za1 hz3.1 x).1;have x1:=(za1 hz3.1 x).2.1;have x2:=(za1 hz3.1 x).2.2.1;have x3:=(za1 hz3.1 x).2.2.2;rw[Nat.zero_add] at x1 x2 x3;exact bodyPost_ret (v:=.agg #[.string x.key,.string x.val,.int .i64 x.seq,.bool x.gone]) (by simp[results,Tryz.results110,go_sem,x0,x1,x2,x3]) rfl ((HTP.out _ _).2 ⟨hs1,hs3,_,v3,rfl,HPP.out.1,HPP.out.2.1,HEND.out.1,HPP.out.2.2,HEND.out.2⟩)
 ·skip
  have hcut:=zhO hrd HNR.out hc1;have h1n:(1:Int)≤(n:Int)+1:=by omega
  go_wp2_with fail
  refine brg (S:=fun W=>SrcAt W w1.heap.size 0 ⟨.slice (some ⟨bx,ox,none⟩) (n+1) cap,[],no⟩) hsrc (fun hH=>?_);refine zdg 0 8 hH ?_;refine zdg 1 9 hH ?_;refine zdg 2 10 hH ?_;refine zdg 3 11 hH ?_;refine zdg 4 12 hH ?_;refine zdg 5 13 hH ?_;refine rdy 6 (fun K hK=>?_);go_simp;refine(zkC w0 _ sb v1 hs2 _ r no _ rfl h2d hh2 hcut hfew).mono ?_;rintro e w3 ⟨v3,hs3,rfl,h3,hp3,hh3,hop3⟩;have hOB:w3.heap[w1.heap.size]? = _:=hop3.block w1.heap.size (by show w1.heap.size<(w1.alloc _).heap.size;simp) (by have:=h1.lt;omega) (fun e=>by have:=h1.row_lt _ e;omega);have hRB:w3.heap[w.heap.size]? = _:=hop3.block w.heap.size (by show w.heap.size<(w1.alloc _).heap.size;simp;omega) (by omega) (fun e=>hv1 _ e rfl);refine hK.out _ _ (hH.of_block hOB) (fun hB=>?_);clear hK K;try simp only[Act.put,sA,sZ,sS]
  refine dne ?_;have hz3:=zkR hzd hRB;have hx3:=hxa.of_block (h3.bel.block bx hxa.lt);have hop5:=((hop0.trans hop1).trans (Hop.below b2d)).trans hop3;have hv3:v3.ownBlock≠some w.heap.size:=fun e=>by
   rcases hop3.row _ e with e | e
   ·exact hv1 _ e rfl
   ·have e2:(w1.alloc (.cells #[.slice (some ⟨bx,ox,none⟩) (n+1) cap,.int .i64 no] 163)).heap.size≤w.heap.size:=e;simp at e2;omega
  have hne:w.heap.size≠sb:=by omega
  have HEND:Hid (Hp w0 ((((w3.setCell ⟨w.heap.size,0,none⟩ (.string x.key)).setCell ⟨w.heap.size,1,none⟩ (.string x.val)).setCell ⟨w.heap.size,2,none⟩ (.int .i64 x.seq)).setCell ⟨w.heap.size,3,none⟩ (.bool x.gone)) sb v3 hs3∧Hop w v sb ((((w3.setCell ⟨w.heap.size,0,none⟩ (.string x.key)).setCell ⟨w.heap.size,1,none⟩ (.string x.val)).setCell ⟨w.heap.size,2,none⟩ (.int .i64 x.seq)).setCell ⟨w.heap.size,3,none⟩ (.bool x.gone)) v3) :=
   ⟨(((h3.set 0 _ HBW.out hne hv3).set 1 _ HBW.out hne hv3).set 2 _ HBW.out hne hv3).set 3 _ HBW.out hne hv3,(((hop5.set 0 _ (nR _)).set 1 _ (nR _)).set 2 _ (nR _)).set 3 _ (nR _)⟩
  have HPP:Hid (hs.Perm (sN hs 0::hs1)∧hs3.Perm (rest hs1 (.slice (some ⟨bx,ox+4,none⟩) n (cap-1)) r no)∧HP hs3 hs3.length):=⟨hp1,hp3.trans (ziS hp2 _ _ _),hh3⟩;obtain⟨k1,k2⟩:=hB;obtain⟨z0,z1,z2,z3,f0,f1,f2,f3⟩:=hz3.facts;obtain⟨c0,c1,c2,c3⟩:=id hx3;have hneO:¬ w1.heap.size=w.heap.size:=by omega
  clear hOB hRB hp1 hp2 hp3 hh3 hh2 h3 h2d hcut hfew hop0 hop1 hop3 hop5 hv3 hzd hsrc b2d hv1;simp only[Nat.zero_add] at k1 k2;go_wp2;have x0:((((w3.setCell ⟨w.heap.size,0,none⟩ (.string x.key)).setCell ⟨w.heap.size,1,none⟩ (.string x.val)).setCell ⟨w.heap.size,2,none⟩ (.int .i64 x.seq)).setCell ⟨w.heap.size,3,none⟩ (.bool x.gone)).cell? ⟨w.heap.size,0,none⟩=some (.string x.key):=(za1 hz3.1 x).1;have x1:=(za1 hz3.1 x).2.1;have x2:=(za1 hz3.1 x).2.2.1;have x3:=(za1 hz3.1 x).2.2.2;rw[Nat.zero_add] at x1 x2 x3;exact bodyPost_ret (v:=.agg #[.string x.key,.string x.val,.int .i64 x.seq,.bool x.gone]) (by simp[results,Tryz.results110,go_sem,x0,x1,x2,x3]) rfl ((HTP.out _ _).2 ⟨hs1,hs3,_,v3,rfl,HPP.out.1,HPP.out.2.1,HEND.out.1,HPP.out.2.2,HEND.out.2⟩)
open Go.RowKit
def tot(hs:List Src):Nat:=(hs.map (fun s=>s.es.length)).sum
theorem zlM{a b:List Src}(h:a.Perm b):tot a=tot b:=by
 unfold tot;exact(h.map (fun s:Src=>s.es.length)).sum_nat
theorem tot_rest(hs:List Src)(v:Value)(r:List Ent)(no:Nat):tot (rest hs v r no)=tot hs+r.length:=by
 unfold rest;split
 ·omega
 ·simp[tot]
theorem tot_le{hs:List Src}(h:∀ s∈hs,s.es.length≤300):tot hs≤300*hs.length:=by
 induction hs with
 | nil=>simp[tot]
 | cons a r ih =>
  have h1:=ih (fun s hs=>h s (List.mem_cons_of_mem _ hs));have h2:=h a List.mem_cons_self;simp only[tot,List.map_cons,List.sum_cons,List.length_cons] at h1 ⊢;omega
theorem rest_len(hs:List Src)(v:Value)(r:List Ent)(no:Nat):(rest hs v r no).length≤hs.length+1:=by
 unfold rest;split
 ·omega
 ·simp
theorem zjP{w0 w:World}{sb B:Nat}{v o:Value}{hs:List Src}{es:List Ent}(h:Hp w0 w sb v hs)(ho:OwnE w B o es):∀ k,o.ownBlock=some k→k≠sb∧v.ownBlock≠some k:=by
 intro k hk;rcases ho.2 with ⟨h1,_⟩ | ⟨g,cap,cur,hv,_,hg,_⟩
 ·rw[h1] at hk;cases hk
 ·rw[hv] at hk;have hgk:g=k:=Option.some.inj hk;subst hgk;refine⟨fun e=>?_,fun e=>?_⟩
  ·have:=h.box;rw[← e,hg] at this;simp at this
  ·rcases h.own.2 with ⟨h1,_⟩ | ⟨g',cap',cur',hv',_,hg',_⟩
   ·rw[h1] at e;cases e
   ·rw[hv'] at e;have hgg:g'=g:=Option.some.inj e;rw[hgg,hg] at hg';simp at hg'
theorem ownE_hop{w0 w w':World}{sb B:Nat}{v v' o:Value}{hs:List Src}{es:List Ent}(h:Hp w0 w sb v hs)(ho:OwnE w B o es)(hop:Hop w v sb w' v'):OwnE w' B o es:=by
 refine⟨ho.1,?_⟩;rcases ho.2 with h2 | ⟨g,cap,cur,hv,hg,hh,r⟩
 ·exact .inl h2
 ·have hgo:o.ownBlock=some g:=by rw[hv];rfl
  obtain⟨h1,h3⟩:=zjP h ho g hgo;exact .inr ⟨g,cap,cur,hv,hg,by rw[hop.block g (oL ho g hgo).2 h1 h3];exact hh,r⟩
theorem Hp.grown{w0 w w':World}{sb B:Nat}{v o:Value}{hs:List Src}{es:List Ent}(h:Hp w0 w sb v hs)(ho:OwnE w B o es)(hB:w0.heap.size≤B)(hg:w.grownBy w' o.ownBlock):Hp w0 w' sb v hs:=by
 have ap:=zjP h ho;refine⟨h.bel.grown hg h.bel.size (fun k hk=>nT hB (oL ho k hk).1),h.ge,(hg.block sb h.lt (fun e=>(ap sb e.symm).1 rfl)).trans h.box,ze1 h.own (fun k hk=>hg.block k (h.row_lt k hk) (fun e=>(ap k e.symm).2 hk)),h.ne,h.rd,h.few⟩
theorem hp_start(w:World):Hp w ((w.alloc (.cells #[] 163)).alloc (.cells #[.slice (some ⟨w.heap.size,0,none⟩) 0 0] 137)) (w.heap.size+1) (.slice (some ⟨w.heap.size,0,none⟩) 0 0) []:=by
 have b1:=ze w (.cells #[] 163);have b2:=b1.alloc b1.size (.cells #[.slice (some ⟨w.heap.size,0,none⟩) 0 0] 137);have ho:OwnH (w.alloc (.cells #[] 163)) w.heap.size (.slice (some ⟨w.heap.size,0,none⟩) 0 0) []:=World.ownsRow_lit w #[] 0 (nR _) (Nat.zero_le _) rfl;refine⟨b2,by omega,?_,ho.below (ze _ _),fun k hk=>?_,(fun s hs=>by cases hs),by simp⟩
 ·have:=heap_alloc_new (w.alloc (.cells #[] 163)) (.cells #[.slice (some ⟨w.heap.size,0,none⟩) 0 0] 137);simpa using this
 ·have:w.heap.size=k:=Option.some.inj hk;omega
theorem zns{out:List Ent}{x:Ent}(h:out.length=0∨zP (nth out (out.length-1)) x=false):nxt out x=out++[x]:=if_pos h
theorem nxt_old{out:List Ent}{x:Ent}(h0:0<out.length)(h:zP (nth out (out.length-1)) x=true):nxt out x=out:=if_neg (fun e=>by
 rcases e with e | e
 ·omega
 ·rw[h] at e;cases e)
theorem zdi(v:Value)(ps:List (Value×List Ent))(w:World)(hp:Pieces w v ps)(hn:ps.length≤20)(hok:∀ p∈ps,okL p.2=true) :
 Calls Tryz.prog 74 #[v] w fun e w'=>zbq w (zj (ps.map (·.2))) e w':=by
 obtain⟨ls,hls⟩:∃ ls,ls=ps.map (·.2):=⟨_,rfl⟩;have HSR:Hid (∀ l∈ls,Sr l∧l.length≤300):=fun l hl=>by
  rw[hls] at hl;obtain⟨p,hp',rfl⟩:=List.mem_map.1 hl;exact⟨zaV (hok p hp'),zad (hok p hp')⟩
 rw[← hls];obtain⟨a,cap,hv,hla,hma⟩:∃ a cap,v=.slice a ps.length cap∧ps.length≤cap∧cap≤maxLen:=by
  rcases hp with ⟨rfl,rfl⟩ | ⟨b,off,cap,rfl,h1,h2,_⟩
  ·exact⟨none,0,rfl,nR _,Nat.zero_le _⟩
  ·exact⟨_,cap,rfl,h1,h2⟩
 unfold maxLen at hma;subst hv;obtain⟨nn,hnn⟩:∃ nn,nn=ps.length:=⟨_,rfl⟩;have HNN:Hid (nn=ls.length):=by unfold Hid;rw[hnn,hls,List.length_map]
 have AT:Hid (∀ k,k<nn→∀ w',Below w.heap.size w w'→∃ b off aa zn cc zs,a=some ⟨b,off,none⟩∧w'.cell? ⟨b,off+k,none⟩=some (.slice aa zn cc)∧RdE w (.slice aa zn cc) zs∧ls[k]? = some zs):=by
  intro k hk w' hb;rw[hnn] at hk;rcases hp with ⟨h,he⟩ | ⟨b,off,cap',hv,_,_,hc⟩
  ·subst he;simp at hk
  ·simp only[Value.slice.injEq] at hv;obtain⟨rfl,_,_⟩:=hv;obtain⟨aa,cc,hu,_⟩:=id (hc k hk).2;have h1:=(hc k hk).1;have h2:=(hc k hk).2;rw[hu] at h1 h2;exact⟨b,off,aa,_,cc,_,rfl,(hb.cell (World.block_lt_of_cell? w _ h1)).trans h1,h2,by rw[hls];simp[hk]⟩
 rw[← hnn] at hla hn ⊢;have hst:=hp_start w;clear hp hok hnn hls;go_enter Tryz.func74,Tryz.ntmps74
 go_wp2;obtain⟨sb,hsb⟩:∃ sb,sb=w.heap.size+1:=⟨_,rfl⟩;rw[← hsb] at hst ⊢;clear hsb;go_loopw [12] (fun i wr=>∃ (k:Nat) (vv:Value) (hs:List Src),i=.int .i64 k∧k≤nn∧hs.length≤k∧Hp w wr sb vv hs∧Hid (HP hs hs.length)∧Hid (Start ls k hs)) (fun i _=>nn-(intOf i).toNat)
 case atStart=>exact⟨0,_,[],rfl,Nat.zero_le _,nR _,hst,(fun k h1 h2=>by simp at h2),zoS ls⟩
 case round =>
  obtain⟨k,vv,hs,rfl,hk,hhl,h,HH,HS⟩:=hrel;clear hst;by_cases hlt:k<nn
  ·skip
   obtain⟨b,off,aa,zn,cc,zs,rfl,hc,hrz,hlz⟩:=AT.out k hlt wr h.bel;have hkc:k<cap:=(by omega);have HLZ:Hid (ls[k]? = some zs):=hlz;clear hlz;go_wp2_with fail
   refine(zkC w _ sb vv hs _ zs k _ ?e1 h HH.out hrz (by omega)).mono ?_
   case e1=>rfl
   rintro e w2 ⟨v2,hs2,rfl,h2,hp2,hh2,hop2⟩;have HS2:Hid (Start ls (k+1) hs2):=zm8 HS.out HLZ.out hp2;have HH2:Hid (HP hs2 hs2.length):=hh2;have hl2:hs2.length≤k+1:=(by rw[hp2.length_eq];have:=rest_len hs (.slice aa zn cc) zs k;omega);clear h hop2 hh2 hp2 hrz hc;go_wp2;go_roundw
   case rel=>exact⟨k+1,v2,hs2,by go_num,by omega,hl2,h2,HH2,HS2⟩
   case measure=>simp[intOf];omega
  ·skip
   have hke:k=nn:=(by omega);have HTD:Hid (Told ls hs [] []):=zmG (fun l hl=>(HSR.out l hl).1) (by rw[← HNN.out,← hke];exact HS.out);have htl:tot hs≤6000:=by
    have:=tot_le (hs:=hs) (fun s hs=>by
     obtain⟨_,h1,_⟩:=HS.out.left s hs;exact(HSR.out _ (List.mem_of_getElem? h1)).2)
    omega
   have hoe:=zX wr;have hbe:=ze wr (.cells #[] 40);have he:=h.below hbe;have ho0:=hoe.mono h.bel.size;clear hke HS hoe hbe h AT;go_wp2;go_loopg [6] (tot hs) (fun gg o wr=>∃ (vv:Value) (hs:List Src) (P:List (Ent×Nat)) (out:List Ent),tot hs≤gg∧Hp w wr sb vv hs∧Hid (HP hs hs.length)∧Hid (Told ls hs P out)∧OwnE wr w.heap.size o out∧out.length+tot hs≤6000)
   case atStart=>exact⟨vv,hs,[],[],nR _,he,HH,HTD,ho0,by simpa using htl⟩
   case round =>
    obtain⟨vv,hs,P,out,hgk,h,HH,HT,ho,hol⟩:=hrel;clear he ho0 htl HTD;have hce:=h.cell;cases hcs:hs.length with
    | zero =>
     have hs0:hs=[]:=List.eq_nil_of_length_eq_zero hcs;have HE:Hid (out=zj ls):=(by subst hs0;exact told_end (fun l hl=>(HSR.out l hl).1) HT.out);rw[HE.out] at ho;have hbel:=h.bel;have HL:Hid (Calls _ _ _ _ _):=h.len_any 0 hcs;clear h hs0 HE HH HT hol;go_wp2_with fail
     refine HL.out.mono ?_;rintro e w2 ⟨rfl,hw2⟩;obtain rfl:=hw2.symm;go_wp2;go_ret;exact⟨_,rfl,ho,hbel⟩
    | succ m =>
     obtain⟨_,_,_,_,x,r,_,hes,-⟩:=h.src (i:=0) (by omega);have HC:Hid (Calls _ _ _ _ _):=take_any w wr sb vv hs x r h HH.out (by omega) hes;have HL:Hid (Calls _ _ _ _ _):=h.len_any (m+1) hcs;have hm20:m≤20:=(by have:=h.few;omega);go_wp2_with fail
     refine HL.out.mono ?_;rintro e w2 ⟨rfl,hw2⟩;obtain rfl:=hw2.symm;clear HL;go_wp2_with fail
     refine HC.out.mono ?_;rintro e w3 ⟨hs1,hs3,vt,v3,rfl,hp1,hp3,h3,hh3,hop3⟩;have htt:tot hs3+1=tot hs:=by
      rw[zlM hp3,tot_rest,zlM hp1];simp only[tot,List.map_cons,List.sum_cons,hes,List.length_cons];omega
     have HT3:Hid (Told ls hs3 ((x,(sN hs 0).no)::P) (nxt out x)):=zpn HT.out hp1 hes (fun s hs'=>by
      obtain⟨i,hi,rfl⟩:=List.getElem_of_mem hs';rw[← sN_eq hi];exact HP_min HH.out i hi) hp3
     have HH3:Hid (HP hs3 hs3.length):=hh3;have ho3:=ownE_hop h ho hop3;generalize (x,(sN hs 0).no)::P=P3 at HT3;have hgk3:tot hs3+1≤gk:=(by omega);have HOL:Hid (out.length+(tot hs3+1)≤6000):=(by unfold Hid;rw[htt];exact hol);clear h ho hce HC HH HT hp1 hp3 hh3 hop3 hes hgk htt hol hcs;cases gk with
     | zero=>exfalso;omega
     | succ g =>
      have hx4:=zau w3 x 40;have bX:=ze w3 (.cells #[.string x.key,.string x.val,.int .i64 x.seq,.bool x.gone] 40);have h4:=h3.below bX;have ho4:=ho3.below bX;clear h3 ho3 bX;obtain⟨on,hon⟩:∃ on,on=out.length:=⟨_,rfl⟩;obtain⟨ao,co,hvo,hlo,hmo,_⟩:=id ho4.rd;rw[← hon] at hvo hlo;subst hvo;unfold maxLen at hmo;have HON:Hid (on=out.length):=hon;clear hon;by_cases h0:on=0
      ·skip
       have HNX:Hid (nxt out x=out++[x]):=zns (.inl (by rw[← HON.out];exact h0));have h0b:((on:Int)==0)=true:=(by simp;omega);clear h0;go_wp2_with fail
       refine brg (S:=fun _=>True) trivial (fun hH=>?_);refine kA 0 30 hH ?_;refine kA 1 31 hH ?_;refine kA 2 32 hH ?_;refine kA 3 33 hH ?_;refine kS 4 34 hH ?_;refine kS 5 35 hH ?_;refine kS 6 36 hH ?_;refine kS 7 37 hH ?_;refine kS 8 38 hH ?_;refine kS 9 39 hH ?_;refine kS 10 40 hH ?_;refine kS 11 41 hH ?_;refine kS 12 42 hH ?_;refine kA 13 43 hH ?_;refine dne ?_;replace h4:Hp w (w3.alloc (.cells #[.string x.key,.string x.val,.int .i64 x.seq,.bool x.gone] 40)).drew sb v3 hs3:=h4.below ((Below.refl _ _).drew);replace ho4:OwnE (w3.alloc (.cells #[.string x.key,.string x.val,.int .i64 x.seq,.bool x.gone] 40)).drew w.heap.size (.slice ao on co) out:=ho4;replace hx4:EntAt (w3.alloc (.cells #[.string x.key,.string x.val,.int .i64 x.seq,.bool x.gone] 40)).drew w3.heap.size 0 x:=hx4;generalize (w3.alloc (.cells #[.string x.key,.string x.val,.int .i64 x.seq,.bool x.gone] 40)).drew=W4 at h4 ho4 hx4 ⊢;obtain⟨c0,c1,c2,c3⟩:=id hx4;simp only[Nat.zero_add] at c1 c2 c3;have bA:=ze W4 (.cells #[.string x.key,.string x.val,.int .i64 x.seq,.bool x.gone] 40);have ho5:=ho4.below bA;have h5:=h4.below bA;have own1:=zcH W4 x;have hsz5:=h5.bel.size;clear h4 ho4 bA;go_wp2_with (at_builtin;(refine zp rfl _ _ rfl w.heap.size _ _ out [x] rfl rfl ho5 own1.rd (by have:=HOL.out;simp;omega) hsz5 ?_))
       intro v6 w6 ho6 hg6;have h6:=h5.grown ho5 (nR _) hg6;rw[HNX.out] at HT3;clear h5 ho5 own1 hg6 hx4 c0 c1 c2 c3 hsz5;go_wp2;go_roundg g
       case rel=>exact⟨v3,hs3,_,out++[x],by omega,h6,HH3,HT3,ho6,by have:=HOL.out;rw[lA];simp;omega⟩
       case measure=>omega
      ·obtain⟨j,hj⟩:∃ j,j=on-1:=⟨_,rfl⟩;have hkj:(on:Int)-1=(j:Int):=(by omega);have hwj:IntKind.i64.wrap (j:Int)=(j:Int):=(by rw[IntKind.wrap_i64];omega);have hjn:j<on:=(by omega);have hjc:j<co:=(by omega);have h0b:((on:Int)==0)=false:=(by simp;omega);obtain⟨bo,oo,rfl,hy⟩:=ho4.rd.at HON.out j (by rw[← HON.out];exact hjn);obtain⟨y,hyy⟩:∃ y,y=nth out j:=⟨_,rfl⟩;rw[← hyy] at hy;have HY:Hid (y=nth out (out.length-1)):=(by unfold Hid;rw[hyy,hj,HON.out]);have HO0:Hid (0<out.length):=(by unfold Hid;rw[← HON.out];omega);have HCO:Hid (∀ W,Calls Tryz.prog 100 #[.agg #[.string y.key,.string y.val,.int .i64 y.seq,.bool y.gone],.agg #[.string x.key,.string x.val,.int .i64 x.seq,.bool x.gone]] W fun e w'=>e=.returned (.int .i64 (ordE y x))∧Below W.heap.size W w'):=fun W=>zaG y x W
       have hbd:=znz y x;clear hyy hj h0;cases hk:zP y x with
       | false =>
        have HNX:Hid (nxt out x=out++[x]):=zns (.inr (by rw[← HY.out];exact hk));have hoz:(ordE y x != 0)=true:=by
         simp only[bne_iff_ne,ne_eq];intro e;rw[(zdr y x).1 e] at hk;cases hk
        generalize ordE y x=oxy at HCO hoz hbd;go_wp2_with fail
        refine brg (S:=fun W=>EntAt W bo (oo+j*4) y∧EntAt W w3.heap.size 0 x) ⟨hy,hx4⟩ (fun hH=>?_);refine kA 0 30 hH ?_;refine kA 1 31 hH ?_;refine kA 2 32 hH ?_;refine kA 3 33 hH ?_;refine kA 4 34 hH ?_;refine kA 5 35 hH ?_;refine kA 6 36 hH ?_;refine kA 7 37 hH ?_;refine kA 8 38 hH ?_;refine kA 9 39 hH ?_;refine kA 10 40 hH ?_;refine rdy 11 (fun K hK=>?_);go_simp;refine(HCO.out _).mono ?_;rintro e w5 ⟨rfl,hb5⟩;refine hK.out _ _ ⟨hH.1.below hb5,hH.2.below hb5⟩ (fun hB=>?_);clear hK K;try simp only[Act.put,sA,sZ,sS]
        refine kA 12 42 hB ?_;refine kA 13 43 hB ?_;refine dne ?_;have b5:Below (w3.alloc (.cells #[.string x.key,.string x.val,.int .i64 x.seq,.bool x.gone] 40)).heap.size (w3.alloc (.cells #[.string x.key,.string x.val,.int .i64 x.seq,.bool x.gone] 40)) w5:=((Below.refl _ _).drew).trans hb5;replace h4:=h4.below b5;replace ho4:=ho4.below b5;replace hx4:=hB.2;clear hB hH hb5 b5 hy HCO;obtain⟨c0,c1,c2,c3⟩:=id hx4;simp only[Nat.zero_add] at c1 c2 c3;have bA:=ze w5 (.cells #[.string x.key,.string x.val,.int .i64 x.seq,.bool x.gone] 40);have ho5:=ho4.below bA;have h5:=h4.below bA;have own1:=zcH w5 x;have hsz5:=h5.bel.size;clear h4 ho4 bA;go_wp2_with (at_builtin;(refine zp rfl _ _ rfl w.heap.size _ _ out [x] rfl rfl ho5 own1.rd (by have:=HOL.out;simp;omega) hsz5 ?_))
        intro v6 w6 ho6 hg6;have h6:=h5.grown ho5 (nR _) hg6;rw[HNX.out] at HT3;clear h5 ho5 own1 hg6 hx4 c0 c1 c2 c3 hsz5;go_wp2;go_roundg g
        case rel=>exact⟨v3,hs3,_,out++[x],by omega,h6,HH3,HT3,ho6,by have:=HOL.out;rw[lA];simp;omega⟩
        case measure=>omega
       | true =>
        have HNX:Hid (nxt out x=out):=nxt_old HO0.out (by rw[← HY.out];exact hk);have hoz:(ordE y x != 0)=false:=by
         simp only[bne_eq_false_iff_eq];exact(zdr y x).2 hk
        generalize ordE y x=oxy at HCO hoz hbd;go_wp2_with fail
        refine brg (S:=fun W=>EntAt W bo (oo+j*4) y∧EntAt W w3.heap.size 0 x) ⟨hy,hx4⟩ (fun hH=>?_);refine kA 0 30 hH ?_;refine kA 1 31 hH ?_;refine kA 2 32 hH ?_;refine kA 3 33 hH ?_;refine kA 4 34 hH ?_;refine kA 5 35 hH ?_;refine kA 6 36 hH ?_;refine kA 7 37 hH ?_;refine kA 8 38 hH ?_;refine kA 9 39 hH ?_;refine kA 10 40 hH ?_;refine rdy 11 (fun K hK=>?_);go_simp;refine(HCO.out _).mono ?_;rintro e w5 ⟨rfl,hb5⟩;refine hK.out _ _ ⟨hH.1.below hb5,hH.2.below hb5⟩ (fun hB=>?_);clear hK K;try simp only[Act.put,sA,sZ,sS]
        refine kA 12 42 hB ?_;refine kA 13 43 hB ?_;refine dne ?_;have b5:Below (w3.alloc (.cells #[.string x.key,.string x.val,.int .i64 x.seq,.bool x.gone] 40)).heap.size (w3.alloc (.cells #[.string x.key,.string x.val,.int .i64 x.seq,.bool x.gone] 40)) w5:=((Below.refl _ _).drew).trans hb5;replace h4:=h4.below b5;replace ho4:=ho4.below b5;rw[HNX.out] at HT3;clear hB hH hb5 b5 hy HCO hx4;go_wp2;go_roundg g
        case rel=>exact⟨v3,hs3,_,out,by omega,h4,HH3,HT3,ho4,by have:=HOL.out;omega⟩
        case measure=>omega
open Go.RowKit
def zcg(w:World)(ls:List (List Ent))(e:Ending)(w':World):Prop :=
 ∃ u,e=.returned (.tuple #[u,.bool (zat ls).2])∧OwnE w' w.heap.size u (zat ls).1∧Below w.heap.size w w'
def lsOk(ls:List (List Ent)):Bool:=decide (ls.length≤20)&&ls.all okL
theorem lsOk_no{ls:List (List Ent)}(h:lsOk ls=false):zat ls=([],false):=by
 unfold zat zbd;unfold lsOk at h;rw[h];rfl
theorem lsOk_yes{ls:List (List Ent)}(h:lsOk ls=true):zat ls=if (zj ls).length≤300 then (zj ls,true) else ([],false):=by
 unfold zat zbd;unfold lsOk at h;rw[h,Bool.true_and];by_cases h2:(zj ls).length≤300<;>simp[h2]
theorem zo6{ls:List (List Ent)}{k:Nat}{l:List Ent}(h:ls[k]? = some l)(ho:okL l=false):lsOk ls=false:=by
 unfold lsOk;have:ls.all okL=false:=by
  rw[List.all_eq_false];exact⟨l,List.mem_of_getElem? h,by rw[ho];simp⟩
 rw[this,Bool.and_false]
theorem all_to{ls:List (List Ent)}(h:∀ (k:Nat) (l:List Ent),k<ls.length→ls[k]? = some l→okL l=true):ls.all okL=true:=by
 rw[List.all_eq_true];intro l hl;obtain⟨k,hk,rfl⟩:=List.getElem_of_mem hl;exact h k _ hk (List.getElem?_eq_getElem hk)
theorem Pieces.at{w:World}{v:Value}{ps:List (Value×List Ent)}(hp:Pieces w v ps):∃ a cap,v=.slice a ps.length cap∧ps.length≤cap∧cap≤maxLen ∧
 ∀ k,k<ps.length→∀ w',Below w.heap.size w w'→∃ b off aa zn cc zs,a=some ⟨b,off,none⟩∧w'.cell? ⟨b,off+k,none⟩=some (.slice aa zn cc)∧RdE w' (.slice aa zn cc) zs∧(ps.map (·.2))[k]? = some zs:=by
 have hp':=hp;rcases hp with ⟨rfl,rfl⟩ | ⟨b,off,cap,rfl,h1,h2,hc⟩
 ·exact⟨none,0,rfl,nR _,Nat.zero_le _,fun k hk=>by simp at hk⟩
 ·refine⟨_,cap,rfl,h1,h2,fun k hk w' hb=>?_⟩;obtain⟨aa,cc,hu,_⟩:=id (hc k hk).2;have e1:=(hc k hk).1;have e2:=(hc k hk).2;rw[hu] at e1 e2;exact⟨b,off,aa,_,cc,_,rfl,(hb.cell (World.block_lt_of_cell? w _ e1)).trans e1,e2.below hb,by simp[hk]⟩
theorem zkz(v:Value)(ps:List (Value×List Ent))(w:World)(hp:Pieces w v ps)(hf:∀ p∈ps,∀ e∈p.2,Fits e) :
 Calls Tryz.prog 73 #[v] w fun e w'=>e=.returned (.bool (lsOk (ps.map (·.2))))∧Below w.heap.size w w':=by
 obtain⟨a,cap,hv,hla,hma,hat⟩:=hp.at;obtain⟨ls,hls⟩:∃ ls,ls=ps.map (·.2):=⟨_,rfl⟩;have HF:Hid (∀ l∈ls,∀ e∈l,Fits e):=fun l hl=>by
  rw[hls] at hl;obtain⟨p,hp',rfl⟩:=List.mem_map.1 hl;exact hf p hp'
 have hln:ls.length=ps.length:=by rw[hls,List.length_map]
 rw[← hls] at hat ⊢;obtain⟨nn,hnn⟩:∃ nn,nn=ps.length:=⟨_,rfl⟩;rw[← hnn] at hv hla hat hln;have AT:Hid (∀ k,k<nn→_):=hat;have HLN:Hid (ls.length=nn):=hln;unfold maxLen at hma;subst hv;clear hat hln hnn hls hp hf;by_cases h20:20<nn
 ·have RES:Hid (lsOk ls=false):=by
   unfold Hid lsOk;rw[decide_eq_false (by rw[HLN.out];omega),Bool.false_and]
  go_enter Tryz.func73,Tryz.ntmps73
  go_wp2;go_ret;exact⟨zN RES.out.symm,Below.refl _ _⟩
 ·go_enter Tryz.func73,Tryz.ntmps73
  go_wp2;go_loopw [10] (fun i wr=>∃ k:Nat,i=.int .i64 k∧k≤nn∧Hid (∀ (j:Nat) (l:List Ent),j<k→ls[j]? = some l→okL l=true)∧Below w.heap.size w wr) (fun i _=>nn-(intOf i).toNat)
  case atStart=>exact⟨0,rfl,Nat.zero_le _,(fun j l h=>by omega),Below.refl _ _⟩
  case round =>
   obtain⟨k,rfl,hk,HA,hb⟩:=hrel;by_cases hlt:k<nn
   ·obtain⟨b,off,aa,zn,cc,zs,rfl,hc,hrz,hlz⟩:=AT.out k hlt wr hb;have HLZ:Hid (ls[k]? = some zs):=hlz;have HFZ:Hid (∀ e∈zs,Fits e):=HF.out zs (List.mem_of_getElem? hlz);have hkc:k<cap:=(by omega);clear hlz;cases hok:okL zs with
    | false =>
     have RES:Hid (lsOk ls=false):=zo6 HLZ.out hok;go_wp2_with fail
     refine(zdo _ zs _ hrz HFZ.out hok).mono ?_;rintro e w2 ⟨rfl,hb2⟩;have bz:=hb.trans (hb2.mono hb.size);clear hrz hc hb hb2;go_wp2;go_ret;exact⟨zN RES.out.symm,bz⟩
    | true =>
     have HA2:Hid (∀ (j:Nat) (l:List Ent),j<k+1→ls[j]? = some l→okL l=true):=fun j l hj hl=>by
      by_cases hjk:j=k
      ·rw[hjk,HLZ.out] at hl;rw[← Option.some.inj hl];exact hok
      ·exact HA.out j l (by omega) hl
     go_wp2_with fail
     refine(zcj _ zs _ hrz HFZ.out hok).mono ?_;rintro e w2 ⟨rfl,hb2⟩;have bz:=hb.trans (hb2.mono hb.size);clear hrz hc hb hb2;go_wp2;go_roundw
     case rel=>exact⟨k+1,by go_num,by omega,HA2,bz⟩
     case measure=>simp[intOf];omega
   ·have hke:k=nn:=(by omega);have RES:Hid (lsOk ls=true):=by
     unfold Hid lsOk;rw[decide_eq_true (by rw[HLN.out];omega),Bool.true_and];exact all_to (fun j l hj hl=>HA.out j l (by rw[hke,← HLN.out];exact hj) hl)
    clear hke;go_wp2;go_ret;exact⟨zN RES.out.symm,hb⟩
theorem zmo{ps:List (Value×List Ent)}(h:lsOk (ps.map (·.2))=true):ps.length≤20∧∀ p∈ps,okL p.2=true:=by
 unfold lsOk at h;simp only[Bool.and_eq_true,decide_eq_true_eq,List.length_map,List.all_eq_true] at h;exact⟨h.1,fun p hp=>h.2 _ (List.mem_map_of_mem hp)⟩
theorem zeg(v:Value)(ps:List (Value×List Ent))(w:World)(hp:Pieces w v ps)(hf:∀ p∈ps,∀ e∈p.2,Fits e) :
 Calls Tryz.prog 34 #[v] w fun e w'=>zcg w (ps.map (·.2)) e w':=by
 have HC:Hid (Calls _ _ _ _ _):=zkz v ps w hp hf;cases hk:lsOk (ps.map (·.2)) with
 | false =>
  have HR:Hid (zat (ps.map (·.2))=([],false)):=lsOk_no hk;rw[hk] at HC;unfold zcg;rw[HR.out];clear HR hk hp hf;go_enter Tryz.func34,Tryz.ntmps34
  go_wp2_with fail
  refine HC.out.mono ?_;rintro e w1 ⟨rfl,hb1⟩;have bz:=hb1.alloc hb1.size (.cells #[] 40);have ho:=(zX w1).mono hb1.size;go_wp2;go_ret2
  exact⟨_,rfl,ho,bz⟩
 | true =>
  obtain⟨h20,hok⟩:=zmo hk;have HR:Hid (zat (ps.map (·.2))=_):=lsOk_yes hk;have HM:Hid (∀ W,Below w.heap.size w W→Calls Tryz.prog 74 #[v] W fun e w'=>zbq W (zj (ps.map (·.2))) e w'):=fun W hb=>zdi v ps W (hp.below hb) h20 hok
  rw[hk] at HC;generalize zj (ps.map (·.2))=M at HM HR;clear hk hp hf h20 hok;go_enter Tryz.func34,Tryz.ntmps34
  go_wp2_with fail
  refine HC.out.mono ?_;rintro e w1 ⟨rfl,hb1⟩;go_wp2_with fail
  refine(HM.out _ hb1).mono ?_;rintro e w2 ⟨u,rfl,ho2,hb2⟩;have b2:=hb1.trans (hb2.mono hb1.size);have ho3:=ho2.mono hb1.size;obtain⟨au,cu,hvu,hlu,hmu,-⟩:=id ho3.rd;obtain⟨mn,hmn⟩:∃ mn,mn=M.length:=⟨_,rfl⟩;rw[← hmn] at hvu hlu;subst hvu;unfold maxLen at hmu;have HMN:Hid (mn=M.length):=hmn;clear hmn hb1 hb2 ho2 HM HC;by_cases hm:300<mn
  ·have HR2:Hid (zat (ps.map (·.2))=([],false)):=(by unfold Hid;rw[HR.out,if_neg (by rw[← HMN.out];omega)]);have bz:=b2.alloc b2.size (.cells #[] 40);have ho:=(zX w2).mono b2.size;clear HR;go_wp2;go_ret2
   unfold zcg;rw[HR2.out];exact⟨_,rfl,ho,bz⟩
  ·have HR2:Hid (zat (ps.map (·.2))=(M,true)):=(by unfold Hid;rw[HR.out,if_pos (by rw[← HMN.out];omega)]);clear HR;go_wp2;go_ret2
   unfold zcg;rw[HR2.out];exact⟨_,rfl,ho3,b2⟩
end Go.Proofs.YtjlnchhgkfnldaaGreat
