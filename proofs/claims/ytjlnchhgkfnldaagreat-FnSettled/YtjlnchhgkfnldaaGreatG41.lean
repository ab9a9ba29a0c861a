import Derived.Test.YtjlnchhgkfnldaaGreatG40
import Derived.Deep.DeepCutAuto
import Derived.WalkMore
import Derived.Deep.LoopGhost
namespace Go.Proofs.YtjlnchhgkfnldaaGreat
set_option maxHeartbeats 16000000
set_option maxRecDepth 100000
open Go.RowKit
theorem zcb{T:Tre}(h:TreeP T)(hs:zcm T=true):T.mem.length≠0∧T.young.length<6:=by
 unfold zcm at hs;simp only[Bool.and_eq_true,decide_eq_true_eq] at hs;have:=h.young;exact⟨hs.1,by have:=hs.2;omega⟩
theorem zfJ{T:Tre}(hs:zdD T=true):(zj (tabL T)).length≤300:=by
 unfold zdD at hs;simp only[Bool.and_eq_true,decide_eq_true_eq] at hs;exact hs.2
theorem zd0{T:Tre}(h:TreeP T):zbA T=if zcm T=true then zfA T else T:=by unfold zbA;rw[if_pos ((zQ T).2 h)]
theorem zdw{T:Tre}(h:TreeP T):sinkR T=if zdD T=true then sinkT T else T:=by unfold sinkR;rw[if_pos ((zQ T).2 h)]
theorem zkQ{T:Tre}(h:TreeP T):TreeP (zbA T):=by
 rw[zd0 h];split
 ·rename_i hs;exact zdT h (zcb h hs).1 (zcb h hs).2
 ·exact h
theorem zng{T:Tre}(h:TreeP T):TreeP (sinkR T):=by
 rw[zdw h];split
 ·rename_i hs;exact zgE h (zfJ hs)
 ·exact h
theorem zkX{T:Tre}(h:TreeP T)(k:ByteArray)(q:Int):readT (zbA T) k q=readT T k q:=by
 rw[zd0 h];split
 ·rename_i hs;exact zmk h (zcb h hs).1 (zcb h hs).2 k q
 ·rfl
theorem zmB{T:Tre}(h:TreeP T)(k:ByteArray){q:Int}(hq:q∈T.snaps++[T.seq]):readT (sinkR T) k q=readT T k q:=by
 rw[zdw h];split
 ·rename_i hs;exact zoG h (zfJ hs) k hq
 ·rfl
theorem znb{T:Tre}(h:TreeP T):(zbA T).seq=T.seq:=by rw[zd0 h];split<;>rfl
theorem zn3{T:Tre}(h:TreeP T):(sinkR T).seq=T.seq:=by rw[zdw h];split<;>rfl
theorem zk2{T:Tre}(h:TreeP T):(sinkR T).snaps=T.snaps:=by rw[zdw h];split<;>rfl
theorem znr{T:Tre}(h:zbr T=true):(zbA T).mem=[]:=by
 unfold zbr at h;have h2:=Bool.and_eq_true_iff.1 h;rw[zd0 ((zQ T).1 h2.1),if_pos h2.2];rfl
theorem zlg{T:Tre}(h:sinkO T=true):(sinkR T).young=[]:=by
 unfold sinkO at h;have h2:=Bool.and_eq_true_iff.1 h;rw[zdw ((zQ T).1 h2.1),if_pos h2.2];rfl
theorem zoZ{T:Tre}{a b:ByteArray}{q:Int}{e:Ent}(he:e∈scanT T a b q):readT T e.key q=some e.val∧kLt e.key a=false∧kLt e.key b=true:=by
 unfold scanT at he;split at he
 ·rename_i h;have hp:=(zQ T).1 h.1;have hok:=zoi hp h.2;unfold scanL at he;obtain⟨h1,h2⟩:=List.mem_filter.1 he;have h3:e∈zaJ (zj (lsT T)) q:=by unfold zaJ;rw[if_pos hok];exact h1
  have h4:=(zgs hok q e).1 h3;unfold inR at h2;simp only[Bool.and_eq_true,Bool.not_eq_true'] at h2;refine⟨?_,h2.1,h2.2⟩;rw[zdY hp];unfold readL;rw[h4.1];unfold tellE;simp[h4.2]
 ·cases he
theorem scan_len(T:Tre)(a b:ByteArray)(q:Int):(scanT T a b q).length≤300:=by
 unfold scanT;split
 ·rename_i h;unfold scanL;exact nT (List.length_filter_le _ _) (nT (zo0 _ _) h.2)
 ·exact Nat.zero_le _
end Go.Proofs.YtjlnchhgkfnldaaGreat
namespace Go.Proofs.YtjlnchhgkfnldaaGreat
set_option maxHeartbeats 16000000
set_option maxRecDepth 100000
open Go.RowKit
def zmb(w:World)(e:Ending)(w':World):Prop :=
 ∃ X:TrX,e=.returned (.agg #[X.vm,X.vy,X.vo,.int .i64 X.seq,X.vs])∧RdTr w' X∧FitTr X∧NilOk X.vy∧NilOk X.vo∧X.snaps.length≤7∧Below w.heap.size w w'∧∀ bs W',(∀ k∈bs,k≤w.heap.size)→Touch bs w' W'→RdTr W' X
theorem zg1(cv:Value)(cs:List UInt8)(w:World)(hr:Rd w cv cs)(hcs:cs.length≤4096) :
 Calls Tryz.prog 29 #[cv] w fun e w'=>zmb w e w':=by
 have zr:=zag w (.slice none 0 0) (.slice none 0 0) (.slice none 0 0) (.slice none 0 0) 0;obtain⟨W0,hW0⟩:∃ W0,W0=w.alloc (.cells #[.slice none 0 0,.slice none 0 0,.slice none 0 0,.int .i64 0,.slice none 0 0] 28):=⟨_,rfl⟩;have bw0:Below w.heap.size w W0:=by rw[hW0];exact ze w _
 have s0:W0.heap.size=w.heap.size+1:=by rw[hW0];simp
 have HW0:Hid (w.alloc (.cells #[.slice none 0 0,.slice none 0 0,.slice none 0 0,.int .i64 0,.slice none 0 0] 28)=W0):=hW0.symm;rw[← hW0] at zr;have hr0:=hr.below bw0;obtain⟨ca,cc0,hcv,-⟩:=id hr;subst hcv;clear hW0 hr;go_enter Tryz.func29,Tryz.ntmps29
 go_wp2_with fail
 rw[HW0.out];refine(zkb _ cs _ hr0 hcs).mono ?_;rintro e wN ⟨g,rfl,dcN⟩;have hge:=dcN.ge;have hgl:=dcN.lt;have bN:=dcN.bel;have zrN:=zr.on bN;have bwN:=bw0.trans (bN.mono bw0.size);go_wp2_with fail
 refine(zeK W0 wN g dcN).mono ?_;rintro e w1 ⟨X,rfl,hst,hfit,hny,hno,hfew,dc1,hg1⟩;have hrd1:=hst [] w1 (fun k hk=>by cases hk) (Touch.refl _ _);obtain⟨am,ay,ao,an,mn,yn,on,nn,cm,cy,co,cn,v0,v1,v2,v3⟩:=hrd1.slices;obtain⟨vm4,vy4,vo4,vs4,mem4,ys4,os4,seq4,snaps4⟩:=X;simp only at v0 v1 v2 v3;subst v0;subst v1;subst v2;subst v3;have zr1:BoxTr w1 w.heap.size (.slice none 0 0) (.slice none 0 0) (.slice none 0 0) 0 (.slice none 0 0):=(hg1.block w.heap.size zrN.lt (fun e=>by simp at e;omega)).trans zrN;have bw1:Below w.heap.size w w1:=bwN.grown hg1 bwN.size (fun k hk=>by have:=Option.some.inj hk;omega);have hwN:w.heap.size<wN.heap.size:=by omega
 have END:Hid (zmb w (.returned (.agg #[.slice am mn cm,.slice ay yn cy,.slice ao on co,.int .i64 seq4,.slice an nn cn])) (put5 w1 w.heap.size (.slice am mn cm) (.slice ay yn cy) (.slice ao on co) (.int .i64 seq4) (.slice an nn cn))) :=
  ⟨_,rfl,hst [w.heap.size] _ (fun k hk=>by rw[List.mem_singleton.1 hk];exact hwN) touch_put5,hfit,hny,hno,hfew,zR bw1 (nR _),fun bs W' hb ht=>hst (w.heap.size::bs) W' (fun k hk=>by rcases List.mem_cons.1 hk with rfl | h;exact hwN;have:=hb k h;omega) ((touch_put5.more (by simp)).trans (ht.more (fun k hk=>List.mem_cons_of_mem _ hk)))⟩
 obtain⟨m0,m1,m2,m3,m4,n0,n1,n2,n3,n4⟩:=zr1.facts;have hzF:=zF zr1 (.slice am mn cm) (.slice ay yn cy) (.slice ao on co) (.slice an nn cn) seq4;obtain⟨f0,f1,f2,f3,f4,-⟩:=hzF.facts;unfold put5 at f0 f1 f2 f3 f4 END;clear hst hfit hny hno hfew dc1 hg1 hrd1 zr zrN zr1 bN bwN bw0 bw1 hr0 hcs hzF hge hgl s0 hwN dcN HW0;go_wp2;exact bodyPost_ret (v:=.agg #[.slice am mn cm,.slice ay yn cy,.slice ao on co,.int .i64 seq4,.slice an nn cn]) (by simp[results,Tryz.results29,go_sem,f0,f1,f2,f3,f4]) rfl END.out
theorem zgH{w:World}{b:Nat}{vm vy vo vs:Value}{q:Int}(h:BoxTr w b vm vy vo q vs):w.cell? ⟨b,0,none⟩=some vm∧w.cell? ⟨b,1,none⟩=some vy∧w.cell? ⟨b,2,none⟩=some vo∧w.cell? ⟨b,3,none⟩=some (.int .i64 q)∧w.cell? ⟨b,4,none⟩=some vs:=by
 obtain⟨f0,f1,f2,f3,f4,-⟩:=h.facts;exact⟨f0,f1,f2,f3,f4⟩
theorem DW.finR{w0 w w1 W:World}{g b5 B0 N:Nat}{X:TrX}{v:Value}{xs:List Wri}(h:DW w0 w w1 W g b5 B0 X v xs)(hst:∀ bs W',(∀ k∈bs,k<N)→Touch bs w1 W'→RdTr W' X)(hgN:g<N) :
 RdTr (put5 W w.heap.size X.vm X.vy X.vo (.int .i64 X.seq) X.vs) X∧Below w.heap.size w (put5 W w.heap.size X.vm X.vy X.vo (.int .i64 X.seq) X.vs):=by
 have h1:=h.wg;have ht:Touch [w.heap.size] W (put5 W w.heap.size X.vm X.vy X.vo (.int .i64 X.seq) X.vs):=touch_put5;refine⟨hst [g,w.heap.size] _ (fun k hk=>?_) ((h.tch.more (by simp)).trans (ht.more (by simp))),zR h.bel (nR _)⟩;simp only[List.mem_cons,List.not_mem_nil,or_false] at hk;omega
end Go.Proofs.YtjlnchhgkfnldaaGreat
namespace Go.Proofs.YtjlnchhgkfnldaaGreat
set_option maxHeartbeats 16000000
set_option maxRecDepth 100000
open Go.RowKit
def DrawSP(w:World)(e:Ending)(w':World):Prop :=
 ∃ (X:TrX) (tb t:ByteArray) (q:Int),e=.returned (.tuple #[.agg #[X.vm,X.vy,X.vo,.int .i64 X.seq,X.vs],.string tb,.string t,.int .i64 q])∧RdTr w' X∧FitTr X∧NilOk X.vy∧NilOk X.vo∧X.snaps.length≤7∧tb.size≤3∧t.size≤3∧(q=X.seq∨-1≤q∧q≤20)∧Below w.heap.size w w'
theorem zjW(cv:Value)(cs:List UInt8)(w:World)(hr:Rd w cv cs)(hcs:cs.length≤4096) :
 Calls Tryz.prog 12 #[cv] w fun e w'=>DrawSP w e w':=by
 have zr:=zag w (.slice none 0 0) (.slice none 0 0) (.slice none 0 0) (.slice none 0 0) 0;obtain⟨W0,hW0⟩:∃ W0,W0=w.alloc (.cells #[.slice none 0 0,.slice none 0 0,.slice none 0 0,.int .i64 0,.slice none 0 0] 28):=⟨_,rfl⟩;have bw0:Below w.heap.size w W0:=by rw[hW0];exact ze w _
 have s0:W0.heap.size=w.heap.size+1:=by rw[hW0];simp
 have HW0:Hid (w.alloc (.cells #[.slice none 0 0,.slice none 0 0,.slice none 0 0,.int .i64 0,.slice none 0 0] 28)=W0):=hW0.symm;rw[← hW0] at zr;have hr0:=hr.below bw0;obtain⟨ca,cc0,hcv,-⟩:=id hr;subst hcv;clear hW0 hr;go_enter Tryz.func12,Tryz.ntmps12
 go_wp2_with fail
 rw[HW0.out];refine(zkb _ cs _ hr0 hcs).mono ?_;rintro e wN ⟨g,rfl,dcN⟩;have hge:=dcN.ge;have hgl:=dcN.lt;have bN:=dcN.bel;have zrN:=zr.on bN;have bwN:=bw0.trans (bN.mono bw0.size);go_wp2_with fail
 refine(zeK W0 wN g dcN).mono ?_;rintro e w1 ⟨X,rfl,hst,hfit,hny,hno,hfew,dc1,hg1⟩;have hrd1:=hst [] w1 (fun k hk=>by cases hk) (Touch.refl _ _);obtain⟨am,ay,ao,an,mn,yn,on,nn,cm,cy,co,cn,v0,v1,v2,v3⟩:=hrd1.slices;obtain⟨vm4,vy4,vo4,vs4,mem4,ys4,os4,seq4,snaps4⟩:=X;simp only at v0 v1 v2 v3;subst v0;subst v1;subst v2;subst v3;have HST:Hid (∀ bs W',(∀ k∈bs,k<wN.heap.size)→Touch bs w1 W'→RdTr W' ⟨.slice am mn cm,.slice ay yn cy,.slice ao on co,.slice an nn cn,mem4,ys4,os4,seq4,snaps4⟩):=hst;have HFC:Hid (FitTr ⟨.slice am mn cm,.slice ay yn cy,.slice ao on co,.slice an nn cn,mem4,ys4,os4,seq4,snaps4⟩∧NilOk (.slice ay yn cy)∧NilOk (.slice ao on co)∧snaps4.length≤7):=⟨hfit,hny,hno,hfew⟩;have bb1:=ze w1 (.cells #[.slice am mn cm,.slice ay yn cy,.slice ao on co,.int .i64 seq4,.slice an nn cn] 28);have zb2:=zag w1 (.slice am mn cm) (.slice ay yn cy) (.slice ao on co) (.slice an nn cn) seq4;have zr1:BoxTr w1 w.heap.size (.slice none 0 0) (.slice none 0 0) (.slice none 0 0) 0 (.slice none 0 0):=(hg1.block w.heap.size zrN.lt (fun e=>by simp at e;omega)).trans zrN;have bw1:Below w.heap.size w w1:=bwN.grown hg1 bwN.size (fun k hk=>by have:=Option.some.inj hk;omega);have s1:=hg1.size;have HGN:Hid (g<wN.heap.size):=hgl;have dw:DW W0 w w1 (w1.alloc (.cells #[.slice am mn cm,.slice ay yn cy,.slice ao on co,.int .i64 seq4,.slice an nn cn] 28)) g w1.heap.size (w1.heap.size+1) ⟨.slice am mn cm,.slice ay yn cy,.slice ao on co,.slice an nn cn,mem4,ys4,os4,seq4,snaps4⟩ (.slice none 0 0) [] :=
  ⟨dc1.below bb1,bw1.trans (bb1.mono bw1.size),zb2,zr1.on bb1,Touch.of_below bb1,⟨rfl,.inl ⟨rfl,rfl⟩⟩,by simp,by omega,by omega,rfl,by omega⟩
 have HN1:Hid (wN.heap.size≤w1.heap.size+1):=by unfold Hid;omega
 clear hst hfit hny hno hfew dc1 hg1 hrd1 zr zrN zr1 bN bwN bw0 bw1 hr0 hcs hge hgl s0 dcN HW0 bb1 zb2 s1;generalize hb5:w1.heap.size=b5 at dw HN1;have HB5:Hid (w1.heap.size=b5):=hb5;clear hb5;obtain⟨y0,y1,y2,y3,y4,-⟩:=dw.box.facts;simp only at y0 y1 y2 y3 y4;rw[← HB5.out] at y3;clear y0 y1 y2 y4;go_wp2_with fail
 clear y3;rw[HB5.out];revert dw;generalize w1.alloc (.cells #[.slice am mn cm,.slice ay yn cy,.slice ao on co,.int .i64 seq4,.slice an nn cn] 28)=W2;intro dw;refine(za6 W0 _ g 2 dw.dc (by omega) (by omega)).mono ?_;rintro e w3 ⟨bb,rfl,dc3,hg3⟩;replace dw:=dw.draw hg3 dc3 HGN.out HN1.out;clear dc3 hg3;go_upto_if 17 with fail
 go_cut [8] (fun t8 W=>∃ q:Int,t8=.int .i64 q∧(q=seq4∨-1≤q∧q≤20)∧DW W0 w w1 W g b5 (b5+1) ⟨.slice am mn cm,.slice ay yn cy,.slice ao on co,.slice an nn cn,mem4,ys4,os4,seq4,snaps4⟩ (.slice none 0 0) [])
 case first =>
  cases bb with
  | false =>
   go_wp2;go_meet
   case rel=>exact⟨seq4,rfl,.inl rfl,dw⟩
  | true =>
   go_wp2_with fail
   refine(zcY W0 _ g (-1) 20 dw.dc (by omega) (by omega) (by omega)).mono ?_;rintro e w4 ⟨x,rfl,hx0,hx1,dc4,hg4⟩;replace dw:=dw.draw hg4 dc4 HGN.out HN1.out;clear dc4 hg4;go_wp2;go_meet
   case rel=>exact⟨x,rfl,.inr ⟨hx0,hx1⟩,dw⟩
 case rest =>
  clear dw;obtain⟨q,rfl,hq,dw⟩:=hcut;have HQ:Hid (q=seq4∨-1≤q∧q≤20):=hq;clear hq;go_wp2_with fail
  refine(zca W0 _ g dw.dc).mono ?_;rintro e w5 ⟨ta,rfl,hta,dc5,hg5⟩;replace dw:=dw.draw hg5 dc5 HGN.out HN1.out;have HTA:Hid (ta.size≤3):=hta;clear hta dc5 hg5;go_wp2_with fail
  refine(za6 W0 _ g 2 dw.dc (by omega) (by omega)).mono ?_;rintro e w6 ⟨b2,rfl,dc6,hg6⟩;replace dw:=dw.draw hg6 dc6 HGN.out HN1.out;clear dc6 hg6;go_upto_if 23 with fail
  go_cut [9] (fun t9 W=>∃ ta:ByteArray,t9=.string ta∧ta.size≤3∧DW W0 w w1 W g b5 (b5+1) ⟨.slice am mn cm,.slice ay yn cy,.slice ao on co,.slice an nn cn,mem4,ys4,os4,seq4,snaps4⟩ (.slice none 0 0) [])
  case first =>
   cases b2 with
   | false =>
    go_wp2;go_meet
    case rel=>exact⟨ta,rfl,HTA.out,dw⟩
   | true =>
    go_wp2;go_meet
    case rel=>exact⟨⟨#[]⟩,rfl,by decide,dw⟩
  case rest =>
   clear dw HTA;obtain⟨tb,rfl,htb,dw⟩:=hcut;have HTB:Hid (tb.size≤3):=htb;clear htb;go_wp2_with fail
   refine brg (S:=fun W=>W.cell? ⟨b5,0,none⟩=some (.slice am mn cm)∧W.cell? ⟨b5,1,none⟩=some (.slice ay yn cy)∧W.cell? ⟨b5,2,none⟩=some (.slice ao on co)∧W.cell? ⟨b5,3,none⟩=some (.int .i64 seq4)∧W.cell? ⟨b5,4,none⟩=some (.slice an nn cn)) (zgH dw.box) (fun hS=>?_);replace dw:=dw.below ((Below.refl _ _).drew);revert hS dw;generalize World.drew _=V;intro hS dw;refine kG 0 24 hS ?_;refine kG 1 25 hS ?_;refine kG 2 26 hS ?_;refine kG 4 28 hS ?_;refine rdy 3 (fun K hK=>?_);go_simp;refine(zca W0 _ g dw.dc).mono ?_;rintro e V1 ⟨t,rfl,ht,dc1,hg1⟩;replace dw:=dw.draw hg1 dc1 HGN.out HN1.out;clear hS dc1 hg1;have bx:=zgH dw.box;refine hK.out _ _ bx (fun hS=>?_);clear hK K;try simp only[Act.put,sA,sZ,sS]
   clear bx;refine rdy 5 (fun K hK=>?_);have hne:b5≠w.heap.size:=(by have h1:=dw.wg;have h2:=dw.gb;omega);have bx5:BoxTr (put5 V1 w.heap.size (.slice am mn cm) (.slice ay yn cy) (.slice ao on co) (.int .i64 seq4) (.slice an nn cn)) b5 (.slice am mn cm) (.slice ay yn cy) (.slice ao on co) seq4 (.slice an nn cn):=zD (zD (zD (zD (zD dw.box hne) hne) hne) hne) hne;have hzF:=zF dw.res (.slice am mn cm) (.slice ay yn cy) (.slice ao on co) (.slice an nn cn) seq4;obtain⟨e1,e2⟩:=dw.finR HST.out HGN.out;have END:Hid (DrawSP w (.returned (.tuple #[.agg #[.slice am mn cm,.slice ay yn cy,.slice ao on co,.int .i64 seq4,.slice an nn cn],.string tb,.string t,.int .i64 q])) (put5 V1 w.heap.size (.slice am mn cm) (.slice ay yn cy) (.slice ao on co) (.int .i64 seq4) (.slice an nn cn))) :=
    ⟨_,tb,t,q,rfl,e1,HFC.out.1,HFC.out.2.1,HFC.out.2.2.1,HFC.out.2.2.2,HTB.out,ht,HQ.out,e2⟩
   obtain⟨m0,m1,m2,m3,m4,n0,n1,n2,n3,n4⟩:=dw.res.facts;clear e1 e2 dw;unfold put5 at bx5 hzF END;go_simp;clear hS m0 m1 m2 m3 m4 n0 n1 n2 n3 n4;refine hK.out _ _ (zgH bx5) (fun hS=>?_);clear hK K bx5;try simp only[Act.put,sA,sZ,sS]
   revert hS END hzF;generalize ((((V1.setCell ⟨w.heap.size,0,none⟩ (.slice am mn cm)).setCell ⟨w.heap.size,1,none⟩ (.slice ay yn cy)).setCell ⟨w.heap.size,2,none⟩ (.slice ao on co)).setCell ⟨w.heap.size,3,none⟩ (.int .i64 seq4)).setCell ⟨w.heap.size,4,none⟩ (.slice an nn cn)=V6;intro hzF END hS;refine kG 6 3 hS ?_;refine kG 7 4 hS ?_;refine kG 8 5 hS ?_;refine dne ?_;obtain⟨f0,f1,f2,f3,f4,-⟩:=hzF.facts;clear hS hzF;go_wp2;exact bodyPost_ret (v:=.tuple #[.agg #[.slice am mn cm,.slice ay yn cy,.slice ao on co,.int .i64 seq4,.slice an nn cn],.string tb,.string t,.int .i64 q]) (by simp[results,Tryz.results12,go_sem,f0,f1,f2,f3,f4]) rfl END.out
open Go.RowKit
theorem zoU{es:List Ent}(hok:okL es=true){i:Nat}(hi:i<es.length):(nth es i).seq≤1000000:=by
 have:=((zaD es).1 hok).2.1 (nth es i) (by rw[zU hi];exact List.getElem_mem hi);simp only[okE,Bool.and_eq_true,decide_eq_true_eq] at this;exact this.2
theorem zmJ{es:List Ent}(hok:okL es=true){i:Nat}(hi:i<es.length):nwAt es i=zah es 1000000 i:=by
 unfold nwAt zah;have h1:=zoU hok hi;rw[decide_eq_true h1,Bool.true_and];by_cases h0:i=0
 ·simp[h0]
 ·have h2:=zoU hok (show i-1<es.length by omega);have h3:decide ((1000000:Int)<(nth es (i-1)).seq)=false:=decide_eq_false (by omega);rw[h3,Bool.or_false]
theorem znc{es:List Ent}(hok:okL es=true){i:Nat}(hi:i<es.length)(q:Int):snAt es i q=zah es q i:=by
 rw[zhm hok q i hi];unfold snAt;cases hq:seenL es (nth es i).key q with
 | none=>simp
 | some u =>
  have hu:u∈es:=List.mem_of_find?_eq_some hq;have hk:=(za7 hq).1;have hm:nth es i∈es:=by rw[zU hi];exact List.getElem_mem hi
  simp only[Option.isSome_some,Bool.true_and,Option.getD_some,Option.some.injEq];apply decide_eq_decide.2;exact⟨fun h=>ks_eq (zaV hok) hu hm hk h,fun h=>by rw[h]⟩
theorem kept_any{es:List Ent}(hok:okL es=true)(qs:List Int){i:Nat}(hi:i<es.length):kept es qs i=(1000000::qs).any (fun q=>zah es q i):=by
 rw[zol,List.any_cons,zmJ hok hi];congr 1
 exact congrArg (fun f=>qs.any f) (funext fun q=>znc hok hi q)
theorem zoB{qs:List Int}{j:Nat}(hj:j<qs.length)(p:Int→Bool)(h:(qs.take j).any p=false):(p qs[j]=false→(qs.take (j+1)).any p=false)∧(p qs[j]=true→qs.any p=true):=by
 refine⟨fun h1=>by rw[zlO hj,h,h1];rfl,fun h1=>List.any_eq_true.2 ⟨_,List.getElem_mem hj,h1⟩⟩
theorem ziA(v vq:Value)(es:List Ent)(qs:List Int)(w:World)(hr:RdE w v es)(hq:RdI w vq qs)(hf:∀ e∈es,Fits e) :
 Calls Tryz.prog 75 #[v,vq] w fun e w'=>zbq w (zc0 es qs) e w':=by
 obtain⟨a,cap,hv,hl,hm,_⟩:=id hr;obtain⟨nn,hnn⟩:∃ nn,nn=es.length:=⟨_,rfl⟩;have HNN:Hid (nn=es.length):=hnn;rw[← hnn] at hv hl;subst hv;unfold maxLen at hm;obtain⟨aq,cq,hvq,hlq,hmq,_⟩:=id hq;obtain⟨mm,hmm⟩:∃ mm,mm=qs.length:=⟨_,rfl⟩;have HMM:Hid (mm=qs.length):=hmm;rw[← hmm] at hvq hlq;subst hvq;unfold maxLen at hmq;clear hnn hmm;cases hok:okL es with
 | false =>
  have RES:Hid (zc0 es qs=[]):=by unfold Hid zc0 toldS;simp[hok]
  go_enter Tryz.func75,Tryz.ntmps75
  go_wp2;go_step3
  go_wp2_with fail
  refine(zdo _ es _ hr hf hok).mono ?_;rintro e w1 ⟨rfl,hb1⟩;go_wp2;try rw[Exit.noGoto_ret]
  go_ret;refine⟨_,rfl,?_,hb1.alloc hb1.size _⟩;rw[RES.out];exact(zX w1).mono hb1.size
 | true =>
  by_cases hm20:20<mm
  ·skip
   have RES:Hid (zc0 es qs=[]):=by
    unfold Hid zc0 toldS;have:decide (qs.length≤20)=false:=decide_eq_false (by rw[← HMM.out];omega);simp[hok,this]
   go_enter Tryz.func75,Tryz.ntmps75
   go_wp2;go_step3
   go_wp2_with fail
   refine(zcj _ es _ hr hf hok).mono ?_;rintro e w1 ⟨rfl,hb1⟩;go_wp2;try rw[Exit.noGoto_ret]
   go_ret;refine⟨_,rfl,?_,hb1.alloc hb1.size _⟩;rw[RES.out];exact(zX w1).mono hb1.size
  ·skip
   have RES:Hid (zc0 es qs=zbs es qs):=by
    unfold Hid zc0 toldS;have:decide (qs.length≤20)=true:=decide_eq_true (by rw[← HMM.out];omega);simp[hok,this]
   have hnl:nn≤300:=(by have:=zad hok;rw[HNN.out];exact this);have HOK:Hid (okL es=true):=hok;have HKA:Hid (∀ k,k<nn→kept es qs k=(1000000::qs).any (fun q=>zah es q k)):=fun k hk=>kept_any HOK.out qs (by rw[← HNN.out];exact hk)
   go_enter Tryz.func75,Tryz.ntmps75
   go_wp2;go_step3
   go_wp2_with fail
   refine(zcj _ es _ hr hf hok).mono ?_;rintro e w1 ⟨rfl,hb1⟩;clear hok hf;have hoi:=zeP w1 1000000;have bi:=hb1.alloc hb1.size (.cells #[.int .i64 1000000] 2);have hq1:=hq.below bi;have hs1:=hb1.size;clear hb1 hq;go_wp2_with (at_builtin;(refine zaw rfl _ _ rfl w1.heap.size _ _ [1000000] qs rfl rfl hoi hq1 (by rw[← HMM.out];simp;omega) (by simp) ?_))
   intro v2 w2 ho2 hg2;have b2:Below w.heap.size w w2:=bi.grown hg2 (by simp;omega) (fun k hk=>by cases hk;exact hs1);obtain⟨sq,hsq⟩:∃ sq,sq=1000000::qs:=⟨_,rfl⟩;have ho2':OwnI w2 w.heap.size v2 sq:=(by rw[hsq];exact ho2.mono hs1);obtain⟨g2,c2,hv2⟩:=zgV ho2' (by rw[hsq];simp);obtain⟨sn,hsn⟩:∃ sn,sn=sq.length:=⟨_,rfl⟩;have HSN:Hid (sn=sq.length):=hsn;have hs21:sn≤21:=(by rw[hsn,hsq,List.length_cons,← HMM.out];omega);rw[← hsn] at hv2;subst hv2;rw[← hsq] at HKA;obtain⟨a2,cc2,hvv,hlc,hmc,_⟩:=id ho2'.rd;simp only[Value.slice.injEq] at hvv;obtain⟨h1x,h2x,rfl⟩:=hvv;clear h1x h2x;rw[← hsn] at hlc;unfold maxLen at hmc;have ho3:=ho2'.below (ze w2 (.cells #[] 40));have hgB:g2<w2.heap.size:=zn2 ho2' g2 rfl;obtain⟨B2,hB2⟩:∃ B2,B2=w2.heap.size:=⟨_,rfl⟩;have hoe:OwnE (w2.alloc (.cells #[] 40)) B2 (.slice (some ⟨w2.heap.size,0,none⟩) 0 0) []:=(by rw[hB2];exact zX w2);have hszB:B2≤(w2.alloc (.cells #[] 40)).heap.size:=(by simp;omega);have hBw2:w.heap.size≤B2:=(by rw[hB2];exact b2.size);rw[← hB2] at hgB;have b3:=b2.alloc b2.size (.cells #[] 40);clear hsq hsn ho2 ho2' hg2 b2 bi hoi hq1 hs1 hB2;go_wp2;go_step3
   go_wp2;go_loopg [6,26] nn (fun gg u i wr=>∃ k:Nat,k+gg=nn∧i=.int .i64 k∧OwnE wr B2 u (seTo es qs k)∧OwnI wr w.heap.size (.slice (some ⟨g2,0,none⟩) sn c2) sq∧B2≤wr.heap.size∧Below w.heap.size w wr)
   case atStart=>exact⟨0,by omega,rfl,hoe,ho3,hszB,b3⟩
   case round =>
    obtain⟨k,hkg,rfl,ho,hoi,hsB,hb⟩:=hrel;clear ho3 hoe b3 hszB;by_cases hlt:k<nn
    ·cases gk with
     | zero=>exfalso;omega
     | succ gg =>
      obtain⟨b,off,rfl,hc⟩:=(hr.below hb).at HNN.out k (by rw[← HNN.out];exact hlt);obtain⟨x,hx⟩:∃ x,x=nth es k:=⟨_,rfl⟩;rw[← hx] at hc;have HX:Hid (x=nth es k):=hx;obtain⟨hY,hN⟩:=zkG es qs k;have HYES:Hid (sq.any (fun q=>zah es q k)=true→seTo es qs (k+1)=seTo es qs k++[x]):=fun h=>by rw[hx];exact hY (by rw[HKA.out k hlt];exact h)
      have HNO:Hid (sq.any (fun q=>zah es q k)=false→seTo es qs (k+1)=seTo es qs k):=fun h=>hN (by rw[HKA.out k hlt];exact h)
      have hsl:(seTo es qs k).length≤300:=(by have:=zf0 es qs k;omega);clear hx hY hN;obtain⟨c0,c1,c2',c3⟩:=id hc;have hoA:=ho.below (ze wr (.cells #[.string x.key,.string x.val,.int .i64 x.seq,.bool x.gone] 40));have hoiA:=hoi.below (ze wr (.cells #[.string x.key,.string x.val,.int .i64 x.seq,.bool x.gone] 40));have hbA:=hb.alloc hb.size (.cells #[.string x.key,.string x.val,.int .i64 x.seq,.bool x.gone] 40);have hxA:=zau wr x 40;have hBw:w.heap.size≤wr.heap.size:=hb.size;have hlB:∀ j,u6.ownBlock=some j→j<wr.heap.size:=ziy ho;have hsBA:B2≤(wr.alloc (.cells #[.string x.key,.string x.val,.int .i64 x.seq,.bool x.gone] 40)).heap.size:=(by simp;omega);clear ho hoi hb hsB;go_wp2;generalize wr.alloc (.cells #[.string x.key,.string x.val,.int .i64 x.seq,.bool x.gone] 40)=W1 at hoA hoiA hbA hxA hsBA ⊢;generalize wr.heap.size=B at hxA hBw hlB ⊢;clear c0 c1 c2' c3 hc wr;go_loopg [6,33] sn (fun g3 u j wr=>∃ jn:Nat,jn+g3=sn∧j=.int .i64 jn∧Hid ((sq.take jn).any (fun q=>zah es q k)=false)∧OwnE wr B2 u (seTo es qs k)∧OwnI wr w.heap.size (.slice (some ⟨g2,0,none⟩) sn c2) sq∧EntAt wr B 0 x∧B2≤wr.heap.size∧Below w.heap.size w wr)
      case atStart=>exact⟨0,by omega,rfl,by unfold Hid;simp,hoA,hoiA,hxA,hsBA,hbA⟩
      case round =>
       obtain⟨jn,hjg,rfl,HJ,ho,hoi,hxa,hsB,hb⟩:=hrel;clear hoA hoiA hxA hbA hsBA;by_cases hjl:jn<sn
       ·cases gk with
        | zero=>exfalso;omega
        | succ g3 =>
         obtain⟨b',o',hbo,hcq⟩:=hoi.rd.at jn (by rw[← HSN.out];exact hjl);cases hbo
         obtain⟨q,hqq⟩:∃ q,q=sq[jn]'(by rw[← HSN.out];exact hjl):=⟨_,rfl⟩;rw[← hqq] at hcq;simp only[Nat.zero_add] at hcq;obtain⟨h0,h1⟩:=zoB (show jn<sq.length by rw[← HSN.out];exact hjl) (fun q=>zah es q k) HJ.out;rw[← hqq] at h0 h1;have hrw:=hr.below hb;have hjc:jn<c2:=(by omega);cases hsh:zah es q k with
         | false =>
          have HJ2:Hid ((sq.take (jn+1)).any (fun q=>zah es q k)=false):=h0 hsh;clear h0 h1 hqq;go_wp2_with fail
          refine(zdG _ es k q false _ hrw (by rw[← HNN.out];exact hlt) hsh).mono ?_;rintro e w3 ⟨rfl,n3,rfl⟩;have hb3:=zhu hb n3;go_wp2;go_roundg g3
          case rel=>exact⟨jn+1,by omega,by go_num,HJ2,ho,hoi,hxa,hsB,hb3⟩
          case measure=>omega
         | true =>
          have HS:Hid (seTo es qs (k+1)=seTo es qs k++[x]):=HYES.out (h1 hsh);clear h0 h1 hqq;go_wp2_with fail
          refine(zdG _ es k q true _ hrw (by rw[← HNN.out];exact hlt) hsh).mono ?_;rintro e w3 ⟨rfl,n3,rfl⟩;have hb3:=zhu hb n3;have ho3:=ho.drewN n3;have hoi3:=hoi.drewN n3;have hxa3:EntAt (wr.drewN n3) B 0 x:=hxa;have hsB3:B2≤(wr.drewN n3).heap.size:=hsB;generalize wr.drewN n3=W3 at hb3 ho3 hoi3 hxa3 hsB3 ⊢;clear ho hoi hxa hb hrw hcq hsB;obtain⟨c0,c1,c2',c3⟩:=id hxa3;simp only[Nat.zero_add] at c1 c2' c3;have hb4:=hb3.alloc hb3.size (.cells #[.string x.key,.string x.val,.int .i64 x.seq,.bool x.gone] 40);have ho4:=ho3.below (ze W3 (.cells #[.string x.key,.string x.val,.int .i64 x.seq,.bool x.gone] 40));have hoi4:=hoi3.below (ze W3 (.cells #[.string x.key,.string x.val,.int .i64 x.seq,.bool x.gone] 40));have h14:=znC W3 x;clear ho3 hoi3 hb3;go_wp2_with (at_builtin;(refine zp rfl _ _ rfl B2 _ _ (seTo es qs k) [x] rfl rfl ho4 h14.rd (by simp;omega) (by simp;omega) ?_))
          intro v5 w5 ho5 hg5;have hb5:=hb4.grown hg5 hb4.size (fun j hj=>by have:=(oL ho4 j hj).1;omega);have hoi5:OwnI w5 w.heap.size (.slice (some ⟨g2,0,none⟩) sn c2) sq:=zl hoi4 hg5 (fun j hj e=>by have h1:=(oL ho4 j e).1;have hj2:g2=j:=Option.some.inj hj;omega);have hsB5:B2≤w5.heap.size:=nT (by simp;omega) hg5.size;rw[← HS.out] at ho5;clear hb4 ho4 hoi4 h14 hg5 c0 c1 c2' c3 hxa3;go_wp2;go_roundg gg
          case rel=>exact⟨k+1,by omega,by go_num,ho5,hoi5,hsB5,hb5⟩
          case measure=>omega
       ·skip
        have hje:jn=sn:=(by omega);have HS:Hid (seTo es qs (k+1)=seTo es qs k):=HNO.out (by have:=HJ.out;rw[hje,HSN.out,List.take_length] at this;exact this);rw[← HS.out] at ho;clear hje;go_wp2;go_roundg gg
        case rel=>exact⟨k+1,by omega,by go_num,ho,hoi,hsB,hb⟩
        case measure=>omega
    ·skip
     have hke:k=nn:=(by omega);have HE:Hid (seTo es qs k=zc0 es qs):=(by unfold Hid;rw[RES.out,hke,HNN.out];rfl);rw[HE.out] at ho;clear hke;go_wp2;try rw[Exit.noGoto_ret]
     go_ret;exact⟨_,rfl,ho.mono hBw2,hb⟩
open Go.RowKit
def zay:List Ent→List Ent
 | []=>[]
 | x::r=>if (zay r).isEmpty&&x.gone then [] else x::zay r
theorem zhL:∀ es:List Ent,(zay es).Sublist es
 | []=>List.Sublist.slnil
 | x::r=>by
  rw[zay];split
  ·exact List.nil_sublist _
  ·exact(zhL r).cons_cons x
theorem zf5:∀ (l:List Ent) (x:Ent),x.gone=true→zay (l++[x])=zay l
 | [],x,h=>by simp[zay,h]
 | y::r,x,h=>by rw[List.cons_append,zay,zf5 r x h,zay]
theorem zgq:∀ (l:List Ent) (x:Ent),x.gone=false→zay (l++[x])=l++[x]
 | [],x,h=>by simp[zay,h]
 | y::r,x,h=>by
  rw[List.cons_append,zay,zgq r x h];simp
theorem zlj(x:Ent)(r:List Ent):zG (x::r)=botS x (zG r):=rfl
theorem zfy:∀ (g rest:List Ent) (K:ByteArray),(∀ x∈g,x.key=K)→(∀ x∈rest,x.key≠K)→zG (g++rest)=zay g++zG rest
 | [],rest,K,_,_=>by simp[zay]
 | x::r,rest,K,h1,h2=>by
  have ih:=zfy r rest K (fun y hy=>h1 y (List.mem_cons_of_mem _ hy)) h2;have hx:=h1 x List.mem_cons_self;rw[List.cons_append,zlj,ih,zay];cases hs:zay r with
  | nil =>
   have hla:(decide ((zG rest).length=0) || !kEq (nth (zG rest) 0).key x.key)=true:=by
    cases hb:zG rest with
    | nil=>rfl
    | cons z s =>
     have:z∈rest:=(zbp rest).subset (by rw[hb];exact List.mem_cons_self);have:=h2 z this;rw[zb4,hx];simp[kEq,this]
   unfold botS;rw[List.nil_append,hla,Bool.true_and,List.isEmpty_nil,Bool.true_and];cases x.gone<;>simp
  | cons y s =>
   have:y∈r:=(zhL r).subset (by rw[hs];exact List.mem_cons_self);have hy:=h1 y (List.mem_cons_of_mem _ this);unfold botS;rw[List.cons_append,zb4,hx,hy];simp[kEq]
theorem zk0{al:List Ent}(hok:okL al=true){k t:Nat}(hkt:k<t)(ht:t≤al.length)(h1:∀ j,k≤j→j<t→(nth al j).key=(nth al k).key)(h2:t<al.length→(nth al t).key≠(nth al k).key) :
 zG (al.drop k)=zay ((al.take t).drop k)++zG (al.drop t):=by
 have hd:al.drop k=(al.take t).drop k++al.drop t:=by
  have:=congrArg (List.drop k) (List.take_append_drop t al);rw[← this,List.drop_append,List.length_take,Nat.min_eq_left ht,show k-t=0 by omega,List.drop_zero]
 rw[hd];refine zfy _ _ (nth al k).key (fun x hx=>?_) (fun x hx=>?_)
 ·obtain⟨i,hi,rfl⟩:=List.getElem_of_mem hx;rw[List.length_drop,List.length_take,Nat.min_eq_left ht] at hi;have e:=h1 (k+i) (by omega) (by omega);rw[← e,← zU (es:=(al.take t).drop k),zfU (by rw[List.length_take];omega),zid (by omega) (by omega)]
 ·obtain⟨i,hi,rfl⟩:=List.getElem_of_mem hx;rw[List.length_drop] at hi;rw[← zU (es:=al.drop t),zfU (by omega)];intro he;refine h2 (by omega) ?_;by_cases hi0:i=0
  ·subst hi0;exact he
  ·exact zh5 (zbS hok hkt (by omega)) (zbS hok (show t<t+i by omega) (by omega)) he.symm
def zkT(w:World)(es:List Ent)(k:Nat)(e:Ending)(w':World):Prop :=
 ∃ t:Nat,e=.returned (.int .i64 t)∧k<t∧t≤es.length∧(∀ j,k≤j→j<t→(nth es j).key=(nth es k).key)∧(t<es.length→(nth es t).key≠(nth es k).key)∧∃ n,w'=w.drewN n
theorem zjR(v:Value)(es:List Ent)(k:Nat)(w:World)(hr:RdE w v es)(hk:k<es.length) :
 Calls Tryz.prog 76 #[v,.int .i64 k] w fun e w'=>zkT w es k e w':=by
 obtain⟨a,cap,hv,hl,hm,_⟩:=id hr;obtain⟨nn,hnn⟩:∃ nn,nn=es.length:=⟨_,rfl⟩;have HNN:Hid (nn=es.length):=hnn;rw[← hnn] at hv hl hk;subst hv;unfold maxLen at hm;obtain⟨b,off,rfl,hck⟩:=hr.at hnn k (by rw[← hnn];exact hk);obtain⟨x,hx⟩:∃ x,x=nth es k:=⟨_,rfl⟩;rw[← hx] at hck;have HX:Hid (x=nth es k):=hx;clear hx hnn;go_enter Tryz.func76,Tryz.ntmps76
 go_wp2;go_loopw [5] (fun i wr=>∃ t:Nat,k≤t∧t≤nn∧i=.int .i64 t∧Hid (∀ j,k≤j→j<t→(nth es j).key=x.key)∧∃ n,wr=w.drewN n) (fun i _=>nn-(intOf i).toNat)
 case atStart=>exact⟨k,nR _,by omega,rfl,(fun j h1 h2=>by omega),0,rfl⟩
 case round =>
  obtain⟨t,hkt,htn,rfl,HJ,n,rfl⟩:=hrel;by_cases hlt:t<nn
  ·obtain⟨b2,off2,ha2,hd⟩:=(hr.drewN n).at HNN.out t (by rw[← HNN.out];exact hlt);cases ha2
   obtain⟨y,hy⟩:∃ y,y=nth es t:=⟨_,rfl⟩;rw[← hy] at hd;have hkb:=zbE y.key x.key;have htl:decide (t<nn)=true:=decide_eq_true hlt;have hck2:EntAt (w.drewN n) b (off+k*4) x:=hck;have htc:t<cap:=(by omega);have hkc:k<cap:=(by omega);cases hke:kEq y.key x.key with
   | true =>
    rw[hke] at hkb;have HJ2:Hid (∀ j,k≤j→j<t+1→(nth es j).key=x.key):=fun j h1 h2=>by
     by_cases hjt:j=t
     ·rw[hjt,← hy];exact of_decide_eq_true hke
     ·exact HJ.out j h1 (by omega)
    clear hy;go_wp2_with fail
    refine brg (S:=fun w'=>EntAt w' b (off+t*4) y∧EntAt w' b (off+k*4) x) ⟨hd,hck2⟩ (fun hH=>?_);refine kA 0 7 hH ?_;refine kA 1 8 hH ?_;refine kA 2 9 hH ?_;refine kA 3 10 hH ?_;refine kA 4 11 hH ?_;refine kA 5 12 hH ?_;refine kA 6 13 hH ?_;refine kA 7 14 hH ?_;refine kA 8 15 hH ?_;refine kA 9 16 hH ?_;refine kA 10 17 hH ?_;refine kA 11 18 hH ?_;refine kA 12 19 hH ?_;refine kA 13 20 hH ?_;refine kA 14 21 hH ?_;refine kA 15 22 hH ?_;refine kA 16 23 hH ?_;refine dne ?_;go_wp2;go_roundw
    case rel=>exact⟨t+1,by omega,by omega,by go_num,HJ2,n+1,rfl⟩
    case measure=>simp[intOf];omega
   | false =>
    rw[hke] at hkb;have hne:y.key≠x.key:=of_decide_eq_false hke;have HE:Hid (zkT w es k (.returned (.int .i64 t)) (w.drewN (n+1))):=by
     refine⟨t,rfl,?_,by rw[← HNN.out];omega,fun j h1 h2=>by rw[← HX.out];exact HJ.out j h1 h2,fun _=>by rw[← HX.out,← hy];exact hne,n+1,rfl⟩;rcases Nat.lt_or_ge k t with h | h
     ·exact h
     ·have:t=k:=(by omega);subst this;rw[hy,← HX.out] at hne;exact absurd rfl hne
    clear hne hy;go_wp2_with fail
    refine brg (S:=fun w'=>EntAt w' b (off+t*4) y∧EntAt w' b (off+k*4) x) ⟨hd,hck2⟩ (fun hH=>?_);refine kA 0 7 hH ?_;refine kA 1 8 hH ?_;refine kA 2 9 hH ?_;refine kA 3 10 hH ?_;refine kA 4 11 hH ?_;refine kA 5 12 hH ?_;refine kA 6 13 hH ?_;refine kA 7 14 hH ?_;refine kA 8 15 hH ?_;refine kA 9 16 hH ?_;refine kA 10 17 hH ?_;refine kA 11 18 hH ?_;refine kA 12 19 hH ?_;refine kA 13 20 hH ?_;refine kA 14 21 hH ?_;refine kA 15 22 hH ?_;refine kA 16 23 hH ?_;refine dne ?_;go_wp2;go_ret;exact HE.out
  ·skip
   have hte:t=nn:=(by omega);have htl:decide (t<nn)=false:=decide_eq_false hlt;have HE:Hid (zkT w es k (.returned (.int .i64 t)) (w.drewN (n+1))):=⟨t,rfl,by omega,by rw[← HNN.out];omega,fun j h1 h2=>by rw[← HX.out];exact HJ.out j h1 h2,fun h=>absurd h (by rw[← HNN.out];omega),n+1,rfl⟩;clear hte;go_wp2_with fail
   refine brg (S:=fun _=>True) trivial (fun hH=>?_);refine kA 0 7 hH ?_;refine kA 1 8 hH ?_;refine kA 2 9 hH ?_;refine kA 3 10 hH ?_;refine kA 4 11 hH ?_;refine kS 5 12 hH ?_;refine kS 6 13 hH ?_;refine kS 7 14 hH ?_;refine kS 8 15 hH ?_;refine kS 9 16 hH ?_;refine kS 10 17 hH ?_;refine kS 11 18 hH ?_;refine kS 12 19 hH ?_;refine kS 13 20 hH ?_;refine kS 14 21 hH ?_;refine kS 15 22 hH ?_;refine kA 16 23 hH ?_;refine dne ?_;go_wp2;go_ret;exact HE.out
theorem zm4{g:List Ent}{n:Nat}(hn:n<g.length)(h:(nth g n).gone=true):zay (g.take (n+1))=zay (g.take n):=by
 rw[List.take_succ_eq_append_getElem hn,← zU hn];exact zf5 _ _ h
theorem zmq{g:List Ent}{n:Nat}(hn:n<g.length)(h:(nth g n).gone=false):zay (g.take (n+1))=g.take (n+1):=by
 rw[List.take_succ_eq_append_getElem hn,← zU hn];exact zgq _ _ h
theorem zgk(v:Value)(g:List Ent)(w:World)(hr:RdE w v g) :
 Calls Tryz.prog 77 #[v] w fun e w'=>∃ u,e=.returned u∧(∀ W,RdE W v g→RdE W u (zay g))∧w'=w:=by
 obtain⟨a,cap,hv,hl,hm,_⟩:=id hr;obtain⟨nn,hnn⟩:∃ nn,nn=g.length:=⟨_,rfl⟩;have HNN:Hid (nn=g.length):=hnn;rw[← hnn] at hv hl;subst hv;unfold maxLen at hm;have HS0:Hid (zay g=zay (g.take nn)):=by unfold Hid;rw[hnn,List.take_length]
 clear hnn;go_enter Tryz.func77,Tryz.ntmps77
 go_wp2;go_loop [3] (fun i=>∃ n:Nat,n≤nn∧i=.int .i64 n∧Hid (zay g=zay (g.take n))) (fun i=>(intOf i).toNat)
 case atStart=>exact⟨nn,nR _,rfl,HS0⟩
 case round =>
  obtain⟨n,hnn,rfl,HS⟩:=hrel;clear HS0;cases n with
  | zero =>
   have HE:Hid ((g.take 0).drop 0=zay g):=(by unfold Hid;rw[HS.out];rfl);go_wp2_with fail
   refine(zlp _ g 0 0 _ _ _ rfl rfl hr (nR _) (Nat.zero_le _)).mono ?_;rintro e w3 ⟨u,rfl,hu,rfl⟩;rw[HE.out] at hu;have HU:Hid (∀ W,RdE W (.slice a nn cap) g→RdE W u (zay g)):=hu;clear hu;go_wp2;go_ret;exact⟨u,rfl,HU.out,rfl⟩
  | succ m =>
   have hml:m<g.length:=(by rw[← HNN.out];omega);obtain⟨b,off,rfl,hc⟩:=hr.at HNN.out m hml;obtain⟨x,hx⟩:∃ x,x=nth g m:=⟨_,rfl⟩;rw[← hx] at hc;obtain⟨c0,c1,c2,c3⟩:=id hc;have hmc:m<cap:=(by omega);have hmi:((m+1:Nat):Int)-1=(m:Int):=(by omega);cases hg:x.gone with
   | true =>
    rw[hg] at c3;have HS2:Hid (zay g=zay (g.take m)):=(by unfold Hid;rw[HS.out,zm4 hml (by rw[← hx];exact hg)]);clear hx HS;go_wp2;go_round
    case rel=>exact⟨m,by omega,by go_num,HS2⟩
    case measure=>simp[intOf]
   | false =>
    rw[hg] at c3;have HE:Hid ((g.take (m+1)).drop 0=zay g):=(by unfold Hid;rw[HS.out,zmq hml (by rw[← hx];exact hg),List.drop_zero]);clear hx HS;go_wp2_with fail
    refine(zlp _ g 0 (m+1) _ _ _ rfl (by omega) hr (Nat.zero_le _) (by omega)).mono ?_;rintro e w3 ⟨u,rfl,hu,rfl⟩;rw[HE.out] at hu;have HU:Hid (∀ W,RdE W (.slice (some ⟨b,off,none⟩) nn cap) g→RdE W u (zay g)):=hu;clear hu;go_wp2;go_ret;exact⟨u,rfl,HU.out,rfl⟩
open Go.RowKit
theorem zmV(es:List Ent)(qs:List Int):zgv es qs=zG (zc0 es qs):=by
 unfold zgv zc0;split
 ·rfl
 ·rfl
theorem znv(es:List Ent)(qs:List Int):okL (zc0 es qs)=true:=by
 unfold zc0;split
 ·rename_i h;exact zfY (told_ok h) qs
 ·rfl
theorem zeh(v vq:Value)(es:List Ent)(qs:List Int)(w:World)(hr:RdE w v es)(hq:RdI w vq qs)(hf:∀ e∈es,Fits e) :
 Calls Tryz.prog 35 #[v,vq] w fun e w'=>zbq w (zgv es qs) e w':=by
 have HC:Hid (Calls _ _ _ _ _):=ziA v vq es qs w hr hq hf;have hok:=znv es qs;rw[zmV];generalize zc0 es qs=al at HC hok;have hsl:=zad hok;have HOK:Hid (okL al=true):=hok;obtain⟨i0,hi,hz0,hz1,hz2⟩:=info_parts Tryz.info24;clear hr hq hf hok;go_enter Tryz.func35,Tryz.ntmps35
 go_wp2_with fail
 refine HC.out.mono ?_;rintro e w1 ⟨ua,rfl,hoa,hba⟩;obtain⟨nn,hnn⟩:∃ nn,nn=al.length:=⟨_,rfl⟩;have HNN:Hid (nn=al.length):=hnn;have hra:=hoa.rd;obtain⟨aa,ca,hva,hla,hma,_⟩:=id hra;rw[← hnn] at hva hla hsl;subst hva;unfold maxLen at hma;have hp1:=zj3 w1;have b1:=ze w1 (.cells #[] 24);clear hnn HC hoa;go_wp2;go_loopw [6,7] (fun o i wr=>∃ (k:Nat) (ps:List (Value×List Ent)),k≤nn∧i=.int .i64 k∧ps.length≤k∧OwnP wr w1.heap.size o ps∧Hid (∀ p∈ps,RdE w1 p.1 p.2)∧Hid (zG al=joinE ps++zG (al.drop k))∧Below w1.heap.size w1 wr) (fun _ i _=>nn-(intOf i).toNat)
 case atStart=>exact⟨0,[],Nat.zero_le _,rfl,nR _,hp1,(fun p hp=>by cases hp),rfl,b1⟩
 case round =>
  obtain⟨k,ps,hk,rfl,hpk,ho,HP,HJ,hb⟩:=hrel;clear hp1 b1;have hrw:=hra.below hb;by_cases hlt:k<nn
  ·skip
   go_wp2_with fail
   refine(zjR _ al k _ hrw (by rw[← HNN.out];exact hlt)).mono ?_;rintro e w2 ⟨t,rfl,hkt,htn,h1,h2,n2,rfl⟩;have HST:Hid (zG (al.drop k)=zay ((al.take t).drop k)++zG (al.drop t)):=zk0 HOK.out hkt htn h1 h2;rw[← HNN.out] at htn;clear h1 h2;have hrw2:=hrw.drewN n2;have ho2:=ho;have hb2:=zhu hb n2;have hp2:OwnP (wr.drewN n2) w1.heap.size u6 ps:=ho;generalize wr.drewN n2=W2 at hrw2 hb2 hp2 ⊢;clear ho ho2 hb hrw;go_wp2_with fail
   refine(zlp _ al k t _ _ _ rfl rfl hrw2 (by omega) (by rw[← HNN.out];omega)).mono ?_;rintro e w3 ⟨u,rfl,hu,rfl⟩;have hu1:=hu _ hrw2;have hu0:=hu _ hra;generalize (al.take t).drop k=gr at hu hu1 hu0 HST;clear hu;go_wp2_with fail
   refine(zgk _ gr _ hu1).mono ?_;rintro e w4 ⟨u4,rfl,hu4,rfl⟩;have hu40:=hu4 _ hu0;obtain⟨zs,hzs⟩:∃ zs,zs=zay gr:=⟨_,rfl⟩;rw[← hzs] at hu40 HST;have HP2:Hid (∀ p∈ps++[(u4,zs)],RdE w1 p.1 p.2):=by
    intro p hp;rcases List.mem_append.1 hp with h | h
    ·exact HP.out p h
    ·simp at h;subst h;exact hu40
   obtain⟨a4,c4,hua,_⟩:=id hu40;obtain⟨z4,hz4⟩:∃ z4,z4=zs.length:=⟨_,rfl⟩;rw[← hz4] at hua;subst hua;have hs:=hb2.size;have HJ2:Hid (zG al=joinE (ps++[(.slice a4 z4 c4,zs)])++zG (al.drop t)):=(by unfold Hid;rw[zhh,HJ.out,HST.out,List.append_assoc]);clear hu4 hu40 hu1 hu0 hzs hz4 HST HJ HP;go_wp2_with (at_builtin;(refine wpList_append_own _ rfl _ _ 60 rfl w1.heap.size 24 i0 (.slice none 0 0) 1 24 Tryz.underlying60 hi hz0 hz1 hz2 rfl (by decide) _ _ _ rfl (World.ownsRow.alloc hp2 _) ⟨w4.heap.size,0,none⟩ 1 1 [.slice a4 z4 c4] rfl rfl ?c1 ?c2 ?c3 ?c4 ?c5 ?_))
   case c1=>exact zhv _ _ _ _ rfl
   case c2=>intro z hz;simp at hz;subst hz;rfl
   case c3=>unfold maxLen;omega
   case c4=>omega
   case c5=>simp;omega
   intro v5 w5 ho5 hg5 _;have R1:OwnP w5 w1.heap.size v5 (ps++[(.slice a4 z4 c4,zs)]):=ziT ho5;have bz5:Below w1.heap.size w1 w5:=(hb2.alloc hs _).grown hg5 (by simp;omega) (fun k hk=>(oL hp2 k hk).1);have hpl:(ps++[(Value.slice a4 z4 c4,zs)]).length≤t:=(by rw[lA];simp;omega);clear ho5 hg5 hb2 hp2 hrw2;go_wp2;go_roundw
   case rel=>exact⟨t,_,htn,rfl,hpl,R1,HP2,HJ2,bz5⟩
   case measure=>simp[intOf];omega
  ·skip
   have hke:k=nn:=(by omega);have HJ2:Hid (zG al=joinE ps):=by
    unfold Hid;rw[HJ.out,hke,HNN.out,List.drop_eq_nil_of_le (nR _)];exact List.append_nil _
   clear hke;have hjl:(joinE ps).length≤1000000:=(by rw[← HJ2.out];have:=zox al;rw[← HNN.out] at this;omega);go_wp2_with fail
   refine(zfg _ ps _ (ho.pieces (fun p hp=>(HP.out p hp).below hb)) hjl (by omega)).mono ?_;rintro e w3 ⟨u,rfl,ho3,hb3⟩;have bz:=hba.trans ((hb.trans (hb3.mono hb.size)).mono hba.size);have ho4:OwnE w3 w.heap.size u (zG al):=(by rw[HJ2.out];exact ho3.mono (nT hba.size hb.size));clear ho3 hb3;go_wp2;go_ret;exact⟨_,rfl,ho4,bz⟩
end Go.Proofs.YtjlnchhgkfnldaaGreat
