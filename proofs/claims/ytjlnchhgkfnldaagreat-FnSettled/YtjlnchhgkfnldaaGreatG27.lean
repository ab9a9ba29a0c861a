import Derived.Test.YtjlnchhgkfnldaaGreatG26
import Derived.Deep.RegionHeld3
import Derived.Deep.RegionLaw
import Derived.Lib.SliceRun
namespace Go.Proofs.YtjlnchhgkfnldaaGreat
set_option maxHeartbeats 16000000
set_option maxRecDepth 100000
open Go.RowKit
def zdD(T:Tre):Bool:=decide (T.young.length≠0)&&decide ((zj (tabL T)).length≤300)
def sinkR(T:Tre):Tre:=if zI T=true then (if zdD T=true then sinkT T else T) else zjD
def sinkO(T:Tre):Bool:=zI T&&zdD T
theorem zoY{ys os:List TV}{T:Tre}(h1:ys.map (·.T)=T.young)(h2:os.map (·.T)=T.old):tl ys ys.length++tl os os.length=tabL T:=by
 rw[zl3,zl3];unfold tabL;rw[← h1,← h2,List.map_append,List.map_map,List.map_map];rfl
def zeX(w:World)(X:TrX)(e:Ending)(w':World):Prop :=
 ∃ Y:TrX,e=.returned (.tuple #[.agg #[Y.vm,Y.vy,Y.vo,.int .i64 Y.seq,Y.vs],.bool (sinkO X.tre)])∧Y.tre=sinkR X.tre∧RowsTr w' w.heap.size Y∧Below w.heap.size w w'
theorem ziP(X:TrX)(w:World)(hx:RdTr w X)(hf:FitTr X)(hs:zI X.tre=true→SizTr X) :
 Calls Tryz.prog 11 #[.agg #[X.vm,X.vy,X.vo,.int .i64 X.seq,X.vs]] w fun e w'=>zeX w X e w':=by
 have HTK:Hid (∀ W,RdTr W X→Calls Tryz.prog 17 #[.agg #[X.vm,X.vy,X.vo,.int .i64 X.seq,X.vs]] W fun e w'=>e=.returned (.bool (zI X.tre))∧Below W.heap.size W w'):=fun W h=>zaI X W h hf
 have HCP:Hid (zI X.tre=true→∀ W,RdTr W X→Calls Tryz.prog 37 #[.agg #[X.vm,X.vy,X.vo,.int .i64 X.seq,X.vs]] W fun e w'=>zbO W X e w'):=fun ht W h=>zdV X W h (hs ht)
 have HFI:Hid (FitTr X):=hf;clear hs hf;have t0:=zam w X 28;obtain⟨V0,hV0⟩:∃ V0,V0=w.alloc (.cells #[X.vm,X.vy,X.vo,.int .i64 X.seq,X.vs] 28):=⟨_,rfl⟩;have b0:Below w.heap.size w V0:=by rw[hV0];exact ze w _
 have s0:V0.heap.size=w.heap.size+1:=by rw[hV0];simp
 rw[← hV0] at t0;have z1:=zag V0 (.slice none 0 0) (.slice none 0 0) (.slice none 0 0) (.slice none 0 0) 0;obtain⟨W0,hW0⟩:∃ W0,W0=V0.alloc (.cells #[.slice none 0 0,.slice none 0 0,.slice none 0 0,.int .i64 0,.slice none 0 0] 28):=⟨_,rfl⟩;have b1:Below V0.heap.size V0 W0:=by rw[hW0];exact ze V0 _
 have s1:W0.heap.size=w.heap.size+2:=by rw[hW0];simp;omega
 rw[← hW0,s0] at z1;have t1:=t0.below b1;have bw:Below w.heap.size w W0:=b0.trans (b1.mono (by omega));have HW0:Hid ((w.alloc (.cells #[X.vm,X.vy,X.vo,.int .i64 X.seq,X.vs] 28)).alloc (.cells #[.slice none 0 0,.slice none 0 0,.slice none 0 0,.int .i64 0,.slice none 0 0] 28)=W0):=by unfold Hid;rw[hW0,hV0]
 obtain⟨q0,q1,q2,q3,q4⟩:=id t1;rw[hW0,hV0] at q0 q1 q2 q3 q4;clear t0 b0 b1 s0 hV0 hW0;go_enter Tryz.func11,Tryz.ntmps11
 go_wp2_with fail
 rw[HW0.out];clear q0 q1 q2 q3 q4;refine(HTK.out _ (hx.below bw)).mono ?_;rintro e w1 ⟨rfl,hb1⟩;have t2:=t1.below hb1;have z2:=z1.on hb1;have bw1:=bw.trans (hb1.mono bw.size);have s2:w.heap.size+2≤w1.heap.size:=by rw[← s1];exact hb1.size
 clear t1 z1 bw hb1 s1 HTK HW0;cases htk:zI X.tre with
 | false =>
  obtain⟨y0,y1,y2,y3,y4,g0,g1,g2,g3,g4⟩:=z2.facts;have hzF:=zF z2 (.slice none 0 0) (.slice none 0 0) (.slice none 0 0) (.slice none 0 0) 0;obtain⟨f0,f1,f2,f3,f4,-⟩:=hzF.facts;have END:Hid (zeX w X (.returned (.tuple #[.agg #[.slice none 0 0,.slice none 0 0,.slice none 0 0,.int .i64 0,.slice none 0 0],.bool false])) (put5 w1 (w.heap.size+1) (.slice none 0 0) (.slice none 0 0) (.slice none 0 0) (.int .i64 0) (.slice none 0 0))):=by
   have h0:=zaW (put5 w1 (w.heap.size+1) (.slice none 0 0) (.slice none 0 0) (.slice none 0 0) (.int .i64 0) (.slice none 0 0)) w.heap.size;refine⟨⟨.slice none 0 0,.slice none 0 0,.slice none 0 0,.slice none 0 0,[],[],[],0,[]⟩,by unfold sinkO;rw[htk];rfl,by unfold sinkR;rw[if_neg (by rw[htk];simp)];rfl,⟨h0.mem,h0.young,h0.youngs,h0.old,h0.olds,h0.snaps⟩,zR bw1 (by omega)⟩
  unfold put5 at f0 f1 f2 f3 f4;clear z2 t2 hzF bw1 htk;go_wp2;exact bodyPost_ret (v:=.tuple #[.agg #[.slice none 0 0,.slice none 0 0,.slice none 0 0,.int .i64 0,.slice none 0 0],.bool false]) (by simp[results,Tryz.results11,go_sem,f0,f1,f2,f3,f4]) rfl END.out
 | true =>
  obtain⟨q0,q1,q2,q3,q4⟩:=id t2;go_wp2_with fail
  refine(HCP.out htk _ (hx.below bw1)).mono ?_;rintro e w2 ⟨Y,rfl,heY,hoY,hb2⟩;have t3:=t2.below hb2;have z3:=z2.on hb2;have bw2:=bw1.trans (hb2.mono bw1.size);have s3:=hb2.size;have HRW:Hid (RowsTr w2 w1.heap.size Y):=⟨hoY.mem,hoY.young,hoY.youngs,hoY.old,hoY.olds,hoY.snaps⟩;clear q0 q1 q2 q3 q4 t2 z2 hb2 bw1 HCP;obtain⟨am,ay,ao,an,mn,yn,on,nn,cm,cy,co,cn,v0,v1,v2,v3⟩:=HRW.out.rd.slices;obtain⟨vm4,vy4,vo4,vs4,mem4,ys4,os4,seq4,snaps4⟩:=Y;simp only at v0 v1 v2 v3;subst v0;subst v1;subst v2;subst v3;clear hoY;have HMY:Hid (mem4=X.tre.mem):=congrArg Tre.mem heY;have HQY:Hid (seq4=X.tre.seq):=congrArg Tre.seq heY;have HEY:Hid (_=_):=heY;clear heY;have zb:=zag w2 (.slice am mn cm) (.slice ay yn cy) (.slice ao on co) (.slice an nn cn) seq4;have bb:=ze w2 (.cells #[.slice am mn cm,.slice ay yn cy,.slice ao on co,.int .i64 seq4,.slice an nn cn] 28);have z4:=z3.on bb;have bw3:=bw2.trans (bb.mono bw2.size);have hr3:=HRW.out.below bb;have UB:Hid (∀ k∈trB (⟨.slice am mn cm,.slice ay yn cy,.slice ao on co,.slice an nn cn,mem4,ys4,os4,seq4,snaps4⟩:TrX),w1.heap.size≤k∧k<w2.heap.size):=fun k hk=>HRW.out.bound hk
  have s4:w2.heap.size<(w2.alloc (.cells #[.slice am mn cm,.slice ay yn cy,.slice ao on co,.int .i64 seq4,.slice an nn cn] 28)).heap.size:=by simp
  have hTP:=(zQ X.tre).1 htk;clear HRW bb bw2;go_wp2_with fail
  generalize w2.alloc (.cells #[.slice am mn cm,.slice ay yn cy,.slice ao on co,.int .i64 seq4,.slice an nn cn] 28)=W3 at zb z4 bw3 hr3 s4 ⊢;have H1:∀ k∈[w2.heap.size],k=w2.heap.size:=fun k hk=>by simpa using hk
  have EY:ys4.map (·.T)=X.tre.young:=congrArg Tre.young HEY.out;have EO:os4.map (·.T)=X.tre.old:=congrArg Tre.old HEY.out;have ES:snaps4=X.tre.snaps:=congrArg Tre.snaps HEY.out;have HTL:Hid (tl ys4 ys4.length++tl os4 os4.length=tabL X.tre):=zoY EY EO;have LY:ys4.length=X.tre.young.length:=by rw[← EY,List.length_map]
  have LO:os4.length=X.tre.old.length:=by rw[← EO,List.length_map]
  have HFT:=fit_same HEY.out HFI.out;have hcall:=zhM w2.heap.size (.slice am mn cm) (.slice ay yn cy) (.slice ao on co) (.slice an nn cn) ys4 os4 seq4 snaps4 W3 zb (hr3.young.rd hr3.youngs) (hr3.old.rd hr3.olds) hr3.snaps.rd HFT.young HFT.old (by rw[LY];exact hTP.young) (by rw[LO];exact hTP.old) (by rw[ES];exact hTP.few) (fun hn=>by
   rw[HTL.out] at hn ⊢;have h0:sinkM (tabL X.tre) snaps4 seq4=sinkL X.tre:=(by rw[ES,HQY.out];rfl);rw[h0];have hok:=zew hTP hn;exact⟨fun e he=>zjo (((zaD _).1 hok).2.1 e he),by have:=zad hok;omega⟩)
  rw[HTL.out] at hcall;have HCA:Hid (Calls _ _ _ _ _):=hcall;clear hcall HFT HTL HFI;refine HCA.out.mono ?_;rintro e w5 ⟨ok,rfl,hok,hno,hyes⟩;rw[LY] at hok;have HOK:Hid (ok=zdD X.tre):=hok;clear hok HCA;cases ok with
  | false =>
   have hb5:=hno rfl;have zb5:=zb.on hb5;have z5:=z4.on hb5;have bw5:=bw3.trans (hb5.mono bw3.size);have hr5:=hr3.below hb5;have HFIN:Hid (false=sinkO X.tre∧(⟨mem4,ys4.map (·.T),os4.map (·.T),seq4,snaps4⟩:Tre)=sinkR X.tre):=by
    unfold Hid sinkO sinkR;rw[htk,if_pos rfl,Bool.true_and,← HOK.out,if_neg (by simp)];exact⟨rfl,HEY.out⟩
   obtain⟨y0,y1,y2,y3,y4,g0,g1,g2,g3,g4⟩:=zb5.facts;obtain⟨m0,m1,m2,m3,m4,n0,n1,n2,n3,n4⟩:=z5.facts;have hzF:=zF z5 (.slice am mn cm) (.slice ay yn cy) (.slice ao on co) (.slice an nn cn) seq4;obtain⟨f0,f1,f2,f3,f4,-⟩:=hzF.facts;have END:Hid (zeX w X (.returned (.tuple #[.agg #[.slice am mn cm,.slice ay yn cy,.slice ao on co,.int .i64 seq4,.slice an nn cn],.bool false])) (put5 w5 (w.heap.size+1) (.slice am mn cm) (.slice ay yn cy) (.slice ao on co) (.int .i64 seq4) (.slice an nn cn))):=by
    have hc:w.heap.size+1<w1.heap.size:=(by omega);refine⟨⟨.slice am mn cm,.slice ay yn cy,.slice ao on co,.slice an nn cn,mem4,ys4,os4,seq4,snaps4⟩,by rw[← HFIN.out.1],HFIN.out.2,RowsTr.mono (lo:=w1.heap.size) ⟨zt hr5.mem hc,zt hr5.young hc,hr5.youngs.put5 hc,zt hr5.old hc,hr5.olds.put5 hc,zt hr5.snaps hc⟩ (by omega),zR bw5 (by omega)⟩
   unfold put5 at f0 f1 f2 f3 f4;clear HFIN HEY hzF zb5 z5 bw5 hr5 hTP hr3 zb z4 bw3 hno hyes hb5 EY EO ES LY LO;go_wp2;exact bodyPost_ret (v:=.tuple #[.agg #[.slice am mn cm,.slice ay yn cy,.slice ao on co,.int .i64 seq4,.slice an nn cn],.bool false]) (by simp[results,Tryz.results11,go_sem,f0,f1,f2,f3,f4]) rfl END.out
  | true =>
   obtain⟨vy',vo',ts,zb5,oy5,oo5,in5,hts,hto,-⟩:=hyes rfl;have hr5:=hr3.touch hto (fun k hk e=>by have:=UB.out k hk;have:=H1 k e;omega);have bw5:Below w.heap.size w w5:=hto.below bw3 (fun k hk=>by have:=H1 k hk;omega);have z5:BoxTr w5 (w.heap.size+1) (.slice none 0 0) (.slice none 0 0) (.slice none 0 0) 0 (.slice none 0 0):=(hto.block _ (by omega) (fun e=>by have:=H1 _ e;omega)).trans z4;obtain⟨av,cv,hvv⟩:=zK oy5;obtain⟨aw,cw,hvw⟩:=zK oo5;have HFIN:Hid (true=sinkO X.tre∧(⟨mem4,([]:List TV).map (·.T),ts.map (·.T),seq4,snaps4⟩:Tre)=sinkR X.tre):=by
    have h0:sinkM (tabL X.tre) snaps4 seq4=sinkL X.tre:=(by rw[ES,HQY.out];rfl);unfold Hid sinkO sinkR;rw[htk,if_pos rfl,Bool.true_and,← HOK.out,if_pos rfl,hts,h0,HMY.out,HQY.out,ES];exact⟨rfl,rfl⟩
   generalize ([]:List TV).length=vn at hvv;generalize ts.length=vw at hvw;subst hvv;subst hvw;obtain⟨y0,y1,y2,y3,y4,g0,g1,g2,g3,g4⟩:=zb5.facts;obtain⟨m0,m1,m2,m3,m4,n0,n1,n2,n3,n4⟩:=z5.facts;have hzF:=zF z5 (.slice am mn cm) (.slice av vn cv) (.slice aw vw cw) (.slice an nn cn) seq4;obtain⟨f0,f1,f2,f3,f4,-⟩:=hzF.facts;have END:Hid (zeX w X (.returned (.tuple #[.agg #[.slice am mn cm,.slice av vn cv,.slice aw vw cw,.int .i64 seq4,.slice an nn cn],.bool true])) (put5 w5 (w.heap.size+1) (.slice am mn cm) (.slice av vn cv) (.slice aw vw cw) (.int .i64 seq4) (.slice an nn cn))):=by
    have hc:w.heap.size+1<w1.heap.size:=(by omega);have hc3:w.heap.size+1<W3.heap.size:=(by omega);have h1:RowsTr (put5 w5 (w.heap.size+1) (.slice am mn cm) (.slice av vn cv) (.slice aw vw cw) (.int .i64 seq4) (.slice an nn cn)) w1.heap.size ⟨.slice am mn cm,.slice av vn cv,.slice aw vw cw,.slice an nn cn,mem4,[],ts,seq4,snaps4⟩ :=
     ⟨zt hr5.mem hc,OwnT.mono (zt oy5 hc3) (by omega),(fun t ht=>by cases ht),OwnT.mono (zt oo5 hc3) (by omega),InT.mono (in5.put5 hc3) (by omega),zt hr5.snaps hc⟩
    exact⟨⟨.slice am mn cm,.slice av vn cv,.slice aw vw cw,.slice an nn cn,mem4,[],ts,seq4,snaps4⟩,by rw[← HFIN.out.1],HFIN.out.2,h1.mono (by omega),zR bw5 (by omega)⟩
   unfold put5 at f0 f1 f2 f3 f4;clear HFIN HEY hzF zb5 z5 bw5 hr5 hTP hr3 zb z4 bw3 hno hyes hto oy5 oo5 in5 hts EY EO ES LY LO;go_wp2;exact bodyPost_ret (v:=.tuple #[.agg #[.slice am mn cm,.slice av vn cv,.slice aw vw cw,.int .i64 seq4,.slice an nn cn],.bool true]) (by simp[results,Tryz.results11,go_sem,f0,f1,f2,f3,f4]) rfl END.out
end Go.Proofs.YtjlnchhgkfnldaaGreat
namespace Go.Proofs.YtjlnchhgkfnldaaGreat
set_option maxHeartbeats 16000000
set_option maxRecDepth 100000
open Go.RowKit
open Go.RowKit
def FitsW(x:Wri):Prop:=x.key.size≤4503599627370496∧x.val.size≤4503599627370496
def zbt(xs:List Wri):Bool:=decide (xs.length≤20)&&xs.all wriOk
def BoxW(w:World)(b:Nat)(x:Wri):Prop:=w.cell? ⟨b,0,none⟩=some (.string x.key)∧w.cell? ⟨b,1,none⟩=some (.string x.val)∧w.cell? ⟨b,2,none⟩=some (.bool x.gone)
theorem zhX(w:World)(x:Wri)(t:TypeId):BoxW (w.alloc (.cells #[.string x.key,.string x.val,.bool x.gone] t)) w.heap.size x:=by
 refine⟨?_,?_,?_⟩<;>simp[World.cell?_alloc_at]
theorem zmN{xs:List Wri}{k:Nat}(hk:k<xs.length)(h:(xs.take k).all wriOk=true)(hx:wriOk (nthW xs k)=true):(xs.take (k+1)).all wriOk=true:=by
 rw[List.take_succ_eq_append_getElem hk,List.all_append,h,← zhY hk];simp[hx]
theorem znu{xs:List Wri}{k:Nat}(hk:k<xs.length)(hx:wriOk (nthW xs k)=false):xs.all wriOk=false:=by
 rw[Bool.eq_false_iff];intro h;rw[List.all_eq_true] at h;have:=h (nthW xs k) (by rw[zhY hk];exact List.getElem_mem hk);rw[hx] at this;cases this
theorem zkD(v:Value)(xs:List Wri)(w:World)(hr:RdW w v xs)(hf:∀ x∈xs,FitsW x) :
 Calls Tryz.prog 143 #[v] w fun e w'=>e=.returned (.bool (zbt xs))∧Below w.heap.size w w':=by
 obtain⟨a,cap,hv,hl,hm,_⟩:=id hr;unfold maxLen at hm;obtain⟨n,hn⟩:∃ n,n=xs.length:=⟨_,rfl⟩;rw[← hn] at hv hl;have HN:Hid (n=xs.length):=hn;have HF:Hid (∀ x∈xs,FitsW x):=hf;subst hv;clear hn hf;by_cases hbig:20<n
 ·have END:Hid (zbt xs=false):=by unfold Hid zbt;rw[decide_eq_false (by rw[← HN.out];omega)];rfl
  go_enter Tryz.func143,Tryz.ntmps143
  go_wp2;go_ret;exact⟨by rw[END.out];rfl,Below.refl _ _⟩
 ·have HB:Hid (∀ b,xs.all wriOk=b→zbt xs=b):=fun b h=>by unfold zbt;rw[decide_eq_true (by rw[← HN.out];omega),h];rfl
  go_enter Tryz.func143,Tryz.ntmps143
  go_wp2;go_loopw [3] (fun i wr=>∃ k:Nat,k≤n∧i=.int .i64 k∧Hid ((xs.take k).all wriOk=true)∧Below w.heap.size w wr) (fun i _=>n-(intOf i).toNat)
  case atStart=>exact⟨0,Nat.zero_le _,rfl,rfl,Below.refl _ _⟩
  case round =>
   obtain⟨k,hk,rfl,HA,hb⟩:=hrel;by_cases hlt:k<n
   ·have hkl:k<xs.length:=(by rw[← HN.out];exact hlt);have hkc:k<cap:=(by omega);obtain⟨b,off,rfl,hc⟩:=(hr.below hb).at HN.out k hkl;have hfx:=HF.out (nthW xs k) (by rw[zhY hkl];exact List.getElem_mem hkl);have HM:Hid (wriOk (nthW xs k)=true→(xs.take (k+1)).all wriOk=true):=fun h=>zmN hkl HA.out h
    have HNO:Hid (wriOk (nthW xs k)=false→zbt xs=false):=fun h=>HB.out false (znu hkl h)
    generalize nthW xs k=x at hc hfx HM HNO;obtain⟨c0,c1,c2⟩:=hc;have HE:Hid (∀ W,Calls Tryz.prog 122 #[.agg #[.string x.key,.string x.val,.int .i64 1,.bool x.gone]] W fun e w'=>e=.returned (.bool (wriOk x))∧Below W.heap.size W w'):=fun W=>zeq (wriE x 1) W ⟨hfx.1,hfx.2,by show (-9223372036854775808:Int)≤1;omega,by show (1:Int)≤9223372036854775807;omega⟩
    have hx1:=zhX wr x 53;have bb:=hb.alloc hb.size (.cells #[.string x.key,.string x.val,.bool x.gone] 53);obtain⟨d0,d1,d2⟩:=id hx1;clear hkl hfx;go_wp2_with fail
    refine(HE.out _).mono ?_;rintro e w1 ⟨rfl,hb1⟩;have b1:=bb.trans (hb1.mono bb.size);clear hx1 d0 d1 d2 bb hb1 hb HA;cases hwx:wriOk x with
    | false =>
     have END:Hid (zbt xs=false):=HNO.out hwx;clear HM HNO HE hwx;go_wp2;go_ret;exact⟨by rw[END.out];rfl,b1⟩
    | true =>
     have HA2:Hid ((xs.take (k+1)).all wriOk=true):=HM.out hwx;clear HM HNO HE hwx;go_wp2;go_roundw
     case rel=>exact⟨k+1,by omega,by go_num,HA2,b1⟩
     case measure=>simp[intOf];omega
   ·have hke:k=n:=(by omega);have END:Hid (zbt xs=true):=HB.out true (by have:=HA.out;rwa [hke,HN.out,List.take_length] at this);clear hke HA;go_wp2;go_ret;exact⟨by rw[END.out];rfl,hb⟩
open Go.RowKit
def zan(T:Tre)(xs:List Wri):Tre:=xs.foldl put1 T
def zaL(T:Tre)(xs:List Wri):Bool:=zbt xs&&decide (T.seq+(xs.length:Int)≤1000000)&&decide (T.mem.length+xs.length≤300)
theorem zk6(T:Tre){xs:List Wri}{k:Nat}(hk:k<xs.length):zan T (xs.take (k+1))=put1 (zan T (xs.take k)) (nthW xs k):=by
 unfold zan;rw[List.take_succ_eq_append_getElem hk,List.foldl_append,zhY hk];rfl
theorem zmY(T:Tre)(xs:List Wri):(zan T xs).seq=T.seq+(xs.length:Int):=by
 unfold zan;induction xs generalizing T with
 | nil=>simp
 | cons a r ih =>
  rw[List.foldl_cons,ih,List.length_cons];show T.seq+1+(r.length:Int)=T.seq+((r.length+1:Nat):Int);omega
theorem zmD(T:Tre)(xs:List Wri):(zan T xs).mem.length=T.mem.length+xs.length:=by
 unfold zan;induction xs generalizing T with
 | nil=>simp
 | cons a r ih =>
  rw[List.foldl_cons,ih,List.length_cons];show (insE T.mem (wriE a (T.seq+1))).length+r.length=T.mem.length+(r.length+1);rw[zc4];omega
theorem zkE(T:Tre)(xs:List Wri):(zan T xs).young=T.young∧(zan T xs).old=T.old∧(zan T xs).snaps=T.snaps:=by
 unfold zan;induction xs generalizing T with
 | nil=>exact⟨rfl,rfl,rfl⟩
 | cons a r ih=>rw[List.foldl_cons];exact ih (put1 T a)
theorem zld{T:Tre}(h:TreeP T):∀ {xs:List Wri},xs.all wriOk=true→T.seq+(xs.length:Int)≤1000000→T.mem.length+xs.length≤300→TreeP (zan T xs):=by
 intro xs;unfold zan;induction xs generalizing T with
 | nil=>intro _ _ _;exact h
 | cons a r ih =>
  intro h1 h2 h3;rw[List.all_cons,Bool.and_eq_true] at h1;rw[List.length_cons] at h2 h3;rw[List.foldl_cons];refine ih (zoD h h1.1 (by omega) (by omega)) h1.2 ?_ ?_
  ·show T.seq+1+(r.length:Int)≤1000000;omega
  ·show (insE T.mem (wriE a (T.seq+1))).length+r.length≤300;rw[zc4];omega
open Go.RowKit
def zcR(w:World)(b B:Nat)(vy vo vs:Value)(M:List Ent)(q:Int)(ok:Bool)(e:Ending)(w':World):Prop :=
 e=.returned (.bool ok)∧(∃ vm',BoxTr w' b vm' vy vo q vs∧OwnE w' B vm' M)∧Touch [b] w w'
theorem zgc{w:World}{B b t s n:Nat}{vm vy vo vs v:Value}{q:Int}{xs:List Value}(h:BoxTr w b vm vy vo q vs)(ho:w.ownsRow B t s v n xs)(ht:t≠28):∀ k,v.ownBlock=some k→b≠k:=by
 intro k hk e;subst e;rcases ho.2 with ⟨hv,_⟩ | ⟨g,cap,cur,hv,_,hg,_⟩
 ·rw[hv] at hk;cases hk
 ·rw[hv] at hk;obtain rfl:g=b:=Option.some.inj hk;unfold BoxTr at h;rw[h] at hg;injection hg with hg
  injection hg with _ h2
  exact ht h2.symm
theorem zkF(T:Tre)(vm vy vo vs:Value)(b B:Nat)(v:Value)(xs:List Wri)(w:World)(hb:BoxTr w b vm vy vo T.seq vs)(hm:OwnE w B vm T.mem)(hB:B≤w.heap.size)(ht:TreeP T)(hr:RdW w v xs)(hrt:∀ w',Touch [b] w w'→RdW w' v xs)(hf:∀ x∈xs,FitsW x) :
 Calls Tryz.prog 118 #[.pointer (some ⟨b,0,none⟩),v] w fun e w'=>zcR w b B vy vo vs (if zaL T xs=true then (zan T xs).mem else T.mem) (if zaL T xs=true then (zan T xs).seq else T.seq) (zaL T xs) e w':=by
 obtain⟨M,hM⟩:∃ M,M=if zaL T xs=true then (zan T xs).mem else T.mem:=⟨_,rfl⟩
 obtain⟨Q0,hQ0⟩:∃ Q0,Q0=if zaL T xs=true then (zan T xs).seq else T.seq:=⟨_,rfl⟩
 obtain⟨ok,hok⟩:∃ ok,ok=zaL T xs:=⟨_,rfl⟩;rw[← hM,← hQ0,← hok];have HM0:Hid (M=if zaL T xs=true then (zan T xs).mem else T.mem):=hM;have HQ0:Hid (Q0=if zaL T xs=true then (zan T xs).seq else T.seq):=hQ0;have HOK:Hid (ok=zaL T xs):=hok;clear hM hQ0 hok;have HBT:Hid (Calls Tryz.prog 143 #[v] w fun e w'=>e=.returned (.bool (zbt xs))∧Below w.heap.size w w'):=zkD v xs w hr hf;obtain⟨a,cap,hv,hl,hmx,_⟩:=id hr;unfold maxLen at hmx;obtain⟨n,hn⟩:∃ n,n=xs.length:=⟨_,rfl⟩;rw[← hn] at hv hl;have HN:Hid (n=xs.length):=hn;have HRT:Hid (∀ w',Touch [b] w w'→RdW w' v xs):=hrt;have HTP:Hid (TreeP T):=ht;have hq0:=ht.seq0;have hq1:=ht.seq1;have hml:=zad ht.mem;subst hv;clear hn hf hrt hr;obtain⟨am,cm,hvm,hlm,hmm,-⟩:=id hm.rd;unfold maxLen at hmm;obtain⟨mn,hmn⟩:∃ mn,mn=T.mem.length:=⟨_,rfl⟩;rw[← hmn] at hvm hlm hml;have HMN:Hid (mn=T.mem.length):=hmn;clear hmn;subst hvm;obtain⟨sq,hsq⟩:∃ sq,sq=T.seq:=⟨_,rfl⟩;rw[← hsq] at hb hq0 hq1;have HSQ:Hid (sq=T.seq):=hsq;clear hsq;have NOT:Hid (zaL T xs=false→∀ w',Below w.heap.size w w'→zcR w b B vy vo vs M Q0 ok (.returned (.bool false)) w'):=fun h w' hw=>by
  rw[HM0.out,HQ0.out,HOK.out,h];exact⟨rfl,⟨.slice am mn cm,by rw[if_neg (by simp),← HSQ.out];exact hb.on hw,by rw[if_neg (by simp)];exact hm.below hw⟩,Touch.of_below hw⟩
 cases hbo:zbt xs with
 | false =>
  have NO:Hid (zaL T xs=false):=by unfold Hid zaL;rw[hbo];rfl
  rw[hbo] at HBT;go_enter Tryz.func118,Tryz.ntmps118
  go_wp2_with fail
  refine HBT.out.mono ?_;rintro e w1 ⟨rfl,hb1⟩;have END:=NOT.out NO.out w1 hb1;have END2:Hid (zcR _ _ _ _ _ _ _ _ _ _ _):=END;clear END HBT hb1 NOT;go_wp2;go_ret;exact END2.out
 | true =>
  have hn20:n≤20:=by
   unfold zbt at hbo;rw[Bool.and_eq_true,decide_eq_true_eq] at hbo;have:=HN.out;omega
  have HALL:Hid (xs.all wriOk=true):=by unfold zbt at hbo;rw[Bool.and_eq_true] at hbo;exact hbo.2
  rw[hbo] at HBT;by_cases h1:1000000<sq+(n:Int)
  ·have NO:Hid (zaL T xs=false):=(by unfold Hid zaL;rw[hbo,decide_eq_false (by rw[← HN.out,← HSQ.out];omega)];rfl);go_enter Tryz.func118,Tryz.ntmps118
   go_wp2_with fail
   refine HBT.out.mono ?_;rintro e w1 ⟨rfl,hb1⟩;have END2:Hid (zcR _ _ _ _ _ _ _ _ _ _ _):=NOT.out NO.out w1 hb1;obtain⟨y0,y1,y2,y3,y4,-⟩:=(hb.on hb1).facts;clear HBT hb1 NOT;go_wp2;go_ret;exact END2.out
  by_cases h2:300<mn+n
  ·have NO:Hid (zaL T xs=false):=(by unfold Hid zaL;rw[decide_eq_false (show ¬ (T.mem.length+xs.length≤300) by rw[← HN.out,← HMN.out];omega),Bool.and_false]);have h2':(300:Int)<(mn:Int)+(n:Int):=(by omega);go_enter Tryz.func118,Tryz.ntmps118
   go_wp2_with fail
   refine HBT.out.mono ?_;rintro e w1 ⟨rfl,hb1⟩;have END2:Hid (zcR _ _ _ _ _ _ _ _ _ _ _):=NOT.out NO.out w1 hb1;obtain⟨y0,y1,y2,y3,y4,-⟩:=(hb.on hb1).facts;clear HBT hb1 NOT;go_wp2;go_ret;exact END2.out
  have YES:Hid (zaL T xs=true):=by unfold Hid zaL;rw[hbo,decide_eq_true (by rw[← HN.out,← HSQ.out];omega),decide_eq_true (by rw[← HN.out,← HMN.out];omega)];rfl
  have h2':¬ (300:Int)<(mn:Int)+(n:Int):=by omega
  have HM1:Hid (M=(zan T xs).mem):=by unfold Hid;rw[HM0.out,if_pos YES.out]
  have HQ1:Hid (Q0=(zan T xs).seq):=by unfold Hid;rw[HQ0.out,if_pos YES.out]
  have HOK1:Hid (ok=true):=by unfold Hid;rw[HOK.out,YES.out]
  clear NOT HM0 HQ0 HOK;go_enter Tryz.func118,Tryz.ntmps118
  go_wp2_with fail
  refine HBT.out.mono ?_;rintro e w1 ⟨rfl,hb1⟩;have zb1:=hb.on hb1;have hm1:=hm.below hb1;have T1:Touch [b] w w1:=Touch.of_below hb1;obtain⟨y0,y1,y2,y3,y4,-⟩:=zb1.facts;clear HBT hb1;go_wp2;clear y0 y1 y2 y3 y4;go_loopw [6] (fun i wr=>∃ (k:Nat) (vm':Value) (q:Int),k≤n∧i=.int .i64 k∧Hid (BoxTr wr b vm' vy vo q vs)∧Hid (q=(zan T (xs.take k)).seq)∧Hid (OwnE wr B vm' (zan T (xs.take k)).mem)∧Hid (Touch [b] w wr)) (fun i _=>n-(intOf i).toNat)
  case atStart=>exact⟨0,_,sq,Nat.zero_le _,rfl,zb1,HSQ.out,hm1,T1⟩
  case round =>
   obtain⟨k,vm',q,hk,rfl,ZB,HQ,HM,HT⟩:=hrel;clear zb1 hm1 T1 hb hm;by_cases hlt:k<n
   ·have hkl:k<xs.length:=(by rw[← HN.out];exact hlt);have hkc:k<cap:=(by omega);obtain⟨c,off,rfl,hc⟩:=(HRT.out wr HT.out).at HN.out k hkl;have HSN:Hid (zan T (xs.take (k+1))=put1 (zan T (xs.take k)) (nthW xs k)):=zk6 T hkl;have HLN:Hid ((zan T (xs.take k)).mem.length≤300):=by
     unfold Hid;rw[zmD,List.length_take,← HMN.out,← HN.out];omega
    have hqb:0≤q∧q<1000000:=by
     have:=HQ.out;rw[zmY,List.length_take,← HSQ.out,← HN.out] at this;omega
    obtain⟨hq2,hq3⟩:=hqb;generalize hU:zan T (xs.take k)=U at HQ HM HSN HLN;generalize nthW xs k=x at hc HSN;clear hU hkl;have hwl:=hc.lt;obtain⟨c0,c1,c2⟩:=id hc;obtain⟨au,cu,hvu,-⟩:=id HM.out.rd;obtain⟨un,hun⟩:∃ un,un=U.mem.length:=⟨_,rfl⟩;rw[← hun] at hvu;subst hvu;clear hun;have hbl:=ZB.out.lt;have hx1:=zhX wr x 53;have bb:=ze wr (.cells #[.string x.key,.string x.val,.bool x.gone] 53);have zb2:=ZB.out.on bb;have ss:(wr.setCell ⟨b,3,none⟩ (.int .i64 (q+1))).heap.size=wr.heap.size:=(by simp);have zs:=zho ZB.out (q+1);have hms:OwnE (wr.setCell ⟨b,3,none⟩ (.int .i64 (q+1))) B (.slice au un cu) U.mem:=zi HM.out (zgc ZB.out HM.out (by decide));have bs:=ze (wr.setCell ⟨b,3,none⟩ (.int .i64 (q+1))) (.cells #[.string x.key,.string x.val,.bool x.gone] 53);have zb3:=zs.on bs;have hm3:=hms.below bs;have T3:Touch [b] w ((wr.setCell ⟨b,3,none⟩ (.int .i64 (q+1))).alloc (.cells #[.string x.key,.string x.val,.bool x.gone] 53)):=(HT.out.trans (Touch.set (by simp))).trans (Touch.of_below bs);have x3:BoxW ((wr.setCell ⟨b,3,none⟩ (.int .i64 (q+1))).alloc (.cells #[.string x.key,.string x.val,.bool x.gone] 53)) wr.heap.size x:=(by rw[← ss];exact zhX _ x _);obtain⟨y0,y1,y2,y3,y4,g0,g1,g2,g3,g4⟩:=zb2.facts;have s3:wr.heap.size<((wr.setCell ⟨b,3,none⟩ (.int .i64 (q+1))).alloc (.cells #[.string x.key,.string x.val,.bool x.gone] 53)).heap.size:=(by simp)
    have hBW:B≤((wr.setCell ⟨b,3,none⟩ (.int .i64 (q+1))).alloc (.cells #[.string x.key,.string x.val,.bool x.gone] 53)).heap.size:=(by have:=HT.out.size;simp;omega);clear zs hms bs ss;clear ZB HM HT hx1 bb zb2 hc;go_wp2_with fail
    generalize (wr.setCell ⟨b,3,none⟩ (.int .i64 (q+1))).alloc (.cells #[.string x.key,.string x.val,.bool x.gone] 53)=W3 at zb3 hm3 T3 x3 s3 hBW ⊢;clear y0 y1 y2 y3 y4 g0 g1 g2 g3 g4 c0 c1 c2;obtain⟨y0,y1,y2,y3,y4,g0,g1,g2,g3,g4⟩:=zb3.facts;refine brg (S:=fun w'=>w'.cell? ⟨b,3,none⟩=some (.int .i64 (q+1))∧w'.cell? ⟨wr.heap.size,0,none⟩=some (.string x.key)∧w'.cell? ⟨wr.heap.size,1,none⟩=some (.string x.val)∧w'.cell? ⟨wr.heap.size,2,none⟩=some (.bool x.gone)) ⟨y3,x3⟩ (fun hH=>?_);have hwb:wr.heap.size≠b:=(by omega);have dd:Below W3.heap.size W3 W3.drew:=(Below.refl _ W3).drew;have zbV:=zb3.on dd;have hmV:=hm3.below dd;have TV:=T3.trans (Touch.of_below dd);have xV:BoxW W3.drew wr.heap.size x:=x3;have sV:wr.heap.size<W3.drew.heap.size:=s3;have hBV:B≤W3.drew.heap.size:=hBW;clear zb3 hm3 T3 x3 s3 hBW dd y0 y1 y2 y3 y4 g0 g1 g2 g3 g4;revert hH zbV hmV TV xV sV hBV;generalize W3.drew=V;intro hH zbV hmV TV xV sV hBV;obtain⟨y0,y1,y2,y3,y4,g0,g1,g2,g3,g4⟩:=zbV.facts;refine kA 0 50 hH ?_;refine kA 1 51 hH ?_;refine kA 2 52 hH ?_;refine kA 3 53 hH ?_;refine kA 5 55 hH ?_;refine kA 6 56 hH ?_;refine kA 7 57 hH ?_;refine kA 8 58 hH ?_;refine kA 9 59 hH ?_;refine kA 10 60 hH ?_;refine kA 11 61 hH ?_;refine kA 12 62 hH ?_;refine kA 13 63 hH ?_;refine kA 14 64 hH ?_;refine kA 15 65 hH ?_;refine rdy 4 (fun K hK=>?_);go_simp;refine hK.out _ _ hH (fun hH2=>?_);clear hK K hH;try simp only[Act.put,sA,sZ,sS]
    refine rdy 16 (fun K hK=>?_);go_simp;refine(zj7 (.slice au un cu) U.mem (wriE x (q+1)) _ hmV.rd (by have:=HLN.out;omega)).mono ?_;rintro e w5 ⟨u,rfl,hu,hb5⟩;have zb5:=zbV.on hb5;have T5:=TV.trans (Touch.of_below hb5);have x5:BoxW w5 wr.heap.size x:=⟨(hb5.cell (p:=⟨wr.heap.size,0,none⟩) sV).trans xV.1,(hb5.cell (p:=⟨wr.heap.size,1,none⟩) sV).trans xV.2.1,(hb5.cell (p:=⟨wr.heap.size,2,none⟩) sV).trans xV.2.2⟩;have hu5:OwnE w5 B u (insE U.mem (wriE x (q+1))):=OwnE.mono hu hBV;obtain⟨av,cv,hvv,-⟩:=id hu.rd;generalize (insE U.mem (wriE x (q+1))).length=vn at hvv;subst hvv;obtain⟨k0,k1,k2,k3,k4,l0,l1,l2,l3,l4⟩:=zb5.facts;refine hK.out _ _ ⟨k3,x5⟩ (fun hH3=>?_);clear hK K hH2 zbV hmV TV xV hu hb5 y0 y1 y2 y3 y4 g0 g1 g2 g3 g4;try simp only[Act.put,sA,sZ,sS]
    refine kA 17 67 hH3 ?_;refine kA 18 68 hH3 ?_;have zb6:=zck zb5 (.slice av vn cv);have hm6:OwnE (w5.setCell ⟨b,0,none⟩ (.slice av vn cv)) B (.slice av vn cv) (insE U.mem (wriE x (q+1))):=zi hu5 (zgc zb5 hu5 (by decide));have T6:Touch [b] w (w5.setCell ⟨b,0,none⟩ (.slice av vn cv)):=T5.trans (Touch.set (by simp));have x6:BoxW (w5.setCell ⟨b,0,none⟩ (.slice av vn cv)) wr.heap.size x:=⟨(World.cell?_setCell_other _ _ _ _ (by intro e;have e2:=congrArg Addr.block e;simp only at e2;omega)).trans x5.1,(World.cell?_setCell_other _ _ _ _ (by intro e;have e2:=congrArg Addr.block e;simp only at e2;omega)).trans x5.2.1,(World.cell?_setCell_other _ _ _ _ (by intro e;have e2:=congrArg Addr.block e;simp only at e2;omega)).trans x5.2.2⟩;have hM6:Hid (OwnE (w5.setCell ⟨b,0,none⟩ (.slice av vn cv)) B (.slice av vn cv) (zan T (xs.take (k+1))).mem):=by
     unfold Hid;rw[HSN.out];show OwnE _ B _ (insE U.mem (wriE x (U.seq+1)));rw[← HQ.out];exact hm6
    have hQ6:Hid (q+1=(zan T (xs.take (k+1))).seq):=(by unfold Hid;rw[HSN.out,HQ.out];rfl);obtain⟨-,-,-,p3,-⟩:=zb6.facts;refine rdy 19 (fun K hK=>?_);go_simp;refine hK.out _ _ ⟨p3,x6⟩ (fun hH4=>?_);clear hK K hH3 hH4 x6 p3 k0 k1 k2 k3 k4 l0 l1 l2 l3 l4 x5 hm6 zb5 T5 hu5;refine dne ?_;generalize w5.setCell ⟨b,0,none⟩ (.slice av vn cv)=W6 at zb6 T6 hM6 ⊢;go_wp2;go_roundw
    case rel=>exact⟨k+1,_,q+1,by omega,by go_num,zb6,hQ6,hM6,T6⟩
    case measure=>simp[intOf];omega
   ·have hke:k=n:=(by omega);have END:Hid (zcR w b B vy vo vs M Q0 ok (.returned (.bool true)) wr):=by
     have e:xs.take k=xs:=(by rw[hke,HN.out,List.take_length]);have h1:=HQ.out;have h2:=HM.out;rw[e] at h1 h2;rw[HM1.out,HQ1.out,HOK1.out,← h1];exact⟨rfl,⟨_,ZB.out,h2⟩,HT.out⟩
    clear hke ZB HQ HM HT;go_wp2;go_ret;exact END.out
open Go.RowKit
open Go.RowKit
end Go.Proofs.YtjlnchhgkfnldaaGreat
