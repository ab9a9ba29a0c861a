import Derived.Test.YtannfbpohhnnkaaGreatDoorG44
import Derived.Deep.DeepCutAuto
namespace Go.Proofs.YtannfbpohhnnkaaGreatDoor
set_option maxHeartbeats 16000000
set_option maxRecDepth 100000
open Go.RowKit
def BoxK(w:World)(b:Nat)(X:TrX)(l:ByteArray)(s:Int):Prop:=w.heap[b]? = some (.cells #[X.vm,X.vy,X.vo,.int .i64 X.seq,X.vs,.string l,.int .i64 s] 65 (0,0))
theorem BoxK.lt{w:World}{b:Nat}{X:TrX}{l:ByteArray}{s:Int}(h:BoxK w b X l s):b<w.heap.size:=(Array.getElem?_eq_some_iff.1 h).1
theorem BoxK.on{w w':World}{b:Nat}{X:TrX}{l:ByteArray}{s:Int}(h:BoxK w b X l s)(hb:Below w.heap.size w w'):BoxK w' b X l s:=(hb.block b h.lt).trans h
theorem BoxK.other{w:World}{b c j:Nat}{X:TrX}{l:ByteArray}{s:Int}{u:Value}(h:BoxK w b X l s)(hn:b≠c):BoxK (w.setCell ⟨c,j,none⟩ u) b X l s:=(heap_setCell_other w ⟨c,j,none⟩ b u hn).trans h
theorem BoxK.facts{w:World}{b:Nat}{X:TrX}{l:ByteArray}{s:Int}(h:BoxK w b X l s):w.cell? ⟨b,0,none⟩=some X.vm∧w.cell? ⟨b,1,none⟩=some X.vy∧w.cell? ⟨b,2,none⟩=some X.vo∧w.cell? ⟨b,3,none⟩=some (.int .i64 X.seq)∧w.cell? ⟨b,4,none⟩=some X.vs∧w.cell? ⟨b,5,none⟩=some (.string l)∧w.cell? ⟨b,6,none⟩=some (.int .i64 s) ∧
 w.frozen? ⟨b,0,none⟩=false∧w.frozen? ⟨b,1,none⟩=false∧w.frozen? ⟨b,2,none⟩=false∧w.frozen? ⟨b,3,none⟩=false∧w.frozen? ⟨b,4,none⟩=false∧w.frozen? ⟨b,5,none⟩=false∧w.frozen? ⟨b,6,none⟩=false:=by
 unfold BoxK at h;refine⟨?_,?_,?_,?_,?_,?_,?_,?_,?_,?_,?_,?_,?_,?_⟩<;>simp[World.cell?,World.frozen?,h]
theorem BoxK.put{w:World}{b:Nat}{X:TrX}{l:ByteArray}{s:Int}(h:BoxK w b X l s)(Y:TrX):BoxK (put5 w b Y.vm Y.vy Y.vo (.int .i64 Y.seq) Y.vs) b Y l s:=by
 unfold BoxK at h ⊢;have h0:=heap_setCell_same w b 0 _ _ Y.vm h;have h1:=heap_setCell_same _ b 1 _ _ Y.vy h0;have h2:=heap_setCell_same _ b 2 _ _ Y.vo h1;have h3:=heap_setCell_same _ b 3 _ _ (.int .i64 Y.seq) h2;exact heap_setCell_same _ b 4 _ _ Y.vs h3
theorem BoxK.log{w:World}{b:Nat}{X:TrX}{l:ByteArray}{s:Int}(h:BoxK w b X l s)(l':ByteArray):BoxK (w.setCell ⟨b,5,none⟩ (.string l')) b X l' s:=heap_setCell_same w b 5 _ _ _ h
theorem touch_yg{bs:List Nat}{w w1:World}{c j:Nat}{u:Value}(h:Touch bs w w1)(hc:w.heap.size≤c):Touch bs w (w1.setCell ⟨c,j,none⟩ u):=⟨h.os,h.tape,h.output,by simp;exact h.size,fun k hk hn=>(heap_setCell_other w1 ⟨c,j,none⟩ k u (fun e=>by simp at e;omega)).trans (h.block k hk hn)⟩
def addK(T:Tre)(n:Nat)(xs:List Wri):Option Tre:=if (recS (batS xs)).size≠0∧n+(recS (batS xs)).size≤20000 then addT T xs else none
def zdL(w:World)(b:Nat)(T:Tre)(l:ByteArray)(s:Int)(xs:List Wri)(te:TypeId)(pe:Value)(e:Ending)(w':World):Prop :=
 (∃ T',addK T l.size xs=some T'∧∃ Y:TrX,e=.returned (.tuple #[])∧Y.tre=T'∧BoxK w' b Y (l++recS (batS xs)) s∧OwnTree w' w.heap.size Y∧Touch [b] w w')∨(addK T l.size xs=none∧e=Gives te pe∧Below w.heap.size w w')
theorem zng(t:ByteArray):(recS t).size≤4000:=by
 by_cases h:t.size≤3000
 ·rw[zdv h];exact(zdy h).2
 ·rw[ziJ (by omega)];exact Nat.zero_le _
theorem batS_le{xs:List Wri}:(batS xs).size≤700000:=by
 unfold batS;split
 ·rw[← ze,zdJ];exact zlk _
 ·exact Nat.zero_le _
theorem zkW(s:ByteArray):s.toList.isEmpty=decide (s.size=0):=by
 rw[zce,Bool.eq_iff_iff,List.isEmpty_iff,decide_eq_true_eq,← ze,List.length_eq_zero_iff]
theorem addK_any(b:Nat)(X:TrX)(l:ByteArray)(s:Int)(v:Value)(xs:List Wri)(te:TypeId)(pe:Value)(w:World)(hb:BoxK w b X l s)(hx:RdTr w X)(hp:TreeP X.tre)(hc:CpTr X)(hw:RdW w v xs)(hf:∀ x∈xs,FitsW x)(hg:GErr w te pe)(hT:Tab w)(hl:l.size≤20000) :
 Calls Tryz.prog 90 #[.pointer (some ⟨b,0,none⟩),v] w fun e w'=>zdL w b X.tre l s xs te pe e w':=by
 obtain⟨am1,ay1,ao1,an1,mn1,yn1,on1,nn1,cm1,cy1,co1,cn1,v0,v1,v2,v3⟩:=RdTr.slices hx;obtain⟨vm0,vy0,vo0,vs0,mem1,ys1,os1,seq1,snaps1⟩:=X;simp only at v0 v1 v2 v3;subst v0;subst v1;subst v2;subst v3;obtain⟨av,cv,rfl,-⟩:=id hw;have HP:Hid (TreeP (TrX.tre ⟨.slice am1 mn1 cm1,.slice ay1 yn1 cy1,.slice ao1 on1 co1,.slice an1 nn1 cn1,mem1,ys1,os1,seq1,snaps1⟩)):=hp;have HC:Hid (CpTr ⟨.slice am1 mn1 cm1,.slice ay1 yn1 cy1,.slice ao1 on1 co1,.slice an1 nn1 cn1,mem1,ys1,os1,seq1,snaps1⟩):=hc;have HF:Hid (∀ x∈xs,FitsW x):=hf;clear hp hc hf;obtain⟨C,hC⟩:∃ C,C=batS xs:=⟨_,rfl⟩;have HCB:Hid (C=batS xs):=hC;obtain⟨R,hR⟩:∃ R,R=recS C:=⟨_,rfl⟩;have HRC:Hid (R=recS C):=hR;have hRs:R.size≤4000:=by rw[hR];exact zng C
 clear hC hR;go_enter Tryz.func90,Tryz.ntmps90
 go_wp2_with fail
 refine(zeG _ xs _ hw HF.out).mono ?_;rw[← HCB.out];rintro e w1 ⟨rfl,b1⟩;replace hb:=hb.on b1;replace hx:=hx.below b1;replace hw:=hw.below b1;replace hg:=hg.on b1;replace hT:=hT.on b1;go_wp2_with fail
 refine(zcf C _ (by rw[HCB.out];exact Nat.le_trans batS_le (by decide)) hT).mono ?_;rw[← HRC.out];rintro e w2 ⟨rfl,b2⟩;replace hb:=hb.on b2;replace hx:=hx.below b2;replace hw:=hw.below b2;replace hg:=hg.on b2;have bw:Below w.heap.size w w2:=b1.trans (b2.mono b1.size);clear b1 b2 hT;have hem:=zkW R;have HAK:Hid (addK (TrX.tre ⟨.slice am1 mn1 cm1,.slice ay1 yn1 cy1,.slice ao1 on1 co1,.slice an1 nn1 cn1,mem1,ys1,os1,seq1,snaps1⟩) l.size xs=if R.size≠0∧l.size+R.size≤20000 then addT (TrX.tre ⟨.slice am1 mn1 cm1,.slice ay1 yn1 cy1,.slice ao1 on1 co1,.slice an1 nn1 cn1,mem1,ys1,os1,seq1,snaps1⟩) xs else none):=by unfold Hid addK;rw[← HCB.out,← HRC.out]
 have HRL:Hid (recS (batS xs)=R):=by unfold Hid;rw[← HCB.out,← HRC.out]
 obtain⟨f0,f1,f2,f3,f4,f5,f6,n0,n1,n2,n3,n4,n5,n6⟩:=hb.facts;simp only at f0 f1 f2 f3 f4 f5 f6;have hg1:=hg;unfold GErr at hg1;by_cases h0:R.size=0
 ·have END:Hid (zdL w b (TrX.tre ⟨.slice am1 mn1 cm1,.slice ay1 yn1 cy1,.slice ao1 on1 co1,.slice an1 nn1 cn1,mem1,ys1,os1,seq1,snaps1⟩) l s xs te pe (Gives te pe) w2):=.inr ⟨by rw[HAK.out,if_neg (fun c=>c.1 h0)],rfl,bw⟩;rw[h0] at hem;unfold Gives at END;clear hb hx hw hg HP HC HF HCB HRC HAK HRL bw f0 f1 f2 f3 f4 f6 n0 n1 n2 n3 n4 n5 n6 hRs h0;simp only[decide_true] at hem;go_wp2;exact⟨rfl,END.out⟩
 have hem2:R.toList.isEmpty=false:=by rw[hem];simp[h0]
 clear hem;by_cases h1:20000<l.size+R.size
 ·have END:Hid (zdL w b (TrX.tre ⟨.slice am1 mn1 cm1,.slice ay1 yn1 cy1,.slice ao1 on1 co1,.slice an1 nn1 cn1,mem1,ys1,os1,seq1,snaps1⟩) l s xs te pe (Gives te pe) w2):=.inr ⟨by rw[HAK.out,if_neg (fun c=>by have:=c.2;omega)],rfl,bw⟩;unfold Gives at END;clear hb hx hw hg HP HC HF HCB HRC HAK HRL bw f0 f1 f2 f3 f4 f6 n0 n1 n2 n3 n4 n5 n6;go_wp2;exact⟨rfl,END.out⟩
 have h2:l.size+R.size≤20000:=by omega
 clear hg1;go_wp2_with fail
 refine(zqc ⟨.slice am1 mn1 cm1,.slice ay1 yn1 cy1,.slice ao1 on1 co1,.slice an1 nn1 cn1,mem1,ys1,os1,seq1,snaps1⟩ _ xs te pe _ hx HP.out HC.out hw HF.out hg).mono ?_;rintro e w3 (⟨T',ha,Y,rfl,hYt,oY,b3⟩ | ⟨ha,rfl,b3⟩)
 ·have hb3:=hb.on b3;have bw3:=bw.trans (b3.mono bw.size);have hlt:b<w2.heap.size:=hb.lt;clear f0 f1 f2 f3 f4 f5 f6 n0 n1 n2 n3 n4 n5 n6 hb hx hw hg HP HC HF HCB HRC;have hYr:=oY.rd;obtain⟨am2,ay2,ao2,an2,mn2,yn2,on2,nn2,cm2,cy2,co2,cn2,v0,v1,v2,v3⟩:=RdTr.slices hYr;obtain⟨vm0,vy0,vo0,vs0,mem2,ys2,os2,seq2,snaps2⟩:=Y;simp only at v0 v1 v2 v3;subst v0;subst v1;subst v2;subst v3;have hk1:=hb3.put ⟨.slice am2 mn2 cm2,.slice ay2 yn2 cy2,.slice ao2 on2 co2,.slice an2 nn2 cn2,mem2,ys2,os2,seq2,snaps2⟩;have hk2:=hk1.log (l++R);have hlo:w.heap.size≤w2.heap.size:=bw.size;have hn5:b ∉ trB ⟨.slice am2 mn2 cm2,.slice ay2 yn2 cy2,.slice ao2 on2 co2,.slice an2 nn2 cn2,mem2,ys2,os2,seq2,snaps2⟩:=fun e=>by have:=(oY.bound e).1;omega
  have END:Hid (zdL w b (TrX.tre ⟨.slice am1 mn1 cm1,.slice ay1 yn1 cy1,.slice ao1 on1 co1,.slice an1 nn1 cn1,mem1,ys1,os1,seq1,snaps1⟩) l s xs te pe (.returned (.tuple #[])) ((put5 w3 b (.slice am2 mn2 cm2) (.slice ay2 yn2 cy2) (.slice ao2 on2 co2) (.int .i64 seq2) (.slice an2 nn2 cn2)).setCell ⟨b,5,none⟩ (.string (l++R)))):=by
   refine .inl ⟨T',by rw[HAK.out,if_pos ⟨h0,h2⟩];exact ha,_,rfl,hYt,by rw[HRL.out];exact hk2,((zbR oY hlt).other hn5).lower hlo,?_⟩;exact((Touch.of_below bw3).trans zfG).trans (Touch.set (by simp))
  obtain⟨f0,f1,f2,f3,f4,f5,f6,n0,n1,n2,n3,n4,n5,n6⟩:=hb3.facts;simp only at f0 f1 f2 f3 f4 f5 f6;obtain⟨g0,g1,g2,g3,g4,g5,g6,p0,p1,p2,p3,p4,p5,p6⟩:=hk1.facts;simp only at g0 g1 g2 g3 g4 g5 g6;unfold put5 at g0 g1 g2 g3 g4 g5 g6 p0 p1 p2 p3 p4 p5 p6 END;clear hk1 hk2 hb3 bw bw3 oY hYr hYt hlt hlo HAK HRL hn5 ha b3;go_wp2;first
   | (go_ret
      exact END.out)
   | (refine bodyPost_ret (results_none rfl _ _ _) rfl ?_
      exact END.out)
   | (go_end0
      exact END.out)
 ·have END:Hid (zdL w b (TrX.tre ⟨.slice am1 mn1 cm1,.slice ay1 yn1 cy1,.slice ao1 on1 co1,.slice an1 nn1 cn1,mem1,ys1,os1,seq1,snaps1⟩) l s xs te pe (Gives te pe) w3):=.inr ⟨by rw[HAK.out,if_pos ⟨h0,h2⟩];exact ha,rfl,bw.trans (b3.mono bw.size)⟩;unfold Gives at END ⊢;clear hb hx hw hg HP HC HF HCB HRC HAK HRL bw b3 ha f0 f1 f2 f3 f4 f5 f6 n0 n1 n2 n3 n4 n5 n6;go_wp2;exact⟨rfl,END.out⟩
theorem zhO(p:Addr)(x:Bool)(u:TypeId)(pv:Value)(older:List PanicEntry)(w:World)(hc:w.cell? p=some (.bool x))(hz:w.frozen? p=false) :
 CallsD Tryz.prog 89 #[.pointer (some p)] (.panicking ({ v:=.iface u pv,recovered:=false }::older)) w fun e u' w' =>
  e=.returned (.tuple #[])∧u'=.panicking ({ v:=.iface u pv,recovered:=true }::older)∧w'=w.setCell p (.bool false):=by
 refine callsD_of_wpS Tryz.func89 rfl fun c₀ cs hu=>?_
 apply wpS_seq;apply wpS_region;simp[wpOpsS,go_sem,recoverD,hu,Tryz.ntmps89,Exit.thenS];refine wpS_cond (t:=true) (by simp[Act.eval,Array.replicate]) ?_;simp only[if_true];apply wpS_region;simp[wpOpsS,go_sem,hc,hz,bodyPostS,results,Tryz.results89]
theorem znh(p:Addr)(w:World) :
 CallsD Tryz.prog 89 #[.pointer (some p)] .returning w fun e u' w'=>e=.returned (.tuple #[])∧u'=.returning∧w'=w:=by
 refine callsD_of_wpS Tryz.func89 rfl fun c₀ cs hu=>?_
 apply wpS_seq;apply wpS_region;simp[wpOpsS,go_sem,recoverD,hu,Tryz.ntmps89,Exit.thenS];refine wpS_cond (t:=false) (by simp[Act.eval,Array.replicate]) ?_;simp only[Bool.false_eq_true,if_false];refine wpS_of_wp (wp_skip ?_);cases c₀
 simp_all [bodyPostS,results,Tryz.results89]
def zhM(w:World)(b:Nat)(T:Tre)(l:ByteArray)(s:Int)(xs:List Wri)(e:Ending)(w':World):Prop :=
 (∃ T',addK T l.size xs=some T'∧∃ Y:TrX,e=.returned (.bool true)∧Y.tre=T'∧BoxK w' b Y (l++recS (batS xs)) s∧OwnTree w' w.heap.size Y∧Touch [b] w w')∨(addK T l.size xs=none∧e=.returned (.bool false)∧Below w.heap.size w w')
theorem zpz(b:Nat)(X:TrX)(l:ByteArray)(s:Int)(v:Value)(xs:List Wri)(te:TypeId)(pe:Value)(w:World)(hb:BoxK w b X l s)(hx:RdTr w X)(hp:TreeP X.tre)(hc:CpTr X)(hw:RdW w v xs)(hf:∀ x∈xs,FitsW x)(hg:GErr w te pe)(hT:Tab w)(hl:l.size≤20000) :
 Calls Tryz.prog 50 #[.pointer (some ⟨b,0,none⟩),v] w fun e w'=>zhM w b X.tre l s xs e w':=by
 have hmf:∀ (fn:Fn) (first cap:Array Value) (w:World),(Instr.makeFunc fn first cap).run Tryz.prog w=.ok (.func fn first cap) w:=fun _ _ _ _=>rfl
 have bw:=za w (.cells #[.bool false] 4);obtain⟨W0,hW0⟩:∃ W,W=w.alloc (.cells #[.bool false] 4):=⟨_,rfl⟩;have HW:Hid (w.alloc (.cells #[.bool false] 4)=W0):=hW0.symm;have r0:W0.heap[w.heap.size]? = some (.cells #[.bool false] 4 (0,0)):=by rw[hW0];exact heap_alloc_new w _
 have s0:W0.heap.size=w.heap.size+1:=by rw[hW0];simp
 rw[← hW0] at bw;have hblt:b<w.heap.size:=hb.lt;have HCALL:Hid (Calls Tryz.prog 90 #[.pointer (some ⟨b,0,none⟩),v] W0 fun e w'=>zdL W0 b X.tre l s xs te pe e w'):=addK_any b X l s v xs te pe W0 (hb.on bw) (hx.below bw) hp hc (hw.below bw) hf (hg.on bw) (hT.on bw) hl;obtain⟨av,cv,rfl,-⟩:=id hw;clear hW0 hb hx hp hc hw hf hg hT hl;go_enter_defers Tryz.func50,Tryz.ntmps50
 go_wp2_with fail
 rw[HW.out];clear HW;refine HCALL.out.mono ?_;rintro e w1 (⟨T',ha,Y,rfl,hYt,hk,oY,ht⟩ | ⟨ha,rfl,b1⟩)
 ·have r1:w1.heap[w.heap.size]? = some (.cells #[.bool false] 4 (0,0)):=(ht.block w.heap.size (by omega) (fun e=>by have:=List.mem_singleton.1 e;omega)).trans r0;have c1:w1.cell? ⟨w.heap.size,0,none⟩=some (.bool false):=by simp[World.cell?,r1]
  have z1:w1.frozen? ⟨w.heap.size,0,none⟩=false:=by simp[World.frozen?,r1]
  have c2:(w1.setCell ⟨w.heap.size,0,none⟩ (.bool true)).cell? ⟨w.heap.size,0,none⟩=some (.bool true):=by
   have:=heap_setCell_same w1 w.heap.size 0 _ _ (.bool true) r1;simp[World.cell?,this]
  have hn:w.heap.size ∉ trB Y:=fun e=>by have:=(oY.bound e).1;omega
  have END:Hid (zhM w b X.tre l s xs (.returned (.bool true)) (w1.setCell ⟨w.heap.size,0,none⟩ (.bool true))) :=
   .inl ⟨T',ha,Y,rfl,hYt,hk.other (by omega),(oY.other hn).lower (by omega),touch_yg ((Touch.of_below bw).trans ht) (Nat.le_refl _)⟩
  clear HCALL hYt hk oY ht r1 r0 hn ha bw;go_wp2;refine leaves_cons (f:=89) (args:=#[.pointer (some ⟨w.heap.size,0,none⟩)]) (by simp) (by simp[go_sem]) ?_;refine(znh ⟨w.heap.size,0,none⟩ _).mono ?_;rintro e u' w'' ⟨rfl,rfl,rfl⟩;have E2:=END.out;simp[Leaves,settle,results,Tryz.results50,go_sem,c2];exact E2
 ·have r1:w1.heap[w.heap.size]? = some (.cells #[.bool false] 4 (0,0)):=(b1.block w.heap.size (by omega)).trans r0;have c1:w1.cell? ⟨w.heap.size,0,none⟩=some (.bool false):=by simp[World.cell?,r1]
  have z1:w1.frozen? ⟨w.heap.size,0,none⟩=false:=by simp[World.frozen?,r1]
  have c2:(w1.setCell ⟨w.heap.size,0,none⟩ (.bool false)).cell? ⟨w.heap.size,0,none⟩=some (.bool false):=by
   have:=heap_setCell_same w1 w.heap.size 0 _ _ (.bool false) r1;simp[World.cell?,this]
  have END:Hid (zhM w b X.tre l s xs (.returned (.bool false)) (w1.setCell ⟨w.heap.size,0,none⟩ (.bool false))) :=
   .inr ⟨ha,rfl,(bw.trans (b1.mono bw.size)).setCell (Nat.le_refl _) _⟩
  unfold Gives;clear HCALL r1 r0 ha bw b1;go_wp2;refine leaves_cons (f:=89) (args:=#[.pointer (some ⟨w.heap.size,0,none⟩)]) (by simp) (by simp[go_sem]) ?_;refine(zhO ⟨w.heap.size,0,none⟩ false te pe [] _ c1 z1).mono ?_;rintro e u' w'' ⟨rfl,rfl,rfl⟩;have E2:=END.out;simp[Leaves,settle,results,Tryz.results50,go_sem,c2];exact E2
open Go.RowKit
structure KB (W:World) (b lo:Nat) (X:TrX):Prop where
 box:BoxTr W b X.vm X.vy X.vo X.seq X.vs
 rows:RowsTr W lo X
 tree:TreeP X.tre
theorem KB.off{W:World}{b lo:Nat}{X:TrX}(h:KB W b lo X):∀ k∈trB X,k ∉ [b]:=fun _ hk e=>zpK h.box h.rows hk (List.mem_singleton.1 e).symm
theorem KB.below{W W1:World}{b lo:Nat}{X:TrX}(h:KB W b lo X)(hb:Below W.heap.size W W1):KB W1 b lo X:=⟨h.box.on hb,h.rows.below hb,h.tree⟩
def KBPost(b lo:Nat)(T:Tre)(V:World)(e:Ending)(V1:World):Prop:=∃ ok:Bool,e=.returned (.bool ok)∧∃ Y,KB V1 b lo Y∧Y.tre=T∧Touch [b] V V1
theorem kb_spill{V:World}{b lo:Nat}{X:TrX}(h:KB V b lo X)(hlo:lo≤V.heap.size) :
 Calls Tryz.prog 56 #[.pointer (some ⟨b,0,none⟩)] V fun e V1=>KBPost b lo (zc1 X.tre) V e V1:=by
 have hY:X.ys.length=X.tre.young.length:=by show _=(X.ys.map (·.T)).length;rw[List.length_map]
 refine(zlA b X.vm X.vy X.vo X.vs X.mem X.ys X.seq V h.box h.rows.mem.rd (h.rows.young.rd h.rows.youngs) (zdc h.rows.young) (fun e he=>zqe (((za0 _).1 h.tree.mem).2.1 e he)) (by have:X.mem.length≤300:=zZ h.tree.mem;omega) (by rw[hY];exact h.tree.young)).mono ?_;rintro e V1 ⟨ok,rfl,hok,hno,hyes⟩;refine⟨ok,rfl,?_⟩;have hso:ok=zbM X.tre:=by rw[hok,hY];rfl
 cases ok with
 | false=>exact⟨X,h.below (hno rfl),by rw[zdW h.tree,if_neg (by rw[← hso];simp)],Touch.of_below (hno rfl)⟩
 | true =>
  obtain⟨vm',vy',vb,vk,hb,om,oy,oi,os,ht⟩:=hyes rfl;have hk:=hok.symm;rw[Bool.and_eq_true,decide_eq_true_eq,decide_eq_true_eq] at hk;have hr:=h.rows.touch ht h.off;have hT:(⟨[],zq X.mem::X.ys.map (·.T),X.os.map (·.T),X.seq,X.snaps⟩:Tre)=zc1 X.tre:=by rw[zdW h.tree,if_pos hso.symm];rfl
  refine⟨⟨vm',vy',X.vo,X.vs,[],⟨zq X.mem,vb,vk⟩::X.ys,X.os,X.seq,X.snaps⟩,⟨hb,⟨om.mono hlo,oy.mono hlo,?_,hr.old,hr.olds,hr.snaps⟩,?_⟩,hT,ht⟩
  ·intro t ht2;rcases List.mem_cons.1 ht2 with rfl | ht2
   ·exact⟨oi.mono hlo,os.mono hlo⟩
   ·exact hr.youngs t ht2
  ·show TreeP (⟨[],zq X.mem::X.ys.map (·.T),X.os.map (·.T),X.seq,X.snaps⟩:Tre);rw[hT];exact zcX h.tree
theorem kb_sink{V:World}{b lo:Nat}{X:TrX}(h:KB V b lo X)(hlo:lo≤V.heap.size) :
 Calls Tryz.prog 57 #[.pointer (some ⟨b,0,none⟩)] V fun e V1=>KBPost b lo (sinkR X.tre) V e V1:=by
 have hY:X.ys.length=X.tre.young.length:=by show _=(X.ys.map (·.T)).length;rw[List.length_map]
 have hO:X.os.length=X.tre.old.length:=by show _=(X.os.map (·.T)).length;rw[List.length_map]
 have hTL:tl X.ys X.ys.length++tl X.os X.os.length=tabL X.tre:=tabL_tl rfl rfl;have hFT:=zhs h.tree;have hcall:=znn b X.vm X.vy X.vo X.vs X.ys X.os X.seq X.snaps V h.box (h.rows.young.rd h.rows.youngs) (h.rows.old.rd h.rows.olds) h.rows.snaps.rd hFT.young hFT.old (by rw[hY];exact h.tree.young) (by rw[hO];exact h.tree.old) h.tree.few (fun hn=>by
  rw[hTL] at hn ⊢;have h0:sinkM (tabL X.tre) X.snaps X.seq=sinkL X.tre:=rfl;rw[h0];have hok:=ziA h.tree hn;exact⟨fun e he=>zqe (((za0 _).1 hok).2.1 e he),by have:=zZ hok;omega⟩)
 rw[hTL] at hcall;refine hcall.mono ?_;rintro e V1 ⟨ok,rfl,hok,hno,hyes⟩;refine⟨ok,rfl,?_⟩;have hso:ok=zc9 X.tre:=by rw[hok,hY];rfl
 cases ok with
 | false=>exact⟨X,h.below (hno rfl),by rw[zfd h.tree,if_neg (by rw[← hso];simp)],Touch.of_below (hno rfl)⟩
 | true =>
  obtain⟨vy',vo',ts,hb,oy,oo,oi,hts,ht,-⟩:=hyes rfl;have hr:=h.rows.touch ht h.off;have e:(⟨X.mem,[],ts.map (·.T),X.seq,X.snaps⟩:Tre)=sinkR X.tre:=by rw[zfd h.tree,if_pos hso.symm,hts];rfl
  refine⟨⟨X.vm,vy',vo',X.vs,X.mem,[],ts,X.seq,X.snaps⟩,⟨hb,⟨hr.mem,oy.mono hlo,(fun t ht=>by cases ht),oo.mono hlo,InT.mono oi hlo,hr.snaps⟩,?_⟩,e,ht⟩;show TreeP (⟨X.mem,[],ts.map (·.T),X.seq,X.snaps⟩:Tre);rw[e];exact zh4 h.tree
def KBWPost(b lo:Nat)(ok:Bool)(T:Tre)(V:World)(e:Ending)(V1:World):Prop:=e=.returned (.bool ok)∧∃ Y,KB V1 b lo Y∧Y.tre=T∧Touch [b] V V1
theorem zm2{V:World}{b lo:Nat}{X:TrX}{v:Value}{xs:List Wri}(h:KB V b lo X)(hlo:lo≤V.heap.size)(hw:∀ W,Touch [b] V W→RdW W v xs)(hf:∀ x∈xs,FitsW x) :
 Calls Tryz.prog 106 #[.pointer (some ⟨b,0,none⟩),v] V fun e V1=>KBWPost b lo (zx X.tre xs) (if zx X.tre xs=true then zw X.tre xs else X.tre) V e V1:=by
 refine(zlP X.tre X.vm X.vy X.vo X.vs b lo v xs V h.box h.rows.mem hlo h.tree (hw V (Touch.refl _ _)) hw hf).mono ?_;rintro e V1 ⟨rfl,⟨vm',hb,om⟩,ht⟩;refine⟨rfl,?_⟩;have hr:=h.rows.touch ht h.off;cases hroom:zx X.tre xs with
 | false =>
  rw[hroom] at hb om;exact⟨⟨vm',X.vy,X.vo,X.vs,X.mem,X.ys,X.os,X.seq,X.snaps⟩,⟨hb,⟨om,hr.young,hr.youngs,hr.old,hr.olds,hr.snaps⟩,h.tree⟩,rfl,ht⟩
 | true =>
  rw[hroom] at hb om;obtain⟨e1,e2,e3⟩:=zcS X.tre xs;have hT:(⟨(zw X.tre xs).mem,X.ys.map (·.T),X.os.map (·.T),(zw X.tre xs).seq,X.snaps⟩:Tre)=zw X.tre xs:=by
   have h1:X.ys.map (·.T)=(zw X.tre xs).young:=e1.symm;have h2:X.os.map (·.T)=(zw X.tre xs).old:=e2.symm;have h3:X.snaps=(zw X.tre xs).snaps:=e3.symm;rw[h1,h2,h3]
  refine⟨⟨vm',X.vy,X.vo,X.vs,(zw X.tre xs).mem,X.ys,X.os,(zw X.tre xs).seq,X.snaps⟩,⟨hb,⟨om,hr.young,hr.youngs,hr.old,hr.olds,hr.snaps⟩,?_⟩,hT,ht⟩;show TreeP (⟨(zw X.tre xs).mem,X.ys.map (·.T),X.os.map (·.T),(zw X.tre xs).seq,X.snaps⟩:Tre);rw[hT];exact zdC h.tree hroom
def zli(b lo:Nat)(T:Tre)(xs:List Wri)(V:World)(e:Ending)(V1:World):Prop:=e=.returned (.bool (addT T xs).isSome)∧∃ Y,KB V1 b lo Y∧(∀ T',addT T xs=some T'→Y.tre=T')∧Touch [b] V V1
theorem zog(V:World)(b lo:Nat)(X:TrX)(v:Value)(xs:List Wri)(h:KB V b lo X)(hlo:lo≤V.heap.size)(hw:∀ W,Touch [b] V W→RdW W v xs)(hf:∀ x∈xs,FitsW x) :
 Calls Tryz.prog 67 #[.pointer (some ⟨b,0,none⟩),v] V fun e V1=>zli b lo X.tre xs V e V1:=by
 have HF:Hid (∀ x∈xs,FitsW x):=hf;have HW:Hid (∀ W,Touch [b] V W→RdW W v xs):=hw;obtain⟨av,cv,hv,-⟩:=hw V (Touch.refl _ _);subst hv;clear hf hw;go_enter Tryz.func67,Tryz.ntmps67
 go_wp2_with fail
 refine(zm2 h hlo HW.out HF.out).mono ?_;rintro e V1 ⟨rfl,Y,hk,ht,hto⟩;cases hr:zx X.tre xs with
 | true =>
  have END:Hid (zli b lo X.tre xs V (.returned (.bool true)) V1):=by
   have ha:addT X.tre xs=some (zw X.tre xs):=by unfold addT;rw[if_pos hr]
   refine⟨by rw[ha];rfl,Y,hk,fun T' e=>?_,hto⟩;rw[ha] at e;rw[ht,if_pos hr];exact Option.some.inj e
  clear hk ht hto h hlo HW HF;go_wp2;go_ret;exact END.out
 | false =>
  rw[if_neg (by rw[hr];simp)] at ht;have hl1:lo≤V1.heap.size:=Nat.le_trans hlo hto.size;clear h hlo;go_wp2_with fail
  refine(kb_spill hk hl1).mono ?_;rintro e V2 ⟨o2,rfl,Y2,hk2,ht2,hto2⟩;rw[ht] at ht2;have hto3:=hto.trans hto2;have hl2:lo≤V2.heap.size:=Nat.le_trans hl1 hto2.size;clear hk hto hto2 hl1;go_wp2_with fail
  refine(kb_sink hk2 hl2).mono ?_;rintro e V3 ⟨o3,rfl,Y3,hk3,ht3,hto4⟩;rw[ht2] at ht3;have hto5:=hto3.trans hto4;have hl3:lo≤V3.heap.size:=Nat.le_trans hl2 hto4.size;have HW3:Hid (∀ W,Touch [b] V3 W→RdW W (.slice av xs.length cv) xs):=fun W hW=>HW.out W (hto5.trans hW)
  clear hk2 hto3 hto4 hl2 ht2;go_wp2_with fail
  refine(zm2 hk3 hl3 HW3.out HF.out).mono ?_;rintro e V4 ⟨rfl,Y4,hk4,ht4,hto6⟩;have END:Hid (zli b lo X.tre xs V (.returned (.bool (zx Y3.tre xs))) V4):=by
   have e3:Y3.tre=tidyT X.tre:=ht3;have ha:addT X.tre xs=if zx (tidyT X.tre) xs=true then some (zw (tidyT X.tre) xs) else none:=by unfold addT;rw[if_neg (by rw[hr];simp)]
   refine⟨?_,Y4,hk4,fun T' e=>?_,hto5.trans hto6⟩
   ·rw[ha,e3];cases zx (tidyT X.tre) xs<;>rfl
   ·rw[ha] at e;rw[ht4,e3];cases hq:zx (tidyT X.tre) xs with
    | false=>rw[hq] at e;cases e
    | true=>rw[hq] at e;simp only[if_true] at e;rw[if_pos rfl];exact Option.some.inj e
  generalize zx Y3.tre xs=ok at END;clear hk3 ht3 hto5 hl3 hk4 ht4 hto6 HW HW3 HF;go_wp2;go_ret;exact END.out
open Go.RowKit
theorem zn0{d:List UInt8}{ts:List ByteArray}{n:Nat}(h:RecsP d ts n):(ts.map fun t=>(recS t).data.toList).flatten=d.take n:=by
 rw[h.2.2.1];congr 1
 refine List.map_congr_left (fun t ht=>?_);rw[zdv (h.1 t ht)]
theorem joinR_le(ts:List ByteArray)(k:Nat):(joinR ts k).length≤(joinR ts ts.length).length:=by
 unfold joinR;rw[List.take_length];conv=>rhs;rw[← List.take_append_drop k ts]
 rw[List.map_append,List.flatten_append,List.length_append];omega
theorem zjO{d:List UInt8}{ts:List ByteArray}{n:Nat}(h:RecsP d ts n):joinR ts ts.length=d.take n:=by
 unfold joinR;rw[List.take_length];exact zn0 h
theorem zqT{d:List UInt8}{ts:List ByteArray}{m k n:Nat}{T:Tre}(h:RecsP d ts m)(e:repK ts k=some (T,n))(hk:k<ts.length):n+(recS ts[k]).size≤d.length:=by
 have h1:=joinR_le ts (k+1);rw[zjO h,zfO hk,List.length_append,(zeM e).1,List.length_take,ze] at h1;omega
structure LR (w W:World) (b2 b4:Nat) (u:Value) (ts:List ByteArray) (X:TrX):Prop where
 kb:KB W b4 w.heap.size X
 res:BoxTr W b2 (.slice none 0 0) (.slice none 0 0) (.slice none 0 0) 0 (.slice none 0 0)
 tx:OwnS W (b4+1) u ts
 bw:Below w.heap.size w W
theorem LR.on{w W W':World}{b2 b4:Nat}{u:Value}{ts:List ByteArray}{X:TrX}(h:LR w W b2 b4 u ts X)(hb:Below W.heap.size W W'):LR w W' b2 b4 u ts X:=⟨h.kb.below hb,h.res.on hb,h.tx.below hb,h.bw.trans (hb.mono h.bw.size)⟩
theorem LR.put{w W:World}{b2 b4:Nat}{u:Value}{ts:List ByteArray}{X Y:TrX}(h:LR w W b2 b4 u ts X)(hy:RowsTr W w.heap.size Y)(hp:TreeP Y.tre)(h2:b2≠b4)(h4:w.heap.size≤b4):LR w (put5 W b4 Y.vm Y.vy Y.vo (.int .i64 Y.seq) Y.vs) b2 b4 u ts Y:=by
 have ht:Touch [b4] W (put5 W b4 Y.vm Y.vy Y.vo (.int .i64 Y.seq) Y.vs):=zfG;refine⟨⟨zH h.kb.box _ _ _ _ _,hy.touch ht (fun k hk e=>zpK h.kb.box hy hk (List.mem_singleton.1 e).symm),hp⟩,(ht.block b2 h.res.lt (fun e=>h2 (List.mem_singleton.1 e))).trans h.res,ht.row h.tx (fun k hk e=>?_),zL h.bw h4⟩;have h1:=(World.ownsRow.lt h.tx k hk).1;have h3:=List.mem_singleton.1 e;omega
def zgQ(w:World)(T:Tre)(n:Nat)(e:Ending)(w':World):Prop :=
 ∃ Y:TrX,e=.returned (.tuple #[.agg #[Y.vm,Y.vy,Y.vo,.int .i64 Y.seq,Y.vs],.int .i64 (n:Int)])∧Y.tre=T∧RowsTr w' w.heap.size Y∧Below w.heap.size w w'
theorem LR.fin{w W:World}{b2 b4:Nat}{u:Value}{ts:List ByteArray}{X:TrX}{T:Tre}{n:Nat}(h:LR w W b2 b4 u ts X)(hT:X.tre=T)(h2:b2=w.heap.size):zgQ w T n (.returned (.tuple #[.agg #[X.vm,X.vy,X.vo,.int .i64 X.seq,X.vs],.int .i64 (n:Int)])) (put5 W b2 X.vm X.vy X.vo (.int .i64 X.seq) X.vs):=by
 have ht:Touch [b2] W (put5 W b2 X.vm X.vy X.vo (.int .i64 X.seq) X.vs):=zfG;exact⟨X,rfl,hT,h.kb.rows.touch ht (fun k hk e=>zpK h.res h.kb.rows hk (List.mem_singleton.1 e).symm),zL h.bw (by omega)⟩
theorem zk2(w:World)(lo:Nat):RowsTr w lo ⟨.slice none 0 0,.slice none 0 0,.slice none 0 0,.slice none 0 0,[],[],[],0,[]⟩ :=
 ⟨⟨rfl,.inl ⟨rfl,rfl⟩⟩,⟨rfl,.inl ⟨rfl,rfl⟩⟩,(fun t ht=>by cases ht),⟨rfl,.inl ⟨rfl,rfl⟩⟩,(fun t ht=>by cases ht),⟨rfl,.inl ⟨rfl,rfl⟩⟩⟩
theorem OwnTr.rows{w:World}{B:Nat}{Y:TrX}(h:OwnTr w B Y):RowsTr w B Y:=⟨h.mem,h.young,h.youngs,h.old,h.olds,h.snaps⟩
theorem ziP{w:World}{a:Option Addr}{n cap:Nat}{ss:List ByteArray}(h:RdS w (.slice a n cap) ss)(i:Nat)(hi:i<ss.length):∃ b off,a=some ⟨b,off,none⟩∧w.cell? ⟨b,off+i,none⟩=some (.string ss[i]):=by
 obtain⟨a',cap',hv,_,_,h3⟩:=h;simp only[Value.slice.injEq] at hv;obtain⟨rfl,_,_⟩:=hv;rcases h3 with rfl | ⟨b,off,ha,hc⟩
 ·simp at hi
 ·exact⟨b,off,ha,hc i hi⟩
theorem zjf(d:ByteArray)(ts:List ByteArray)(m:Nat)(T:Tre)(n:Nat)(w:World)(hd:d.size≤20000)(hR:RecsP d.data.toList ts m)(hE:RepEnd ts T n) :
 Calls Tryz.prog 33 #[.string d] w fun e w'=>zgQ w T n e w':=by
 have HR:Hid (RecsP d.data.toList ts m):=hR;have HE:Hid (RepEnd ts T n):=hE;have HD:Hid (d.size≤20000):=hd;clear hR hE hd;obtain⟨b2,hb2⟩:∃ b,b=w.heap.size:=⟨_,rfl⟩;obtain⟨V0,hV0⟩:∃ V,V=w.alloc (.cells #[.slice none 0 0,.slice none 0 0,.slice none 0 0,.int .i64 0,.slice none 0 0] 34):=⟨_,rfl⟩;have s0:V0.heap.size=b2+1:=by rw[hV0,hb2];simp
 obtain⟨W0,hW0⟩:∃ V,V=V0.alloc (.cells #[.slice none 0 0,.slice none 0 0,.slice none 0 0,.int .i64 0,.slice none 0 0] 34):=⟨_,rfl⟩;have s1:W0.heap.size=b2+2:=by rw[hW0];simp[s0]
 have r0:BoxTr V0 b2 (.slice none 0 0) (.slice none 0 0) (.slice none 0 0) 0 (.slice none 0 0):=by rw[hV0,hb2];exact zaF w _ _ _ _ _
 have r1:BoxTr W0 (b2+1) (.slice none 0 0) (.slice none 0 0) (.slice none 0 0) 0 (.slice none 0 0):=by rw[hW0,← s0];exact zaF V0 _ _ _ _ _
 have bv:Below V0.heap.size V0 W0:=by rw[hW0];exact za V0 _
 have bw:Below w.heap.size w W0:=by
  have:Below w.heap.size w V0:=by rw[hV0];exact za w _
  exact this.trans (bv.mono this.size)
 have HW:Hid ((w.alloc (.cells #[.slice none 0 0,.slice none 0 0,.slice none 0 0,.int .i64 0,.slice none 0 0] 34)).alloc (.cells #[.slice none 0 0,.slice none 0 0,.slice none 0 0,.int .i64 0,.slice none 0 0] 34)=W0):=by unfold Hid;rw[hW0,hV0]
 have HB2:Hid (b2=w.heap.size):=hb2;have HB:Hid (w.heap.size=b2):=hb2.symm;have Q0:KB W0 (b2+1) w.heap.size ⟨.slice none 0 0,.slice none 0 0,.slice none 0 0,.slice none 0 0,[],[],[],0,[]⟩:=⟨r1,zk2 _ _,zeZ⟩;have r2:=r0.on bv;clear r0 r1 bv hV0 hW0 s0 hb2;go_enter Tryz.func33,Tryz.ntmps33
 go_wp2_with fail
 rw[HW.out,HB.out];clear HW;refine(zgJ d ts m _ (Nat.le_trans HD.out (by decide)) HR.out).mono ?_;rintro e w1 ⟨u,rfl,ou,b⟩;obtain⟨au,cu,rfl,hcu,hmu,-⟩:=ou.rd;have Q:LR w w1 b2 (b2+1) (.slice au ts.length cu) ts ⟨.slice none 0 0,.slice none 0 0,.slice none 0 0,.slice none 0 0,[],[],[],0,[]⟩:=⟨Q0.below b,r2.on b,by rw[s1] at ou;exact ou,bw.trans (b.mono bw.size)⟩;clear Q0 r2 ou b s1 bw;unfold maxLen at hmu;have htl:ts.length≤1000000:=by
  obtain⟨_,h2,h3,_⟩:=HR.out;have h4:=zmZ HR.out;have h5:=HD.out;rw[ze] at h2;omega
 go_wp2_with fail
 go_loopw [5,8] (fun aa ii W=>∃ (k q:Nat) (X:TrX),k≤ts.length∧ii=.int .i64 k∧aa=.int .i64 q∧q≤20000∧Hid (repK ts k=some (X.tre,q))∧Hid (LR w W b2 (b2+1) (.slice au ts.length cu) ts X)) (fun _ ii _=>ts.length-(intOf ii).toNat)
 case atStart=>exact⟨0,0,⟨.slice none 0 0,.slice none 0 0,.slice none 0 0,.slice none 0 0,[],[],[],0,[]⟩,Nat.zero_le _,rfl,rfl,by omega,rfl,Q⟩
 case round =>
  obtain⟨k,q,X,hk,rfl,rfl,hq,HP,HQ⟩:=hrel;clear Q;have Q:=HQ.out;clear HQ;by_cases hlt:k<ts.length
  ·obtain⟨gt,ot,rfl,hc⟩:=ziP Q.tx.rd k hlt;have hkc:k<cu:=by omega
   have HT:Hid (ts[k].size≤1048576):=Nat.le_trans (HR.out.1 _ (List.getElem_mem hlt)) (by decide);have HBD:Hid (q+(recS ts[k]).size≤20000):=by
    have h1:=zqT HR.out HP.out hlt;have h2:=HD.out;rw[ze] at h1;unfold Hid;omega
   have HST:Hid (repK ts (k+1)=if (rdB ts[k]).2=true then (match addT X.tre (rdB ts[k]).1 with | some T'=>some (T',q+(recS ts[k]).size) | none=>none) else none):=by
    unfold Hid;rw[zdB HP.out hlt];by_cases hc:(rdB ts[k]).2=true
    ·rw[if_pos ⟨hc,HBD.out⟩,if_pos hc];cases addT X.tre (rdB ts[k]).1<;>rfl
    ·rw[if_neg (fun c=>hc c.1),if_neg hc]
   obtain⟨tk,htk⟩:∃ t,t=ts[k]:=⟨_,rfl⟩;rw[← htk] at hc HT HBD HST;have HTK:Hid (ts[k]=tk):=htk.symm;clear htk;go_wp2_with fail
   refine(zfC tk (rdB tk) _ HT.out (zi5 tk)).mono ?_;rintro e w2 ⟨ub,rfl,ob,b⟩;replace Q:=Q.on b;clear b hc;obtain⟨ab,cb,rfl,-⟩:=ob.rd;cases hrb:(rdB tk).2 with
   | false =>
    have HN:Hid (repK ts (k+1)=none):=by unfold Hid;rw[HST.out,if_neg (by rw[hrb];simp)]
    clear HST hrb ob;obtain⟨am,ay,ao,an,mn,yn,on,nn,cm,cy,co,cn,v0,v1,v2,v3⟩:=(Q.kb.rows.rd).slices;obtain⟨vm4,vy4,vo4,vs4,mem4,ys4,os4,seq4,snaps4⟩:=X;simp only at v0 v1 v2 v3;subst v0;subst v1;subst v2;subst v3;obtain⟨eT,eN⟩:=zbC HE.out hk HP.out (.inr HN.out);have END:Hid (zgQ w T n (.returned (.tuple #[.agg #[.slice am mn cm,.slice ay yn cy,.slice ao on co,.int .i64 seq4,.slice an nn cn],.int .i64 (q:Int)])) (put5 w2 b2 (.slice am mn cm) (.slice ay yn cy) (.slice ao on co) (.int .i64 seq4) (.slice an nn cn))):=by
     rw[eN];exact Q.fin eT.symm HB2.out
    obtain⟨y0,y1,y2,y3,y4,-⟩:=Q.kb.box.facts;simp only at y0 y1 y2 y3 y4;obtain⟨m0,m1,m2,m3,m4,n0,n1,n2,n3,n4⟩:=Q.res.facts;have hzF:=zH Q.res (.slice am mn cm) (.slice ay yn cy) (.slice ao on co) (.slice an nn cn) seq4;obtain⟨f0,f1,f2,f3,f4,-⟩:=hzF.facts;unfold put5 at f0 f1 f2 f3 f4 END;clear Q hzF eT eN HP HE HR HD HB HB2;go_wp2;exact bodyPost_ret (v:=.tuple #[.agg #[.slice am mn cm,.slice ay yn cy,.slice ao on co,.int .i64 seq4,.slice an nn cn],.int .i64 (q:Int)]) (by simp[results,Tryz.results33,go_sem,f0,f1,f2,f3,f4]) rfl END.out
   | true =>
    obtain⟨xs,hxs⟩:∃ xs,xs=(rdB tk).1:=⟨_,rfl⟩;have HF:Hid (∀ x∈xs,FitsW x):=by unfold Hid;rw[hxs];exact(zoz hrb).2.2.2
    have HS2:Hid (repK ts (k+1)=match addT X.tre xs with | some T'=>some (T',q+(recS tk).size) | none=>none):=by unfold Hid;rw[HST.out,if_pos hrb,hxs]
    rw[← hxs] at ob ⊢;clear HST hrb hxs;obtain⟨am,ay,ao,an,mn,yn,on,nn,cm,cy,co,cn,v0,v1,v2,v3⟩:=(Q.kb.rows.rd).slices;obtain⟨vm4,vy4,vo4,vs4,mem4,ys4,os4,seq4,snaps4⟩:=X;simp only at v0 v1 v2 v3;subst v0;subst v1;subst v2;subst v3;have HC:Hid (SizTr ⟨.slice am mn cm,.slice ay yn cy,.slice ao on co,.slice an nn cn,mem4,ys4,os4,seq4,snaps4⟩):=(zdA Q.kb.tree Q.kb.rows).siz;obtain⟨y0,y1,y2,y3,y4,-⟩:=Q.kb.box.facts;simp only at y0 y1 y2 y3 y4;go_wp2_with fail
    clear y0 y1 y2 y3 y4;refine(znY ⟨.slice am mn cm,.slice ay yn cy,.slice ao on co,.slice an nn cn,mem4,ys4,os4,seq4,snaps4⟩ _ Q.kb.rows.rd HC.out).mono ?_;rintro e w3 ⟨Y,rfl,hYt,oY,b⟩;have hY:RowsTr w3 w.heap.size Y:=oY.rows.mono Q.bw.size;replace Q:=Q.on b;replace ob:=ob.below b;clear b oY HC;have hYP:TreeP Y.tre:=by rw[hYt];exact Q.kb.tree
    obtain⟨am2,ay2,ao2,an2,mn2,yn2,on2,nn2,cm2,cy2,co2,cn2,v0,v1,v2,v3⟩:=hY.rd.slices;obtain⟨vm5,vy5,vo5,vs5,mem5,ys5,os5,seq5,snaps5⟩:=Y;simp only at v0 v1 v2 v3;subst v0;subst v1;subst v2;subst v3;obtain⟨b11,hb11⟩:∃ b,b=w3.heap.size:=⟨_,rfl⟩;obtain⟨W3,hW3⟩:∃ W,W=w3.alloc (.cells #[.slice am2 mn2 cm2,.slice ay2 yn2 cy2,.slice ao2 on2 co2,.int .i64 seq5,.slice an2 nn2 cn2] 34):=⟨_,rfl⟩;have b3:Below w3.heap.size w3 W3:=by rw[hW3];exact za w3 _
    have K3:KB W3 b11 w.heap.size ⟨.slice am2 mn2 cm2,.slice ay2 yn2 cy2,.slice ao2 on2 co2,.slice an2 nn2 cn2,mem5,ys5,os5,seq5,snaps5⟩:=⟨by rw[hW3,hb11];exact zaF w3 _ _ _ _ _,hY.below b3,hYP⟩;have HW3:Hid (w3.alloc (.cells #[.slice am2 mn2 cm2,.slice ay2 yn2 cy2,.slice ao2 on2 co2,.int .i64 seq5,.slice an2 nn2 cn2] 34)=W3):=hW3.symm;have HB3:Hid (w3.heap.size=b11):=hb11.symm;have HWB:Hid (∀ W,Touch [b11] W3 W→RdW W (.slice ab xs.length cb) xs):=fun W ht=>(ob.below (ht.below b3 (fun k hk=>by rw[List.mem_singleton.1 hk,hb11];exact Nat.le_refl _))).rd
    have HLO:Hid (w.heap.size≤W3.heap.size):=Nat.le_trans Q.bw.size b3.size;have HBT:Hid (∀ W,Touch [b11] W3 W→Below w3.heap.size w3 W):=fun W ht=>ht.below b3 (fun k hk=>by rw[List.mem_singleton.1 hk,hb11];exact Nat.le_refl _)
    clear hb11 hW3 b3 hY hYP ob;go_wp2_with fail
    rw[HW3.out,HB3.out];clear HW3 HB3;refine(zog _ b11 w.heap.size _ _ xs K3 HLO.out HWB.out HF.out).mono ?_;rintro e w4 ⟨rfl,Y2,K4,hY2,ht⟩;replace Q:=Q.on (HBT.out _ ht);rw[hYt] at hY2 ⊢;clear K3 HWB HLO HBT ht hYt HF;cases ha:addT (TrX.tre ⟨.slice am mn cm,.slice ay yn cy,.slice ao on co,.slice an nn cn,mem4,ys4,os4,seq4,snaps4⟩) xs with
    | none =>
     have HN:Hid (repK ts (k+1)=none):=by unfold Hid;rw[HS2.out,ha]
     clear HS2 hY2 K4 ha;obtain⟨eT,eN⟩:=zbC HE.out hk HP.out (.inr HN.out);have END:Hid (zgQ w T n (.returned (.tuple #[.agg #[.slice am mn cm,.slice ay yn cy,.slice ao on co,.int .i64 seq4,.slice an nn cn],.int .i64 (q:Int)])) (put5 w4 b2 (.slice am mn cm) (.slice ay yn cy) (.slice ao on co) (.int .i64 seq4) (.slice an nn cn))):=by
      rw[eN];exact Q.fin eT.symm HB2.out
     obtain⟨y0,y1,y2,y3,y4,-⟩:=Q.kb.box.facts;simp only at y0 y1 y2 y3 y4;obtain⟨m0,m1,m2,m3,m4,n0,n1,n2,n3,n4⟩:=Q.res.facts;have hzF:=zH Q.res (.slice am mn cm) (.slice ay yn cy) (.slice ao on co) (.slice an nn cn) seq4;obtain⟨f0,f1,f2,f3,f4,-⟩:=hzF.facts;unfold put5 at f0 f1 f2 f3 f4 END;clear Q hzF eT eN HP HE HR HD HB HB2;go_wp2;exact bodyPost_ret (v:=.tuple #[.agg #[.slice am mn cm,.slice ay yn cy,.slice ao on co,.int .i64 seq4,.slice an nn cn],.int .i64 (q:Int)]) (by simp[results,Tryz.results33,go_sem,f0,f1,f2,f3,f4]) rfl END.out
    | some T2 =>
     have HN:Hid (repK ts (k+1)=some (T2,q+(recS tk).size)):=by unfold Hid;rw[HS2.out,ha]
     have hT2:=hY2 T2 ha;clear HS2 hY2 ha HP;obtain⟨am3,ay3,ao3,an3,mn3,yn3,on3,nn3,cm3,cy3,co3,cn3,v0,v1,v2,v3⟩:=K4.rows.rd.slices;obtain⟨vm6,vy6,vo6,vs6,mem6,ys6,os6,seq6,snaps6⟩:=Y2;simp only at v0 v1 v2 v3;subst v0;subst v1;subst v2;subst v3;have Q2:=Q.put K4.rows K4.tree (by omega) (by have:=HB2.out;omega);obtain⟨y0,y1,y2,y3,y4,-⟩:=K4.box.facts;simp only at y0 y1 y2 y3 y4;obtain⟨z0,z1,z2,z3,z4,n0,n1,n2,n3,n4⟩:=Q.kb.box.facts;simp only at z0 z1 z2 z3 z4 n0 n1 n2 n3 n4;obtain⟨gt2,ot2,hg2,hc⟩:=ziP Q2.tx.rd k hlt;injection hg2 with hg3
     injection hg3 with hg4 hg5
     subst hg4;subst hg5;have htk2:ts[k]=tk:=HTK.out;rw[htk2] at hc;have HB6:Hid (put5 w4 (b2+1) (.slice am3 mn3 cm3) (.slice ay3 yn3 cy3) (.slice ao3 on3 co3) (.int .i64 seq6) (.slice an3 nn3 cn3)=put5 w4 (b2+1) (.slice am3 mn3 cm3) (.slice ay3 yn3 cy3) (.slice ao3 on3 co3) (.int .i64 seq6) (.slice an3 nn3 cn3)):=rfl;unfold put5 at Q2 hc;clear Q K4 htk2 HB6;go_wp2_with fail
     clear y0 y1 y2 y3 y4 z0 z1 z2 z3 z4 n0 n1 n2 n3 n4 hc;refine(zch tk _ (Nat.le_trans HT.out (by decide))).mono ?_;rintro e w5 ⟨rfl,b⟩;have hbd:=HBD.out;have Q3:=Q2.on b;have HN2:Hid (repK ts (k+1)=some (T2,q+(recS tk).size)):=HN.out;generalize recS tk=R at hbd HN2 ⊢;clear Q2 b HN HBD;go_wp2;go_roundw
     case rel=>exact⟨k+1,q+R.size,_,by omega,by go_num,by go_num,by omega,by rw[hT2];exact HN2,Q3⟩
     case measure=>simp[intOf];omega
  ·have hke:k=ts.length:=by omega
   obtain⟨am,ay,ao,an,mn,yn,on,nn,cm,cy,co,cn,v0,v1,v2,v3⟩:=(Q.kb.rows.rd).slices;obtain⟨vm4,vy4,vo4,vs4,mem4,ys4,os4,seq4,snaps4⟩:=X;simp only at v0 v1 v2 v3;subst v0;subst v1;subst v2;subst v3;obtain⟨eT,eN⟩:=zbC HE.out hk HP.out (.inl hke);have END:Hid (zgQ w T n (.returned (.tuple #[.agg #[.slice am mn cm,.slice ay yn cy,.slice ao on co,.int .i64 seq4,.slice an nn cn],.int .i64 (q:Int)])) (put5 wr b2 (.slice am mn cm) (.slice ay yn cy) (.slice ao on co) (.int .i64 seq4) (.slice an nn cn))):=by
    rw[eN];exact Q.fin eT.symm HB2.out
   obtain⟨y0,y1,y2,y3,y4,-⟩:=Q.kb.box.facts;simp only at y0 y1 y2 y3 y4;obtain⟨m0,m1,m2,m3,m4,n0,n1,n2,n3,n4⟩:=Q.res.facts;have hzF:=zH Q.res (.slice am mn cm) (.slice ay yn cy) (.slice ao on co) (.slice an nn cn) seq4;obtain⟨f0,f1,f2,f3,f4,-⟩:=hzF.facts;unfold put5 at f0 f1 f2 f3 f4 END;clear Q hzF eT eN HP HE HR HD HB HB2;go_wp2;exact bodyPost_ret (v:=.tuple #[.agg #[.slice am mn cm,.slice ay yn cy,.slice ao on co,.int .i64 seq4,.slice an nn cn],.int .i64 (q:Int)]) (by simp[results,Tryz.results33,go_sem,f0,f1,f2,f3,f4]) rfl END.out
end Go.Proofs.YtannfbpohhnnkaaGreatDoor
