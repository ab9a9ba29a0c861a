/- Whatever text it is called with, laws.FnExactOpened returns true and its argument reads as before: both Openeds answer the same keep, the program's in memory of its own, behind another call too. Condition: the three listed tables of the Go library and the program's own error hold what its text lays there (tied by the card). -/
import Derived.Test.YtannfbpohhnnkaaGreatDoorCards
import Derived.Test.YtannfbpohhnnkaaGreatDoorTie
import Derived.Test.YtannfbpohhnnkaaGreatDoorG47
import Derived.ProofKit
import Derived.OpenShut
import Derived.ShutString
import Derived.ChangeOld
import Derived.LaidMore
import Derived.SevenTiedAt
import Derived.Stop.Joined
import Derived.Stop.LaidErr
namespace Go.Proofs.YtannfbpohhnnkaaGreatDoor
set_option maxHeartbeats 16000000
set_option maxRecDepth 100000
open Go.ChangeShapes Go.WideShapes Go.ChangeAt Go.RowKit
open Go.ChangeMaps (open_string shut_string)
theorem zig{bs:List Nat}{w w':World}{b:Nat}{t:TypeId}{u0 u1 u2 u3 u4 u5 u6:Value}(h:Row7 w b t u0 u1 u2 u3 u4 u5 u6)(ht:Touch bs w w')(hn:b ∉ bs):Row7 w' b t u0 u1 u2 u3 u4 u5 u6:=(ht.block b h.lt hn).trans h
theorem zq6(d:ByteArray)(w1:d.size≤maxLen)(te:TypeId)(pe:Value)(w:World)(hg:GErr w te pe)(hT:Tab w) :
 Calls Tryz.prog 4 #[.string d] w fun e w'=>e=.returned (.bool true)∧Below w.heap.size w w':=by
 unfold maxLen at w1;by_cases hbig:1048576<d.size
 ·go_enter Tryz.func4,Tryz.ntmps4
  go_wp2;go_ret;exact⟨rfl,Below.refl _ _⟩
 have hle:d.size≤1048576:=by omega
 obtain⟨T,L,S,HP,HS,HI⟩:∃ (T:Tre) (L:ByteArray) (S:Int),Hid (TreeP T)∧Hid (∀ W,Calls Tryz.prog 14 #[.string d] W fun e w'=>zfb W T L S e w')∧Hid (∀ W,Below w.heap.size w W→Calls Tryz.prog 15 #[.string d] W fun e w'=>KeepPost W T L S e w'):=by
  by_cases h2:20000<d.size
  ·exact⟨zey,⟨#[]⟩,0,zeZ,fun W=>(zhT d W h2 hle).mono (fun _ _ h=>h.s),fun W _=>zhX d W h2 hle⟩
  ·obtain⟨ts,m,hts⟩:=zoV d.data.toList.length d.data.toList (Nat.le_refl _);obtain⟨T,n,hE⟩:=zpH ts;have hn:n≤d.size:=by
    obtain⟨k,hk,e,_⟩:=id hE;have:=(zdV hts e hk).2;rwa [ze] at this
   exact⟨T,d.extract 0 n,(n:Int),hE.tree,fun W=>zhV d ts m T n W (by omega) hts hE hn,fun W hb=>zhU d ts m T n te pe W (by omega) hts hE hn (hg.on hb) (hT.on hb)⟩
 clear w1 hg hT;go_enter Tryz.func4,Tryz.ntmps4
 go_wp2_with fail
 refine(HS.out _).mono ?_;rintro e w1 ⟨Z,rfl,hZt,oZ,bw⟩;have hZr:=oZ.rd;obtain⟨am1,ay1,ao1,an1,mn1,yn1,on1,nn1,cm1,cy1,co1,cn1,v0,v1,v2,v3⟩:=RdTr.slices hZr;obtain⟨vm0,vy0,vo0,vs0,mem1,ys1,os1,seq1,snaps1⟩:=Z;simp only at v0 v1 v2 v3;subst v0;subst v1;subst v2;subst v3;have HZT:Hid (TrX.tre ⟨.slice am1 mn1 cm1,.slice ay1 yn1 cy1,.slice ao1 on1 co1,.slice an1 nn1 cn1,mem1,ys1,os1,seq1,snaps1⟩=T):=hZt;obtain⟨b3,hb3⟩:∃ b,b=w1.heap.size:=⟨_,rfl⟩;obtain⟨W1,hW1⟩:∃ W,W=w1.alloc (.cells #[.string L,.int .i64 S,.slice am1 mn1 cm1,.slice ay1 yn1 cy1,.slice ao1 on1 co1,.int .i64 seq1,.slice an1 nn1 cn1] 36):=⟨_,rfl⟩;have z3:Row7 W1 b3 36 (.string L) (.int .i64 S) (.slice am1 mn1 cm1) (.slice ay1 yn1 cy1) (.slice ao1 on1 co1) (.int .i64 seq1) (.slice an1 nn1 cn1):=by rw[hW1,hb3];exact zaz w1 _ _ _ _ _ _ _ _
 have bb:Below w1.heap.size w1 W1:=by rw[hW1];exact za w1 _
 have HB:Hid (w1.heap.size=b3):=hb3.symm;have HWW:Hid (w1.alloc (.cells #[.string L,.int .i64 S,.slice am1 mn1 cm1,.slice ay1 yn1 cy1,.slice ao1 on1 co1,.int .i64 seq1,.slice an1 nn1 cn1] 36)=W1):=hW1.symm;have LZ:Hid (∀ k∈trB ⟨.slice am1 mn1 cm1,.slice ay1 yn1 cy1,.slice ao1 on1 co1,.slice an1 nn1 cn1,mem1,ys1,os1,seq1,snaps1⟩,k<W1.heap.size):=fun k hk=>Nat.lt_of_lt_of_le (oZ.bound hk).2 bb.size
 have oZ1:=oZ.below bb;replace bw:=bw.trans (bb.mono bw.size);clear hb3 hW1 bb oZ hZr hZt;go_wp2_with fail
 rw[HWW.out,HB.out];clear HWW HB;have hb3:=z3.lt;have hwW:w.heap.size≤W1.heap.size:=bw.size;refine(HI.out _ bw).mono ?_;rintro e w2 ⟨G,rfl,hGt,oG,b⟩;have LG:Hid (∀ k∈trB G,W1.heap.size≤k∧k<w2.heap.size):=fun k hk=>oG.bound hk
 have z4:=z3.on b;have oZ2:=oZ1.below b;replace bw:=bw.trans (b.mono bw.size);have s2:=b.size;have rmG:Room 1 G:=zoC (by rw[hGt];exact HP.out);clear z3 oZ1 b;have hGr:=oG.rd;obtain⟨am2,ay2,ao2,an2,mn2,yn2,on2,nn2,cm2,cy2,co2,cn2,v0,v1,v2,v3⟩:=RdTr.slices hGr;obtain⟨vm0,vy0,vo0,vs0,mem2,ys2,os2,seq2,snaps2⟩:=G;simp only at v0 v1 v2 v3;subst v0;subst v1;subst v2;subst v3;have HGT:Hid (TrX.tre ⟨.slice am2 mn2 cm2,.slice ay2 yn2 cy2,.slice ao2 on2 co2,.slice an2 nn2 cn2,mem2,ys2,os2,seq2,snaps2⟩=T):=hGt;have HRM:Hid (Room 1 ⟨.slice am2 mn2 cm2,.slice ay2 yn2 cy2,.slice ao2 on2 co2,.slice an2 nn2 cn2,mem2,ys2,os2,seq2,snaps2⟩):=rmG;obtain⟨b4,hb4⟩:∃ b,b=w2.heap.size:=⟨_,rfl⟩;obtain⟨W2,hW2⟩:∃ W,W=w2.alloc (.cells #[.string L,.int .i64 S,.slice am2 mn2 cm2,.slice ay2 yn2 cy2,.slice ao2 on2 co2,.int .i64 seq2,.slice an2 nn2 cn2] 36):=⟨_,rfl⟩;have g4:Row7 W2 b4 36 (.string L) (.int .i64 S) (.slice am2 mn2 cm2) (.slice ay2 yn2 cy2) (.slice ao2 on2 co2) (.int .i64 seq2) (.slice an2 nn2 cn2):=by rw[hW2,hb4];exact zaz w2 _ _ _ _ _ _ _ _
 have bb:Below w2.heap.size w2 W2:=by rw[hW2];exact za w2 _
 have HB:Hid (w2.heap.size=b4):=hb4.symm;have HWW:Hid (w2.alloc (.cells #[.string L,.int .i64 S,.slice am2 mn2 cm2,.slice ay2 yn2 cy2,.slice ao2 on2 co2,.int .i64 seq2,.slice an2 nn2 cn2] 36)=W2):=hW2.symm;have z5:=z4.on bb;have oZ3:=oZ2.below bb;have oG3:=oG.below bb;replace bw:=bw.trans (bb.mono bw.size);have LG4:Hid (∀ k∈trB ⟨.slice am2 mn2 cm2,.slice ay2 yn2 cy2,.slice ao2 on2 co2,.slice an2 nn2 cn2,mem2,ys2,os2,seq2,snaps2⟩,W1.heap.size≤k∧k<b4):=fun k hk=>⟨(LG.out k hk).1,by rw[hb4];exact(LG.out k hk).2⟩
 obtain⟨p0,p1,p2,p3,p4,p5,p6⟩:=z5.cells;obtain⟨r0,r1,r2,r3,r4,r5,r6⟩:=g4.cells;rw[← HWW.out] at p0 p1 p2 p3 p4 p5 p6;rw[← HWW.out,← HB.out] at r0 r1 r2 r3 r4 r5 r6;clear hb4 hW2 bb oG hGr hGt rmG z4 oZ2 LG;go_wp2_with fail
 rw[HWW.out,HB.out];clear HWW HB p0 p1 p2 p3 p4 p5 p6 r0 r1 r2 r3 r4 r5 r6;refine(zg1 L S ⟨.slice am2 mn2 cm2,.slice ay2 yn2 cy2,.slice ao2 on2 co2,.slice an2 nn2 cn2,mem2,ys2,os2,seq2,snaps2⟩ ⟨.slice am1 mn1 cm1,.slice ay1 yn1 cy1,.slice ao1 on1 co1,.slice an1 nn1 cn1,mem1,ys1,os1,seq1,snaps1⟩ _ oG3.rd oZ3.rd (HGT.out.trans HZT.out.symm)).mono ?_;rintro e w3 ⟨rfl,b⟩;replace z5:=z5.on b;replace g4:=g4.on b;replace oZ3:=oZ3.below b;replace oG3:=oG3.below b;replace bw:=bw.trans (b.mono bw.size);clear b;obtain⟨mm,hmm⟩:∃ mm,mm=1+cntTr ⟨.slice am2 mn2 cm2,.slice ay2 yn2 cy2,.slice ao2 on2 co2,.slice an2 nn2 cn2,mem2,ys2,os2,seq2,snaps2⟩:=⟨_,rfl⟩;have HMM:Hid (mm=1+cntTr ⟨.slice am2 mn2 cm2,.slice ay2 yn2 cy2,.slice ao2 on2 co2,.slice an2 nn2 cn2,mem2,ys2,os2,seq2,snaps2⟩):=hmm;clear hmm;obtain⟨r0,r1,r2,r3,r4,r5,r6⟩:=g4.cells;go_wp2_with fail
 clear r0 r1 r2 r3 r4 r5 r6;refine(zkM L S ⟨.slice am2 mn2 cm2,.slice ay2 yn2 cy2,.slice ao2 on2 co2,.slice an2 nn2 cn2,mem2,ys2,os2,seq2,snaps2⟩ _ 1 _ oG3 (by omega) HRM.out).mono ?_;rw[← HMM.out];rintro e w4 ⟨rfl,om,ht⟩;have hw1:=bw.size;have z6:=zig z5 ht (fun e=>by have:=(LG4.out _ e).1;omega);have g5:=zig g4 ht (fun e=>by have:=(LG4.out _ e).2;omega);have oZ4:RowsTr w4 _ ⟨.slice am1 mn1 cm1,.slice ay1 yn1 cy1,.slice ao1 on1 co1,.slice an1 nn1 cn1,mem1,ys1,os1,seq1,snaps1⟩:=oZ3.touch ht (fun k hk e=>by have:=LZ.out k hk;have:=(LG4.out k e).1;omega);have bw4:Below w.heap.size w w4:=ht.below bw (fun k hk=>by have:=(LG4.out k hk).1;omega);have hm0:¬ ((mm:Int)<0):=by omega
 have hm1:((mm:Int) != (mm:Int))=false:=by simp
 clear z5 g4 oZ3 oG3 bw ht;obtain⟨r0,r1,r2,r3,r4,r5,r6⟩:=g5.cells;go_wp2_with fail
 clear r0 r1 r2 r3 r4 r5 r6;refine(zfQ L S ⟨.slice am2 mn2 cm2,.slice ay2 yn2 cy2,.slice ao2 on2 co2,.slice an2 nn2 cn2,mem2,ys2,os2,seq2,snaps2⟩ 1 _ (by omega) HRM.out om.rd).mono ?_;rw[← HMM.out];rintro e w5 ⟨rfl,b⟩;replace z6:=z6.on b;replace g5:=g5.on b;replace oZ4:=oZ4.below b;replace om:=om.below b;replace bw4:=bw4.trans (b.mono bw4.size);clear b;go_wp2_with fail
 refine(HI.out _ bw4).mono ?_;rintro e w6 ⟨H,rfl,hHt,oH,b⟩;replace z6:=z6.on b;replace g5:=g5.on b;replace oZ4:=oZ4.below b;replace om:=om.below b;replace bw4:=bw4.trans (b.mono bw4.size);clear b;have hHr:=oH.rd;clear oH;obtain⟨am3,ay3,ao3,an3,mn3,yn3,on3,nn3,cm3,cy3,co3,cn3,v0,v1,v2,v3⟩:=RdTr.slices hHr;obtain⟨vm0,vy0,vo0,vs0,mem3,ys3,os3,seq3,snaps3⟩:=H;simp only at v0 v1 v2 v3;subst v0;subst v1;subst v2;subst v3;have HHT:Hid (TrX.tre ⟨.slice am3 mn3 cm3,.slice ay3 yn3 cy3,.slice ao3 on3 co3,.slice an3 nn3 cn3,mem3,ys3,os3,seq3,snaps3⟩=T):=hHt;obtain⟨b7,hb7⟩:∃ b,b=w6.heap.size:=⟨_,rfl⟩;obtain⟨W6,hW6⟩:∃ W,W=w6.alloc (.cells #[.string L,.int .i64 S,.slice am3 mn3 cm3,.slice ay3 yn3 cy3,.slice ao3 on3 co3,.int .i64 seq3,.slice an3 nn3 cn3] 36):=⟨_,rfl⟩;have h7:Row7 W6 b7 36 (.string L) (.int .i64 S) (.slice am3 mn3 cm3) (.slice ay3 yn3 cy3) (.slice ao3 on3 co3) (.int .i64 seq3) (.slice an3 nn3 cn3):=by rw[hW6,hb7];exact zaz w6 _ _ _ _ _ _ _ _
 have bb:Below w6.heap.size w6 W6:=by rw[hW6];exact za w6 _
 have HB:Hid (w6.heap.size=b7):=hb7.symm;have HWW:Hid (w6.alloc (.cells #[.string L,.int .i64 S,.slice am3 mn3 cm3,.slice ay3 yn3 cy3,.slice ao3 on3 co3,.int .i64 seq3,.slice an3 nn3 cn3] 36)=W6):=hW6.symm;replace z6:=z6.on bb;replace g5:=g5.on bb;replace oZ4:=oZ4.below bb;replace om:=om.below bb;replace bw4:=bw4.trans (bb.mono bw4.size);replace hHr:=hHr.below bb;obtain⟨p0,p1,p2,p3,p4,p5,p6⟩:=z6.cells;obtain⟨r0,r1,r2,r3,r4,r5,r6⟩:=h7.cells;rw[← HWW.out] at p0 p1 p2 p3 p4 p5 p6;rw[← HWW.out,← HB.out] at r0 r1 r2 r3 r4 r5 r6;clear hb7 hW6 bb hHt;go_wp2_with fail
 rw[HWW.out,HB.out];clear HWW HB p0 p1 p2 p3 p4 p5 p6 r0 r1 r2 r3 r4 r5 r6;refine(zg1 L S ⟨.slice am3 mn3 cm3,.slice ay3 yn3 cy3,.slice ao3 on3 co3,.slice an3 nn3 cn3,mem3,ys3,os3,seq3,snaps3⟩ ⟨.slice am1 mn1 cm1,.slice ay1 yn1 cy1,.slice ao1 on1 co1,.slice an1 nn1 cn1,mem1,ys1,os1,seq1,snaps1⟩ _ hHr oZ4.rd (HHT.out.trans HZT.out.symm)).mono ?_;rintro e w7 ⟨rfl,b⟩;replace g5:=g5.on b;replace om:=om.below b;replace bw4:=bw4.trans (b.mono bw4.size);clear b z6 oZ4 hHr;obtain⟨r0,r1,r2,r3,r4,r5,r6⟩:=g5.cells;go_wp2_with fail
 clear r0 r1 r2 r3 r4 r5 r6;refine(zfQ L S ⟨.slice am2 mn2 cm2,.slice ay2 yn2 cy2,.slice ao2 on2 co2,.slice an2 nn2 cn2,mem2,ys2,os2,seq2,snaps2⟩ 1 _ (by omega) HRM.out om.rd).mono ?_;rw[← HMM.out];rintro e w8 ⟨rfl,b⟩;have bz:=bw4.trans (b.mono bw4.size);clear b g5 om bw4;go_wp2;go_ret;exact⟨rfl,bz⟩
theorem zpd{P:Program}{W W':World}{n:String}{cs:Array Value}(h:W.var? P n=some cs)(hb:Below W.heap.size W W'):W'.var? P n=some cs:=by
 unfold World.var? at h ⊢;cases hg:P.globalNamed n with
 | none=>simp[hg] at h
 | some g =>
  simp only[hg,Option.bind_some] at h ⊢;have hlt:g<W.heap.size:=by
   rcases Nat.lt_or_ge g W.heap.size with h' | h'
   ·exact h'
   ·simp[Array.getElem?_eq_none h'] at h
  rw[hb.block g hlt];exact h
theorem zqd:Tryz.prog.globalNamed "loop.example/g00217/impl.errNoRoom" = some 0:=by kernel_rfl
theorem tRoomE:(Tryz.prog.globals[0]?).map (·.type)=some 155:=by kernel_rfl
theorem starE : "*"++"errors.errorString" = "*errors.errorString":=by decide
theorem rowE(u:TypeId)(h:Tryz.prog.typeName? 3 u=some "*errors.errorString"):u=290 :=
 typeName_ptr_named (nm:="errors.errorString") (by rw[starE];kernel_rfl) (by kernel_rfl) (by decide) u (by rw[starE];exact h)
theorem cellsE:Tryz.prog.cellsOf 305=1:=by kernel_rfl
theorem cellsStr:Tryz.prog.cellsOf 9=1:=by kernel_rfl
theorem zk4{W:World}(h:laidMetH Tryz.prog Rows.fnExactOpenedRow.laid W):∃ a,Tab W∧GErr W 290 (.pointer (some a))∧W.var? Tryz.prog "loop.example/g00217/impl.errNoRoom" = some #[.iface 290 (.pointer (some a))]:=by
 rw[MakeChecks.laidMetH_plain _ _ _ (by kernel_rfl)] at h;have h2:=h.tail.tail;obtain⟨aN,sN,vN,_,_,_⟩:=laid_sentinel h2.tail zqd tRoomE Tryz.underlying155 rowE Tryz.underlying290 Tryz.underlying305 rfl rfl Tryz.underlying9 cellsE cellsStr;refine⟨aN,?_,by unfold GErr;simpa using World.var?_cell zqd vN 0,vN⟩;rw[dPow] at h2;exact Lib.tabIs_of_head gPow tPow Tryz.underlying270 Tryz.underlying207 (by kernel_rfl) (by kernel_rfl) h2
theorem zfN:ownKnob Tryz.prog.godebug=none:=by kernel_rfl
theorem zeL(os:Os)(args:Array Value):laidMetH Tryz.prog Rows.fnExactOpenedRow.laid ((World.doorLaid Tryz.prog 400 os).forCall (fun _ _=>0) ⟨#[],args,[]⟩).memory :=
 laidMetH_of_parts3 (fuel:=8) (laidMet_of_run' 8 (by kernel_rfl) (by kernel_rfl)) (by kernel_rfl) (by kernel_rfl)
theorem zec(os:Os)(started:os.Started)(H:Type)(enc:TypeId×Value→H) :
 ReturnsInHanded {} Tryz.checked os 4 .any (fun w args=>(Rows.fnExactOpenedSpec.pre enc Tryz.prog Tryz.f4 [] false w args∧laidMetH Tryz.prog Rows.fnExactOpenedRow.laid w)∧sizedMet enc Tryz.prog Tryz.f4 (OpenSpec.ofChange Rows.fnExactOpenedSpec) false w args)
  (Rows.fnExactOpenedSpec.post enc Tryz.prog Tryz.f4 false true false false):=by
 refine returnsInHanded_of_change_and (C:=Tryz.checked) (X:=fun w _=>laidMetH Tryz.prog Rows.fnExactOpenedRow.laid w) (fun _ _ _ hh h=>h.of_heap hh) zfN started (by kernel_rfl) Tryz.func4
  (ChangeSpec.witness_shaped (enc:=enc) (C:=Tryz.checked) (os:=os) (X:=fun w _=>laidMetH Tryz.prog Rows.fnExactOpenedRow.laid w) false (World.doorLaid Tryz.prog 400 os) #[.string ByteArray.empty] 8 rfl (World.shaped_of_RefB (by kernel_rfl) (by kernel_rfl)) (by kernel_rfl) (by kernel_rfl) (by kernel_rfl) (zeL os _)) ?_
 intro W base args ds gs before hval0 hW _ _ hL _;have hval:∀ (j:Nat) t v,Tryz.f4.params[j]? = some t→args[j]? = some v→Value.okWide Tryz.prog W .any base t v:=hval0;have hW':=hW;obtain⟨p,q,hA0,hV0,rfl,hfz,hnd⟩:=hW;have hA:DataW.TrodAll enc Tryz.prog W 0 (fun _=>true) true Tryz.f4.params.toList args.toList ds p:=hA0;have hV:DataW.TrodVars enc Tryz.prog W (fun _=>true) ["loop.example/g00217/impl.errNoRoom"] gs q:=hV0;rw[Tryz.params4] at hA hval;obtain⟨v0,vs0,d0,ds0,p0,q0,hargs,rfl,rfl,h0,r0⟩:=trodAll_cons hA;obtain⟨rfl,rfl,rfl⟩:=trodAll_nil r0;obtain rfl:args = #[v0]:=by cases args;simp_all
 obtain⟨a0,rfl,rfl,rfl,w0⟩:=open_string Tryz.underlying9 (hval 0 9 v0 rfl rfl) h0;obtain⟨a,htab,henv,hvar⟩:=zk4 hL;have vr:∀ {X:World},X.var? Tryz.prog "loop.example/g00217/impl.errNoRoom" = some #[.iface 290 (.pointer (some a))]→∀ sp:Nat→Bool,
  DataW.TrodVars enc Tryz.prog X sp ["loop.example/g00217/impl.errNoRoom"] [tok enc (.iface 290 (.pointer (some a)))] [.cell 0 0] :=
  fun x0 sp=>vars_read1 enc zqd tRoomE Tryz.underlying155 x0 trivial sp
 obtain⟨rfl,rfl⟩:=hV.unique (vr hvar _);clear hA0 hV0 hval0;refine(zq6 a0 w0 290 (.pointer (some a)) W henv htab).mono fun e W' ⟨he,bel⟩=>?_
 subst he;exact⟨_,rfl,_,_,_,[],_,[.cell 0 0],hW',trodAll_mk1 (shut_bool Tryz.underlying4 _),(trodAll_cons_mk (shut_string Tryz.underlying9 w0) trodAll_mk0),vr (zpd hvar bel) _,bel.frame _,fun h=>by cases h⟩
theorem zeI:Rows.fnExactOpenedRow.holds Tryz.pinned (OpenSpec.ofChange Rows.fnExactOpenedSpec) :=
 OpenClaim.holds_of_wide 4 Tryz.f4 rfl rfl rfl rfl rfl rfl rfl ⟨rfl,rfl,rfl,rfl,rfl⟩ rfl rfl rfl rfl rfl (by kernel_rfl) Tryz.func4 (by kernel_rfl)
  (of_decide_eq_true (by kernel_rfl)) (by unfold Func.isWrapper;first | (rw[if_pos (by decide +kernel)];kernel_rfl) | (rw[if_neg (by decide +kernel)];exact⟨rfl,rfl⟩))
  (fun os started H enc _=>zec os started H enc)
theorem fnExactOpened_holds:Rows.FnExactOpenedCardSaid :=
 Claim7.holds_tied_plain_at .later [] [.data,.data,.data,.sentinel] true Rows.fnExactOpenedCard.stood.harness Rows.fnExactOpenedCard.stood.looks
  zeI (fun _ h=>by cases h) (by kernel_rfl) (fun _ h=>by cases h) fnExactOpened_row_tie rfl ⟨rfl,rfl⟩ (by kernel_rfl) rfl
  (fun f fn hf hfn=>by
   obtain rfl:f=4:=Option.some.inj ((show Tryz.prog.funcNamed "loop.example/g00217/laws.FnExactOpened" = some 4 by kernel_rfl).symm.trans hf) |>.symm
   obtain rfl:fn=Tryz.f4:=(Option.some.inj (Tryz.func4.symm.trans hfn)).symm;exact⟨by kernel_rfl,fun j t ht=>by
    rw[Tryz.params4] at ht;have hm:t∈[9]:=by simpa using Array.mem_of_getElem? ht
    have hall:([9].all fun u=>!Tryz.prog.wantsStandIn u)=true:=by kernel_rfl
    exact(show Tryz.prog.wantsStandIn t=false by simpa using List.all_eq_true.1 hall t hm)⟩)
  (by kernel_rfl)
#print axioms fnExactOpened_holds
end Go.Proofs.YtannfbpohhnnkaaGreatDoor
