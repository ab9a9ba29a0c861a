import Derived.Test.YtmlmlemiidedcaaGreatG45
import Derived.Maps.AppendAt
namespace Go.Proofs.YtmlmlemiidedcaaGreat
set_option maxHeartbeats 16000000
set_option maxRecDepth 100000
open Go.RowKit
def IWrotePost (w:World) (X:TrX) (xs:List Wri) (e:Ending) (w':World):Prop :=
 ∃ Y:TrX,e=.returned (.tuple #[.agg #[Y.vm,Y.vy,Y.vo,.int .i64 Y.seq,Y.vs],.bool (wroteO X.tre xs)])∧Y.tre=wroteR X.tre xs∧OwnTree w' w.heap.size Y∧Below w.heap.size w w'
theorem implWrote_any (X:TrX) (v:Value) (xs:List Wri) (w:World) (hx:RdTr w X) (hf:FitTr X) (hs:treeOk X.tre=true→CpTr X) (hw:RdW w v xs) (hfw:∀ x∈xs,FitsW x) :
 Calls Tryz.prog 8 #[.agg #[X.vm,X.vy,X.vo,.int .i64 X.seq,X.vs],v] w fun e w'=>IWrotePost w X xs e w':=by
 have HTK:Hid (∀ W,RdTr W X→Calls Tryz.prog 13 #[.agg #[X.vm,X.vy,X.vo,.int .i64 X.seq,X.vs]] W fun e w'=>e=.returned (.bool (treeOk X.tre))∧Below W.heap.size W w'):=fun W h=>implTreeOk_any X W h hf
 have HCP:Hid (treeOk X.tre=true→∀ W,RdTr W X→Calls Tryz.prog 38 #[.agg #[X.vm,X.vy,X.vo,.int .i64 X.seq,X.vs]] W fun e w'=>ToTr W X e w'):=fun ht W h=>copied_any X W h (hs ht)
 have HWB:Hid (treeOk X.tre=true→∀ W,RdTr W X→RdW W v xs→Calls Tryz.prog 37 #[.agg #[X.vm,X.vy,X.vo,.int .i64 X.seq,X.vs],v] W fun e w'=>BatchPost W X.tre xs e w'):=fun ht W h h2=>withBatch_any X v xs W h (hs ht) ((treeOk_iff X.tre).1 ht) h2 hfw
 clear hs hf
 have t0:=treAt_new w X 28
 obtain ⟨V0,hV0⟩:∃ V0,V0=w.alloc (.cells #[X.vm,X.vy,X.vo,.int .i64 X.seq,X.vs] 28):=⟨_,rfl⟩
 have b0:Below w.heap.size w V0:=by rw [hV0];exact below1 w _
 have s0:V0.heap.size=w.heap.size+1:=by rw [hV0];simp
 rw [← hV0] at t0
 have z1:=boxTr_new V0 (.slice none 0 0) (.slice none 0 0) (.slice none 0 0) (.slice none 0 0) 0
 obtain ⟨W0,hW0⟩:∃ W0,W0=V0.alloc (.cells #[.slice none 0 0,.slice none 0 0,.slice none 0 0,.int .i64 0,.slice none 0 0] 28):=⟨_,rfl⟩
 have b1:Below V0.heap.size V0 W0:=by rw [hW0];exact below1 V0 _
 have s1:W0.heap.size=w.heap.size+2:=by rw [hW0];simp;omega
 rw [← hW0,s0] at z1
 have t1:=t0.below b1
 have bw:Below w.heap.size w W0:=b0.trans (b1.mono (by omega))
 have HW0:Hid ((w.alloc (.cells #[X.vm,X.vy,X.vo,.int .i64 X.seq,X.vs] 28)).alloc (.cells #[.slice none 0 0,.slice none 0 0,.slice none 0 0,.int .i64 0,.slice none 0 0] 28)=W0):=by unfold Hid;rw [hW0,hV0]
 obtain ⟨q0,q1,q2,q3,q4⟩:=id t1
 rw [hW0,hV0] at q0 q1 q2 q3 q4
 clear t0 b0 b1 s0 hV0 hW0
 go_enter Tryz.func8,Tryz.ntmps8
 go_wp2_with fail
 rw [HW0.out]
 clear q0 q1 q2 q3 q4
 refine (HTK.out _ (hx.below bw)).mono ?_
 rintro e w1 ⟨rfl,hb1⟩
 have t2:=t1.below hb1
 have z2:=z1.on hb1
 have bw1:=bw.trans (hb1.mono bw.size)
 have s2:w.heap.size+2≤w1.heap.size:=by rw [← s1];exact hb1.size
 clear t1 z1 bw hb1 s1 HTK HW0
 cases htk:treeOk X.tre with
 | false =>
  obtain ⟨y0,y1,y2,y3,y4,g0,g1,g2,g3,g4⟩:=z2.facts
  have hzF:=boxTr_put5 z2 (.slice none 0 0) (.slice none 0 0) (.slice none 0 0) (.slice none 0 0) 0
  obtain ⟨f0,f1,f2,f3,f4,-⟩:=hzF.facts
  have END:Hid (IWrotePost w X xs (.returned (.tuple #[.agg #[.slice none 0 0,.slice none 0 0,.slice none 0 0,.int .i64 0,.slice none 0 0],.bool false])) (put5 w1 (w.heap.size+1) (.slice none 0 0) (.slice none 0 0) (.slice none 0 0) (.int .i64 0) (.slice none 0 0))):=by
   refine ⟨⟨.slice none 0 0,.slice none 0 0,.slice none 0 0,.slice none 0 0,[],[],[],0,[]⟩,by unfold wroteO;rw [htk];rfl,by unfold wroteR;rw [if_neg (by rw [htk];simp)];rfl,ownTree_zero _ _,below_put5 bw1 (by omega)⟩
  unfold put5 at f0 f1 f2 f3 f4
  clear z2 t2 hzF bw1 htk HWB HCP
  go_wp2
  exact bodyPost_ret (v:=.tuple #[.agg #[.slice none 0 0,.slice none 0 0,.slice none 0 0,.int .i64 0,.slice none 0 0],.bool false]) (by simp [results,Tryz.results8,go_sem,f0,f1,f2,f3,f4]) rfl END.out
 | true =>
  obtain ⟨q0,q1,q2,q3,q4⟩:=id t2
  go_wp2_with fail
  refine (HWB.out htk _ (hx.below bw1) (hw.below bw1)).mono ?_
  rintro e w2 ⟨Y,rfl,hyes,hno,hb2⟩
  have t3:=t2.below hb2
  have z3:=z2.on hb2
  have bw2:=bw1.trans (hb2.mono bw1.size)
  have s3:=hb2.size
  clear q0 q1 q2 q3 q4 t2 z2 hb2 bw1 HWB
  cases hr:roomFor X.tre xs with
  | true =>
   obtain ⟨heY,hoY⟩:=hyes hr
   have UB:Hid (∀ k∈trB Y,w1.heap.size≤k∧k < w2.heap.size):=fun k hk=>hoY.bound hk
   obtain ⟨am,ay,ao,an,mn,yn,on,nn,cm,cy,co,cn,v0,v1,v2,v3⟩:=hoY.rd.slices
   obtain ⟨vm4,vy4,vo4,vs4,mem4,ys4,os4,seq4,snaps4⟩:=Y
   simp only at v0 v1 v2 v3
   subst v0
   subst v1
   subst v2
   subst v3
   have zb:=boxTr_new w2 (.slice am mn cm) (.slice ay yn cy) (.slice ao on co) (.slice an nn cn) seq4
   have bb:=below1 w2 (.cells #[.slice am mn cm,.slice ay yn cy,.slice ao on co,.int .i64 seq4,.slice an nn cn] 28)
   have z4:=z3.on bb
   have bw3:=bw2.trans (bb.mono bw2.size)
   have hoY3:=hoY.below bb
   obtain ⟨y0,y1,y2,y3,y4,g0,g1,g2,g3,g4⟩:=zb.facts
   obtain ⟨m0,m1,m2,m3,m4,n0,n1,n2,n3,n4⟩:=z4.facts
   have hzF:=boxTr_put5 z4 (.slice am mn cm) (.slice ay yn cy) (.slice ao on co) (.slice an nn cn) seq4
   obtain ⟨f0,f1,f2,f3,f4,-⟩:=hzF.facts
   have END:Hid (IWrotePost w X xs (.returned (.tuple #[.agg #[.slice am mn cm,.slice ay yn cy,.slice ao on co,.int .i64 seq4,.slice an nn cn],.bool true])) (put5 (w2.alloc (.cells #[.slice am mn cm,.slice ay yn cy,.slice ao on co,.int .i64 seq4,.slice an nn cn] 28)) (w.heap.size+1) (.slice am mn cm) (.slice ay yn cy) (.slice ao on co) (.int .i64 seq4) (.slice an nn cn))):=by
    refine ⟨⟨.slice am mn cm,.slice ay yn cy,.slice ao on co,.slice an nn cn,mem4,ys4,os4,seq4,snaps4⟩,?_,?_,(hoY3.others (fun e=>by have:=UB.out _ e;omega)).mono (by omega),below_put5 bw3 (by omega)⟩
    ·unfold wroteO
     rw [htk,hr]
     rfl
    ·unfold wroteR
     rw [if_pos htk,if_pos hr]
     exact heY
   unfold put5 at f0 f1 f2 f3 f4 END
   clear zb z4 t3 z3 bw2 bw3 hoY hoY3 UB hzF htk heY hyes hno hr bb HCP
   go_wp2
   exact bodyPost_ret (v:=.tuple #[.agg #[.slice am mn cm,.slice ay yn cy,.slice ao on co,.int .i64 seq4,.slice an nn cn],.bool true]) (by simp [results,Tryz.results8,go_sem,f0,f1,f2,f3,f4]) rfl END.out
  | false =>
   obtain rfl:=hno hr
   have bb:=below1 w2 (.cells #[.slice none 0 0,.slice none 0 0,.slice none 0 0,.int .i64 0,.slice none 0 0] 28)
   have t4:=t3.below bb
   have z4:=z3.on bb
   have bw3:=bw2.trans (bb.mono bw2.size)
   have s4:w2.heap.size < (w2.alloc (.cells #[.slice none 0 0,.slice none 0 0,.slice none 0 0,.int .i64 0,.slice none 0 0] 28)).heap.size:=by simp
   obtain ⟨q0,q1,q2,q3,q4⟩:=id t4
   have HCQ:Hid (∀ W,RdTr W X→Calls Tryz.prog 38 #[.agg #[X.vm,X.vy,X.vo,.int .i64 X.seq,X.vs]] W fun e w'=>ToTr W X e w'):=HCP.out htk
   have HO:Hid (wroteO X.tre xs=false):=by unfold Hid wroteO;rw [htk,hr];rfl
   have HR0:Hid (wroteR X.tre xs=X.tre):=by unfold Hid wroteR;rw [if_pos htk,if_neg (by rw [hr];simp)]
   clear hyes hno hr htk HCP t3 z3 bb bw2
   go_wp2_with fail
   generalize w2.alloc (.cells #[.slice none 0 0,.slice none 0 0,.slice none 0 0,.int .i64 0,.slice none 0 0] 28)=W3 at t4 z4 bw3 s4 q0 q1 q2 q3 q4 ⊢
   refine (HCQ.out _ (hx.below bw3)).mono ?_
   rintro e w4 ⟨Y,rfl,heY,hoY,hb4⟩
   have z5:=z4.on hb4
   have bw5:=bw3.trans (hb4.mono bw3.size)
   have UB:Hid (∀ k∈trB Y,W3.heap.size≤k∧k < w4.heap.size):=fun k hk=>hoY.bound hk
   obtain ⟨am,ay,ao,an,mn,yn,on,nn,cm,cy,co,cn,v0,v1,v2,v3⟩:=hoY.rd.slices
   obtain ⟨vm4,vy4,vo4,vs4,mem4,ys4,os4,seq4,snaps4⟩:=Y
   simp only at v0 v1 v2 v3
   subst v0
   subst v1
   subst v2
   subst v3
   obtain ⟨m0,m1,m2,m3,m4,n0,n1,n2,n3,n4⟩:=z5.facts
   have hzF:=boxTr_put5 z5 (.slice am mn cm) (.slice ay yn cy) (.slice ao on co) (.slice an nn cn) seq4
   obtain ⟨f0,f1,f2,f3,f4,-⟩:=hzF.facts
   have END:Hid (IWrotePost w X xs (.returned (.tuple #[.agg #[.slice am mn cm,.slice ay yn cy,.slice ao on co,.int .i64 seq4,.slice an nn cn],.bool false])) (put5 w4 (w.heap.size+1) (.slice am mn cm) (.slice ay yn cy) (.slice ao on co) (.int .i64 seq4) (.slice an nn cn))):=by
    refine ⟨⟨.slice am mn cm,.slice ay yn cy,.slice ao on co,.slice an nn cn,mem4,ys4,os4,seq4,snaps4⟩,by rw [HO.out],by rw [HR0.out];exact heY,(hoY.others (fun e=>by have:=UB.out _ e;omega)).mono (by omega),below_put5 bw5 (by omega)⟩
   unfold put5 at f0 f1 f2 f3 f4 END
   clear t4 z4 z5 bw3 bw5 hoY UB hzF heY hb4 q0 q1 q2 q3 q4
   go_wp2
   exact bodyPost_ret (v:=.tuple #[.agg #[.slice am mn cm,.slice ay yn cy,.slice ao on co,.int .i64 seq4,.slice an nn cn],.bool false]) (by simp [results,Tryz.results8,go_sem,f0,f1,f2,f3,f4]) rfl END.out
open Go.RowKit
def ReadPost (w:World) (o:Option ByteArray) (e:Ending) (w':World):Prop:=e=.returned (.tuple #[.string (o.getD ⟨#[]⟩),.bool o.isSome])∧Below w.heap.size w w'
theorem readT_no {T:Tre} {k:ByteArray} {q:Int} (h:treeOk T=false):readT T k q=none:=by unfold readT;rw [if_neg (by rw [h];simp)]
theorem readT_yes {T:Tre} {k:ByteArray} {q:Int} (h:treeOk T=true):readT T k q=tellE (seenL (allT T).1 k q):=by unfold readT;rw [if_pos h,tree_all ((treeOk_iff T).1 h)];rfl
theorem specRead_any (X:TrX) (key:ByteArray) (q:Int) (w:World) (hx:RdTr w X) (hf:FitTr X) :
 Calls Tryz.prog 15 #[.agg #[X.vm,X.vy,X.vo,.int .i64 X.seq,X.vs],.string key,.int .i64 q] w fun e w'=>ReadPost w (readT X.tre key q) e w':=by
 have HALL:Hid (∀ W,RdTr W X→Calls Tryz.prog 46 #[.agg #[X.vm,X.vy,X.vo,.int .i64 X.seq,X.vs]] W fun e w'=>AllPost W X e w'):=fun W h=>l7All_any X W h hf
 have HOK:Hid (∀ W,RdTr W X→Calls Tryz.prog 14 #[.agg #[X.vm,X.vy,X.vo,.int .i64 X.seq,X.vs]] W fun e w'=>e=.returned (.bool (treeOk X.tre))∧Below W.heap.size W w'):=fun W h=>specTreeOk_any X W h hf
 have HR1:Hid (treeOk X.tre=false→readT X.tre key q=none):=readT_no
 have HR2:Hid (treeOk X.tre=true→readT X.tre key q=tellE (seenL (allT X.tre).1 key q)):=readT_yes
 unfold AllPost at HALL
 generalize readT X.tre key q=R at HR1 HR2 ⊢
 generalize treeOk X.tre=ok at HOK HR1 HR2
 generalize allT X.tre=AT at HALL HR2
 obtain ⟨all,is⟩:=AT
 simp only at HALL HR2
 have ht0:=treAt_new w X 28
 have b0:=below1 w (.cells #[X.vm,X.vy,X.vo,.int .i64 X.seq,X.vs] 28)
 obtain ⟨q0,q1,q2,q3,q4⟩:=id ht0
 go_enter Tryz.func15,Tryz.ntmps15
 go_wp2_with fail
 refine (HALL.out _ (hx.below b0)).mono ?_
 rintro e w1 ⟨u,rfl,ho1,hb1⟩
 have ht1:=ht0.below hb1
 have b1:=b0.trans (hb1.mono b0.size)
 clear HALL ht0 b0 hb1 q0 q1 q2 q3 q4
 obtain ⟨q0,q1,q2,q3,q4⟩:=id ht1
 go_wp2_with fail
 refine (HOK.out _ (hx.below b1)).mono ?_
 rintro e w2 ⟨rfl,hb2⟩
 have hr2:=(ho1.below hb2).rd
 have b2:=b1.trans (hb2.mono b1.size)
 clear HOK ht1 ho1 b1 hb2 q0 q1 q2 q3 q4
 cases ok with
 | false =>
  have HR:Hid (R=none):=HR1.out rfl
  go_wp2
  go_ret2
  exact ⟨by rw [HR.out];rfl,b2⟩
 | true =>
  have HR:Hid (R=tellE (seenL all key q)):=HR2.out rfl
  clear HR1 HR2
  go_wp2_with fail
  refine (l3Seen_any _ all key q _ hr2).mono ?_
  rintro e w3 ⟨rfl,hb3⟩
  have b3:=b2.trans (hb3.mono b2.size)
  clear hr2 b2 hb3
  generalize seenL all key q=o at HR
  cases o with
  | none =>
   have HN:Hid (R=none):=HR.out
   go_wp2
   go_ret2
   exact ⟨by rw [HN.out];rfl,b3.alloc b3.size _⟩
  | some x =>
   cases hg:x.gone with
   | true =>
    have HN:Hid (R=none):=by unfold Hid;rw [HR.out];simp [tellE,hg]
    simp only [Option.getD_some,Option.isSome_some,hg]
    clear hg
    go_wp2
    go_ret2
    exact ⟨by rw [HN.out];rfl,b3.alloc b3.size _⟩
   | false =>
    have HN:Hid (R=some x.val):=by unfold Hid;rw [HR.out];simp [tellE,hg]
    simp only [Option.getD_some,Option.isSome_some,hg]
    clear hg
    go_wp2
    go_ret2
    exact ⟨by rw [HN.out];rfl,b3.alloc b3.size _⟩
open Go.RowKit
theorem unpL_ok {T:Tre}:∀ l∈unpL T,okL l=true:=fun l hl=>by
 cases ht:treeOk T with
 | false=>rw [unpL_no ht] at hl;cases hl
 | true =>
  rw [unpL_yes ht] at hl
  have h:=(treeOk_iff T).1 ht
  rcases List.mem_cons.1 hl with rfl | hl
  ·exact h.mem
  ·obtain ⟨t,ht,rfl⟩:=List.mem_map.1 hl
   exact (tableOk_parts (h.full t ht)).1
def BoxE (w:World) (b:Nat) (x:Ent):Prop:=w.heap[b]? = some (.cells #[.string x.key,.string x.val,.int .i64 x.seq,.bool x.gone] 50 (0,0))
theorem BoxE.lt {w:World} {b:Nat} {x:Ent} (h:BoxE w b x):b < w.heap.size:=(Array.getElem?_eq_some_iff.1 h).1
theorem BoxE.below {w w':World} {b:Nat} {x:Ent} (h:BoxE w b x) (hb:Below w.heap.size w w'):BoxE w' b x:=(hb.block b h.lt).trans h
theorem boxE_new (w:World) (x:Ent):BoxE (w.alloc (.cells #[.string x.key,.string x.val,.int .i64 x.seq,.bool x.gone] 50)) w.heap.size x:=heap_alloc_new w _
theorem BoxE.facts {w:World} {b:Nat} {x:Ent} (h:BoxE w b x):w.cell? ⟨b,0,none⟩=some (.string x.key)∧w.cell? ⟨b,1,none⟩=some (.string x.val)∧w.cell? ⟨b,2,none⟩=some (.int .i64 x.seq)∧w.cell? ⟨b,3,none⟩=some (.bool x.gone) ∧
 w.frozen? ⟨b,0,none⟩=false∧w.frozen? ⟨b,1,none⟩=false∧w.frozen? ⟨b,2,none⟩=false∧w.frozen? ⟨b,3,none⟩=false:=by
 unfold BoxE at h
 refine ⟨?_,?_,?_,?_,?_,?_,?_,?_⟩<;>simp [World.cell?,World.frozen?,h]
theorem boxE_set4 {w:World} {b:Nat} {x:Ent} (h:BoxE w b x) (y:Ent):BoxE ((((w.setCell ⟨b,0,none⟩ (.string y.key)).setCell ⟨b,1,none⟩ (.string y.val)).setCell ⟨b,2,none⟩ (.int .i64 y.seq)).setCell ⟨b,3,none⟩ (.bool y.gone)) b y:=by
 unfold BoxE at h ⊢
 have h0:=heap_setCell_same w b 0 _ _ (.string y.key) h
 have h1:=heap_setCell_same _ b 1 _ _ (.string y.val) h0
 have h2:=heap_setCell_same _ b 2 _ _ (.int .i64 y.seq) h1
 exact heap_setCell_same _ b 3 _ _ (.bool y.gone) h2
theorem foldB_take {k:ByteArray} {q:Int} {ls:List (List Ent)} {i:Nat} {l:List Ent} (h:ls[i]? = some l):foldB k q noE (ls.take (i+1))=stepB (foldB k q noE (ls.take i)) (seenL l k q):=by
 have hi:i < ls.length:=(List.getElem?_eq_some_iff.1 h).1
 have hl:ls[i]=l:=(List.getElem?_eq_some_iff.1 h).2
 unfold foldB
 rw [List.take_succ_eq_append_getElem hi,List.foldl_append,hl]
 rfl
theorem implRead_any (X:TrX) (key:ByteArray) (q:Int) (w:World) (hx:RdTr w X) (hf:FitTr X) :
 Calls Tryz.prog 10 #[.agg #[X.vm,X.vy,X.vo,.int .i64 X.seq,X.vs],.string key,.int .i64 q] w fun e w'=>ReadPost w (readT X.tre key q) e w':=by
 have ht0:=treAt_new w X 28
 have b0:=below1 w (.cells #[X.vm,X.vy,X.vo,.int .i64 X.seq,X.vs] 28)
 have HU:Hid (Calls _ _ _ _ _):=unpackedTree_any X _ (hx.below b0) hf
 have HR:Hid (∀ b:Ent,b=foldB key q noE (unpL X.tre)→∀ W,Below w.heap.size w W→ReadPost w (readT X.tre key q) (.returned (.tuple #[.string b.val,.bool (!b.gone)])) W):=fun b hb W hW=>by
  have:=fold_read X.tre key q
  rw [← hb] at this
  have e1:=congrArg Prod.fst this
  have e2:=congrArg Prod.snd this
  simp only at e1 e2
  unfold ReadPost
  rw [← e1,← e2]
  exact ⟨rfl,hW⟩
 have HOK:Hid (∀ l∈unpL X.tre,okL l=true):=unpL_ok
 generalize ReadPost w (readT X.tre key q)=GOAL at HR ⊢
 unfold UnpTPost at HU
 generalize treeOk X.tre=ok at HU
 generalize unpL X.tre=ls at HU HR HOK
 obtain ⟨q0,q1,q2,q3,q4⟩:=id ht0
 go_enter Tryz.func10,Tryz.ntmps10
 go_wp2_with fail
 refine HU.out.mono ?_
 rintro e w1 ⟨u,ps,rfl,hp,hpm,hb1⟩
 have b1:=b0.trans (hb1.mono b0.size)
 obtain ⟨a,cap,hv,hla,hma,hat⟩:=hp.at
 have hln:ls.length=ps.length:=by rw [← hpm,List.length_map]
 rw [hpm] at hat
 obtain ⟨nn,hnn⟩:∃ nn,nn=ps.length:=⟨_,rfl⟩
 rw [← hnn] at hv hla hat hln
 have AT:Hid (∀ k,k < nn→_):=hat
 have HLN:Hid (ls.length=nn):=hln
 unfold maxLen at hma
 subst hv
 have hbN:=boxE_new w1 noE
 have bN:=below1 w1 (.cells #[.string noE.key,.string noE.val,.int .i64 noE.seq,.bool noE.gone] 50)
 simp only [noE] at hbN bN
 clear HU ht0 q0 q1 q2 q3 q4 hb1 hat hln hnn hp hpm b0
 go_wp2
 go_loopw [23] (fun i wr=>∃ (k:Nat) (b:Ent),k≤nn∧i=.int .i64 k∧BoxE wr w1.heap.size b∧Hid (b=foldB key q noE (ls.take k))∧Below w1.heap.size w1 wr) (fun i _=>nn - (intOf i).toNat)
 case atStart=>exact ⟨0,noE,Nat.zero_le _,rfl,hbN,rfl,bN⟩
 case round =>
  clear hbN bN
  obtain ⟨k,b,hk,rfl,hbx,HB,hb⟩:=hrel
  by_cases hlt:k < nn
  ·obtain ⟨bb,off,aa,zn,cc,zs,rfl,hc,hrz,hlz⟩:=AT.out k hlt wr hb
   have HST:Hid (foldB key q noE (ls.take (k+1))=stepB b (seenL zs key q)):=by unfold Hid;rw [HB.out];exact foldB_take hlz
   have hkc:k < cap:=by omega
   have HC:Hid (Calls _ _ _ _ _):=seenIn_any (.slice aa zn cc) zs key q wr hrz (HOK.out zs (List.mem_of_getElem? hlz))
   generalize seenL zs key q=o at HC HST
   clear hlz hrz
   cases o with
   | none =>
    have HB2:Hid (b=foldB key q noE (ls.take (k+1))):=HST.out.symm
    go_wp2_with fail
    refine HC.out.mono ?_
    rintro e w2 ⟨he,hb2⟩
    obtain rfl:e=.returned (.tuple #[.agg #[.string ⟨#[]⟩,.string ⟨#[]⟩,.int .i64 0,.bool false],.bool false]):=he
    have bx2:=(hbx.below hb2).below (below1 w2 (.cells #[.string ⟨#[]⟩,.string ⟨#[]⟩,.int .i64 0,.bool false] 50))
    have b2:=(hb.trans (hb2.mono hb.size)).alloc (hb.trans (hb2.mono hb.size)).size (.cells #[.string ⟨#[]⟩,.string ⟨#[]⟩,.int .i64 0,.bool false] 50)
    clear HC HST HB hbx hb hb2 hc
    go_wp2
    go_roundw
    case rel=>exact ⟨k+1,b,by omega,by go_num,bx2,HB2,b2⟩
    case measure=>simp [intOf];omega
   | some y =>
    by_cases hlt2:b.seq < y.seq
    ·skip
     have HB2:Hid (y=foldB key q noE (ls.take (k+1))):=by unfold Hid;rw [HST.out];exact (if_pos hlt2).symm
     go_wp2_with fail
     refine HC.out.mono ?_
     rintro e w2 ⟨he,hb2⟩
     obtain rfl:e=.returned (.tuple #[.agg #[.string y.key,.string y.val,.int .i64 y.seq,.bool y.gone],.bool true]):=he
     have ba:=below1 w2 (.cells #[.string y.key,.string y.val,.int .i64 y.seq,.bool y.gone] 50)
     have bx2:=(hbx.below hb2).below ba
     have b2:=(hb.trans (hb2.mono hb.size)).trans (ba.mono (hb.trans (hb2.mono hb.size)).size)
     obtain ⟨d0,d1,d2,d3,f0,f1,f2,f3⟩:=bx2.facts
     obtain ⟨e0,e1,e2,e3,-⟩:=(boxE_new w2 y).facts
     have bx3:=boxE_set4 bx2 y
     have hne:w1.heap.size≠w2.heap.size:=by have:=hbx.lt;have:=hb2.size;omega
     have b3:=below4 b2 (Nat.le_refl _) (.string y.key) (.string y.val) (.int .i64 y.seq) (.bool y.gone) 0 1 2 3
     clear HC HST HB hbx hb hb2 hc ba bx2 b2
     go_wp2
     go_roundw
     case rel=>exact ⟨k+1,y,by omega,by go_num,bx3,HB2,b3⟩
     case measure=>simp [intOf];omega
    ·skip
     have HB2:Hid (b=foldB key q noE (ls.take (k+1))):=by unfold Hid;rw [HST.out];exact (if_neg hlt2).symm
     go_wp2_with fail
     refine HC.out.mono ?_
     rintro e w2 ⟨he,hb2⟩
     obtain rfl:e=.returned (.tuple #[.agg #[.string y.key,.string y.val,.int .i64 y.seq,.bool y.gone],.bool true]):=he
     have ba:=below1 w2 (.cells #[.string y.key,.string y.val,.int .i64 y.seq,.bool y.gone] 50)
     have bx2:=(hbx.below hb2).below ba
     have b2:=(hb.trans (hb2.mono hb.size)).trans (ba.mono (hb.trans (hb2.mono hb.size)).size)
     obtain ⟨d0,d1,d2,d3,f0,f1,f2,f3⟩:=bx2.facts
     obtain ⟨e0,e1,e2,e3,-⟩:=(boxE_new w2 y).facts
     clear HC HST HB hbx hb hb2 hc ba
     go_wp2
     go_roundw
     case rel=>exact ⟨k+1,b,by omega,by go_num,bx2,HB2,b2⟩
     case measure=>simp [intOf];omega
  ·skip
   have hke:k=nn:=by omega
   have hbe:b=foldB key q noE ls:=by have:=HB.out;rw [hke,← HLN.out,List.take_length] at this;exact this
   have RES:Hid (GOAL (.returned (.tuple #[.string b.val,.bool (!b.gone)])) wr.drew):=HR.out b hbe _ ((b1.trans (hb.mono b1.size)).drew)
   obtain ⟨d0,d1,d2,d3,-⟩:=hbx.facts
   clear hke hbe HB HR AT
   go_wp2
   go_region
   go_wp2
   exact RES.out
end Go.Proofs.YtmlmlemiidedcaaGreat
