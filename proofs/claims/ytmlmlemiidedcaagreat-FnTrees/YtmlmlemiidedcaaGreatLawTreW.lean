import Derived.Test.YtmlmlemiidedcaaGreatG44
import Derived.Test.YtmlmlemiidedcaaGreatG46
import Derived.Deep.DeepCutAuto
import Derived.BigQuiet
namespace Go.Proofs.YtmlmlemiidedcaaGreat
set_option maxHeartbeats 16000000
set_option maxRecDepth 100000
open Go.RowKit
structure QT (w W:World) (v:Value) (xs:List Wri):Prop where
 bt:RdW W v xs
 bw:Below w.heap.size w W
theorem QT.on {w W W':World} {v:Value} {xs:List Wri} (h:QT w W v xs) (hb:Below W.heap.size W W'):QT w W' v xs:=⟨h.bt.below hb,h.bw.trans (hb.mono h.bw.size)⟩
theorem rdS_at {w:World} {a:Option Addr} {n cap:Nat} {ss:List ByteArray} (h:RdS w (.slice a n cap) ss) (i:Nat) (hi:i < ss.length):∃ b off,a=some ⟨b,off,none⟩∧w.cell? ⟨b,off+i,none⟩=some (.string ss[i]):=by
 obtain ⟨a',cap',hv,_,_,h3⟩:=h
 simp only [Value.slice.injEq] at hv
 obtain ⟨rfl,_,_⟩:=hv
 rcases h3 with rfl | ⟨b,off,ha,hc⟩
 ·simp at hi
 ·exact ⟨b,off,ha,hc i hi⟩
theorem rdS_lit (w:World) (ks:List ByteArray) (t:TypeId) (hn:ks.length≤100):RdS (w.alloc (.cells (ks.map Value.string).toArray t)) (.slice (some ⟨w.heap.size,0,none⟩) ks.length ks.length) ks :=
 ⟨_,_,rfl,Nat.le_refl _,by unfold maxLen;omega,.inr ⟨w.heap.size,0,rfl,fun i hi=>by simp [World.cell?_alloc_at,hi]⟩⟩
theorem kU0LawTreW (i d:Nat) {P:Program} {ops:Array Oper} {Q:Exit→Act→World→Prop} {md:Region.Mode} {S:World→Prop} {oi:Oper} {v:Value} {fuel:Nat} {listed:Array Bool} {a a':Act} {w:World} (hS:S w) (h:wpAnyH P md ops (NoPanic Q) S fuel (listed.setIfInBounds i true) a' w) (hi:ops[i]? = some oi:=by rfl) (hd:oi.dst=some d:=by rfl) (hs:Region.noSelect ops=true:=by kernel_rfl) (hf:Region.free md ops listed i=true:=by kernel_rfl) (hr:(Region.ready md ops listed).contains i=true:=by kernel_rfl) (hw:Region.wanted oi (yielded ops a.tmps)=true:=by kernel_rfl) (hy:∀ w,S w→(execOp a.eval oi).run P w=.ok (.value v) w:=by intro w hS;(try dsimp only [CellsT,Nat.zero_add] at hS);go_simp;(try with_reducible rfl)) (ha:a.put (some d) v=a':=by (try simp only [Act.put,sA,sZ,sS]);(try rfl)):wpAnyH P md ops (NoPanic Q) S (fuel+1) listed a w:=takeH hi hd hs hf hr (fun _ _ _ h=>h) (Or.inl ⟨hw,hy⟩) hS (ha ▸ h)
theorem lawTreW (v:Value) (bs:List UInt8) (w:World) (hr:Rd w v bs) :
 Calls Tryz.prog 3 #[v] w fun e w'=>e=.returned (.bool true)∧Below w.heap.size w w':=by
 by_cases hbig:4096 < bs.length
 ·have hb2:decide (4096 < (bs.length:Int))=true:=by simp;omega
  go_enter Tryz.func3,Tryz.ntmps3
  go_wp2_with fail
  refine (bigT_any v bs w hr).mono ?_
  rw [hb2]
  rintro e wb ⟨rfl,hwb⟩
  obtain rfl:=hwb.symm
  go_wp2
  go_ret
  exact ⟨rfl,Below.refl _ _⟩
 have hb2:decide (4096 < (bs.length:Int))=false:=by simp;omega
 have HL:Hid (bs.length≤4096):=by unfold Hid;omega
 go_enter Tryz.func3,Tryz.ntmps3
 go_wp2_with fail
 refine (bigT_any v bs w hr).mono ?_
 rw [hb2]
 rintro e wb ⟨rfl,hwb⟩
 obtain rfl:=hwb.symm
 clear hb2 hbig
 go_wp2_with fail
 refine (drawWrote_any v bs _ hr HL.out).mono ?_
 rintro e w1 ⟨X,vb,xs,rfl,hx,hfit,hny,hno,hfew,hbt,hxl,hxs,b⟩
 have HXS:Hid (∀ x∈xs,FitsW x):=fun x h=>⟨Nat.le_trans (hxs x h).1 (by decide),Nat.le_trans (hxs x h).2 (by decide)⟩
 obtain ⟨ab,cb,rfl,-⟩:=id hbt
 have Q:QT w w1 (.slice ab xs.length cb) xs:=⟨hbt,b⟩
 clear b hfew hxs hbt
 obtain ⟨amx,ayx,aox,asx,nmx,nyx,nox,nsx,cmx,cyx,cox,csx,v0,v1,v2,v3⟩:=RdTr.slices hx
 obtain ⟨vm0,vy0,vo0,vs0,mx,yx,ox,qx,sx⟩:=X
 simp only at v0 v1 v2 v3
 subst v0
 subst v1
 subst v2
 subst v3
 have HF:Hid (FitTr ⟨.slice amx nmx cmx,.slice ayx nyx cyx,.slice aox nox cox,.slice asx nsx csx,mx,yx,ox,qx,sx⟩):=hfit
 have HC:Hid (treeOk (TrX.tre ⟨.slice amx nmx cmx,.slice ayx nyx cyx,.slice aox nox cox,.slice asx nsx csx,mx,yx,ox,qx,sx⟩)=true→CpTr ⟨.slice amx nmx cmx,.slice ayx nyx cyx,.slice aox nox cox,.slice asx nsx csx,mx,yx,ox,qx,sx⟩):=fun h=>treeP_cp ((treeOk_iff _).1 h) hx hny hno
 obtain ⟨b3,hb3⟩:∃ b,b=w1.heap.size:=⟨_,rfl⟩
 obtain ⟨W1,hW1⟩:∃ W,W=w1.alloc (.cells #[.slice amx nmx cmx,.slice ayx nyx cyx,.slice aox nox cox,.int .i64 qx,.slice asx nsx csx] 28):=⟨_,rfl⟩
 have H3:BoxedT W1 b3 ⟨.slice amx nmx cmx,.slice ayx nyx cyx,.slice aox nox cox,.slice asx nsx csx,mx,yx,ox,qx,sx⟩:=by rw [hW1,hb3];exact BoxedT.new hx
 have bb:Below w1.heap.size w1 W1:=by rw [hW1];exact below1 w1 _
 have HB:Hid (w1.heap.size=b3):=hb3.symm
 have HWW:Hid (w1.alloc (.cells #[.slice amx nmx cmx,.slice ayx nyx cyx,.slice aox nox cox,.int .i64 qx,.slice asx nsx csx] 28)=W1):=hW1.symm
 replace Q:=Q.on bb
 obtain ⟨f0,f1,f2,f3,f4⟩:=H3.cells
 simp only at f0 f1 f2 f3 f4
 rw [hW1,hb3] at f0 f1 f2 f3 f4
 clear hx hfit hny hno bb hb3 hW1
 go_wp2_with fail
 rw [HWW.out,HB.out]
 clear HWW HB
 clear f0 f1 f2 f3 f4
 obtain ⟨tx,htx⟩:∃ T,T=TrX.tre ⟨.slice amx nmx cmx,.slice ayx nyx cyx,.slice aox nox cox,.slice asx nsx csx,mx,yx,ox,qx,sx⟩:=⟨_,rfl⟩
 have HTX:Hid (tx=TrX.tre ⟨.slice amx nmx cmx,.slice ayx nyx cyx,.slice aox nox cox,.slice asx nsx csx,mx,yx,ox,qx,sx⟩):=htx
 clear htx
 refine (implWrote_any ⟨.slice amx nmx cmx,.slice ayx nyx cyx,.slice aox nox cox,.slice asx nsx csx,mx,yx,ox,qx,sx⟩ _ xs _ H3.rd HF.out HC.out Q.bt HXS.out).mono ?_
 rintro e w2 ⟨Y,rfl,hYt,oY,b⟩
 rw [← HTX.out] at hYt
 rw [← HTX.out]
 have hy:=oY.rd
 clear oY
 replace Q:=Q.on b
 replace H3:=H3.on b
 clear b
 obtain ⟨is,his⟩:∃ is,is=wroteO tx xs:=⟨_,rfl⟩
 rw [← his]
 have HIS:Hid (is=wroteO tx xs):=his
 clear his
 obtain ⟨amy,ayy,aoy,asy,nmy,nyy,noy,nsy,cmy,cyy,coy,csy,v0,v1,v2,v3⟩:=RdTr.slices hy
 obtain ⟨vm0,vy0,vo0,vs0,my,yy,oy,qy,sy⟩:=Y
 simp only at v0 v1 v2 v3
 subst v0
 subst v1
 subst v2
 subst v3
 have HYT:Hid (TrX.tre ⟨.slice amy nmy cmy,.slice ayy nyy cyy,.slice aoy noy coy,.slice asy nsy csy,my,yy,oy,qy,sy⟩=wroteR tx xs):=hYt
 obtain ⟨b5,hb5⟩:∃ b,b=w2.heap.size:=⟨_,rfl⟩
 obtain ⟨W2,hW2⟩:∃ W,W=w2.alloc (.cells #[.slice amy nmy cmy,.slice ayy nyy cyy,.slice aoy noy coy,.int .i64 qy,.slice asy nsy csy] 28):=⟨_,rfl⟩
 have H5:BoxedT W2 b5 ⟨.slice amy nmy cmy,.slice ayy nyy cyy,.slice aoy noy coy,.slice asy nsy csy,my,yy,oy,qy,sy⟩:=by rw [hW2,hb5];exact BoxedT.new hy
 have bb:Below w2.heap.size w2 W2:=by rw [hW2];exact below1 w2 _
 have HB:Hid (w2.heap.size=b5):=hb5.symm
 have HWW:Hid (w2.alloc (.cells #[.slice amy nmy cmy,.slice ayy nyy cyy,.slice aoy noy coy,.int .i64 qy,.slice asy nsy csy] 28)=W2):=hW2.symm
 replace Q:=Q.on bb
 replace H3:=H3.on bb
 clear hy hYt bb hb5 hW2
 go_wp2_with fail
 rw [HWW.out,HB.out]
 clear HWW HB
 refine (drawRead_any v bs _ (hr.below Q.bw) HL.out).mono ?_
 rintro e w3 ⟨R,key,rq,rfl,hR,hfr,-,-,-,-,-,b⟩
 replace Q:=Q.on b
 replace H3:=H3.on b
 replace H5:=H5.on b
 clear b
 obtain ⟨ame,aye,aoe,ase,nme,nye,noe,nse,cme,cye,coe,cse,v0,v1,v2,v3⟩:=RdTr.slices hR
 obtain ⟨vm0,vy0,vo0,vs0,me,ye,oe,qe,se⟩:=R
 simp only at v0 v1 v2 v3
 subst v0
 subst v1
 subst v2
 subst v3
 have HFR:Hid (FitTr ⟨.slice ame nme cme,.slice aye nye cye,.slice aoe noe coe,.slice ase nse cse,me,ye,oe,qe,se⟩):=hfr
 obtain ⟨b7,hb7⟩:∃ b,b=w3.heap.size:=⟨_,rfl⟩
 obtain ⟨W3,hW3⟩:∃ W,W=w3.alloc (.cells #[.slice ame nme cme,.slice aye nye cye,.slice aoe noe coe,.int .i64 qe,.slice ase nse cse] 28):=⟨_,rfl⟩
 have H7:BoxedT W3 b7 ⟨.slice ame nme cme,.slice aye nye cye,.slice aoe noe coe,.slice ase nse cse,me,ye,oe,qe,se⟩:=by rw [hW3,hb7];exact BoxedT.new hR
 have bb:Below w3.heap.size w3 W3:=by rw [hW3];exact below1 w3 _
 have HB:Hid (w3.heap.size=b7):=hb7.symm
 have HWW:Hid (w3.alloc (.cells #[.slice ame nme cme,.slice aye nye cye,.slice aoe noe coe,.int .i64 qe,.slice ase nse cse] 28)=W3):=hW3.symm
 replace Q:=Q.on bb
 replace H3:=H3.on bb
 replace H5:=H5.on bb
 obtain ⟨f0,f1,f2,f3,f4⟩:=H7.cells
 simp only at f0 f1 f2 f3 f4
 rw [hW3,hb7] at f0 f1 f2 f3 f4
 clear hR hfr bb hb7 hW3
 go_wp2_with fail
 rw [HWW.out,HB.out]
 clear HWW HB
 clear f0 f1 f2 f3 f4
 obtain ⟨ro,hro⟩:∃ o,o=readT (TrX.tre ⟨.slice ame nme cme,.slice aye nye cye,.slice aoe noe coe,.slice ase nse cse,me,ye,oe,qe,se⟩) key rq:=⟨_,rfl⟩
 have HRO:Hid (ro=readT (TrX.tre ⟨.slice ame nme cme,.slice aye nye cye,.slice aoe noe coe,.slice ase nse cse,me,ye,oe,qe,se⟩) key rq):=hro
 clear hro
 refine (implRead_any ⟨.slice ame nme cme,.slice aye nye cye,.slice aoe noe coe,.slice ase nse cse,me,ye,oe,qe,se⟩ key rq _ H7.rd HFR.out).mono ?_
 rw [← HRO.out]
 rintro e w4 ⟨rfl,b⟩
 replace Q:=Q.on b
 replace H3:=H3.on b
 replace H5:=H5.on b
 replace H7:=H7.on b
 clear b
 generalize hrs:ro.getD ⟨#[]⟩=rs
 generalize hrb:ro.isSome=rb
 have HRS:Hid (ro.getD ⟨#[]⟩=rs∧ro.isSome=rb):=⟨hrs,hrb⟩
 clear hrs hrb
 obtain ⟨f0,f1,f2,f3,f4⟩:=H3.cells
 simp only at f0 f1 f2 f3 f4
 go_wp2_with fail
 clear f0 f1 f2 f3 f4
 refine (specWrote_any ⟨.slice amx nmx cmx,.slice ayx nyx cyx,.slice aox nox cox,.slice asx nsx csx,mx,yx,ox,qx,sx⟩ _ xs _ H3.rd HF.out (fun h=>(HC.out h).siz) Q.bt HXS.out).mono ?_
 rintro e w5 ⟨Z,rfl,hZt,oZ,b⟩
 rw [← HTX.out,← HIS.out]
 rw [← HTX.out] at hZt
 have hz:=oZ.rd
 clear oZ
 replace Q:=Q.on b
 replace H3:=H3.on b
 replace H5:=H5.on b
 replace H7:=H7.on b
 clear b
 obtain ⟨amz,ayz,aoz,asz,nmz,nyz,noz,nsz,cmz,cyz,coz,csz,v0,v1,v2,v3⟩:=RdTr.slices hz
 obtain ⟨vm0,vy0,vo0,vs0,mz,yz,oz,qz,sz⟩:=Z
 simp only at v0 v1 v2 v3
 subst v0
 subst v1
 subst v2
 subst v3
 have HYZ:Hid (TrX.tre ⟨.slice amy nmy cmy,.slice ayy nyy cyy,.slice aoy noy coy,.slice asy nsy csy,my,yy,oy,qy,sy⟩=TrX.tre ⟨.slice amz nmz cmz,.slice ayz nyz cyz,.slice aoz noz coz,.slice asz nsz csz,mz,yz,oz,qz,sz⟩):=HYT.out.trans hZt.symm
 obtain ⟨b12,hb12⟩:∃ b,b=w5.heap.size:=⟨_,rfl⟩
 obtain ⟨W5,hW5⟩:∃ W,W=w5.alloc (.cells #[.slice amz nmz cmz,.slice ayz nyz cyz,.slice aoz noz coz,.int .i64 qz,.slice asz nsz csz] 28):=⟨_,rfl⟩
 have H12:BoxedT W5 b12 ⟨.slice amz nmz cmz,.slice ayz nyz cyz,.slice aoz noz coz,.slice asz nsz csz,mz,yz,oz,qz,sz⟩:=by rw [hW5,hb12];exact BoxedT.new hz
 have bb:Below w5.heap.size w5 W5:=by rw [hW5];exact below1 w5 _
 have HB:Hid (w5.heap.size=b12):=hb12.symm
 have HWW:Hid (w5.alloc (.cells #[.slice amz nmz cmz,.slice ayz nyz cyz,.slice aoz noz coz,.int .i64 qz,.slice asz nsz csz] 28)=W5):=hW5.symm
 replace Q:=Q.on bb
 replace H3:=H3.on bb
 replace H5:=H5.on bb
 replace H7:=H7.on bb
 clear hz hZt bb hb12 hW5
 have hii:(is != is)=false:=by cases is<;>rfl
 go_upto_region 8 with fail
 rw [HWW.out,HB.out]
 clear HWW HB
 go_cut [74] (fun t74 W=>t74=.bool false∧QT w W (.slice ab xs.length cb) xs∧BoxedT W b3 ⟨.slice amx nmx cmx,.slice ayx nyx cyx,.slice aox nox cox,.slice asx nsx csx,mx,yx,ox,qx,sx⟩∧BoxedT W b5 ⟨.slice amy nmy cmy,.slice ayy nyy cyy,.slice aoy noy coy,.slice asy nsy csy,my,yy,oy,qy,sy⟩∧BoxedT W b7 ⟨.slice ame nme cme,.slice aye nye cye,.slice aoe noe coe,.slice ase nse cse,me,ye,oe,qe,se⟩)
 case first =>
  as_aux_lemma =>
   refine wp_region_noPanic ?_
   refine wp_region_held_drew (S:=fun w'=>(CellsT w' b3 ⟨.slice amx nmx cmx,.slice ayx nyx cyx,.slice aox nox cox,.slice asx nsx csx,mx,yx,ox,qx,sx⟩)∧(CellsT w' b5 ⟨.slice amy nmy cmy,.slice ayy nyy cyy,.slice aoy noy coy,.slice asy nsy csy,my,yy,oy,qy,sy⟩)∧CellsT w' b12 ⟨.slice amz nmz cmz,.slice ayz nyz cyz,.slice aoz noz coz,.slice asz nsz csz,mz,yz,oz,qz,sz⟩) (by kernel_rfl) ⟨H3.cells,H5.cells,H12.cells⟩ (fun hH=>?_)
   refine kU0LawTreW 0 59 hH ?_
   refine kU0LawTreW 1 60 hH ?_
   refine kU0LawTreW 2 61 hH ?_
   refine kU0LawTreW 3 62 hH ?_
   refine kU0LawTreW 4 63 hH ?_
   refine kU0LawTreW 5 64 hH ?_
   refine wpAnyH_ready (rs:=[6]) (by kernel_rfl) (by simp) ?_
   refine AllReadyH.cons rfl (fun K hK=>?_) AllReadyH.nil
   go_simp
   refine (likeTree_same ⟨.slice amy nmy cmy,.slice ayy nyy cyy,.slice aoy noy coy,.slice asy nsy csy,my,yy,oy,qy,sy⟩ ⟨.slice amz nmz cmz,.slice ayz nyz cyz,.slice aoz noz coz,.slice asz nsz csz,mz,yz,oz,qz,sz⟩ _ (H5.on (Below.drew (Below.refl W5.heap.size W5))).rd (H12.on (Below.drew (Below.refl W5.heap.size W5))).rd HYZ.out).mono ?_
   rintro e w6 ⟨rfl,b⟩
   replace b:Below W5.heap.size W5 w6:=Below.trans (Below.drew (Below.refl W5.heap.size W5)) b
   replace Q:=Q.on b
   replace H3:=H3.on b
   replace H5:=H5.on b
   replace H7:=H7.on b
   replace H12:=H12.on b
   clear b
   refine hK.out _ _ ⟨H3.cells,H5.cells,H12.cells⟩ (fun hA=>?_)
   clear hK K
   try simp only [Act.put,sA,sZ,sS]
   clear hH
   refine kU0LawTreW 7 66 hA ?_
   refine kU0LawTreW 8 67 hA ?_
   refine kU0LawTreW 9 68 hA ?_
   refine kU0LawTreW 10 69 hA ?_
   refine kU0LawTreW 12 71 hA ?_
   refine wpAnyH_ready (rs:=[11]) (by kernel_rfl) (by simp) ?_
   refine AllReadyH.cons rfl (fun K hK=>?_) AllReadyH.nil
   go_simp
   refine (implTreeOk_any ⟨.slice amx nmx cmx,.slice ayx nyx cyx,.slice aox nox cox,.slice asx nsx csx,mx,yx,ox,qx,sx⟩ _ H3.rd HF.out).mono ?_
   rintro e w7 ⟨rfl,b⟩
   replace Q:=Q.on b
   replace H3:=H3.on b
   replace H5:=H5.on b
   replace H7:=H7.on b
   replace H12:=H12.on b
   clear b
   refine hK.out _ _ ⟨H3.cells,H5.cells,H12.cells⟩ (fun hB=>?_)
   clear hK K
   try simp only [Act.put,sA,sZ,sS]
   clear hA
   refine wpAnyH_ready (rs:=[13]) (by kernel_rfl) (by simp) ?_
   refine AllReadyH.cons rfl (fun K hK=>?_) AllReadyH.nil
   go_simp
   refine (specTreeOk_any ⟨.slice amx nmx cmx,.slice ayx nyx cyx,.slice aox nox cox,.slice asx nsx csx,mx,yx,ox,qx,sx⟩ _ H3.rd HF.out).mono ?_
   rintro e w8 ⟨rfl,b⟩
   replace Q:=Q.on b
   replace H3:=H3.on b
   replace H5:=H5.on b
   replace H7:=H7.on b
   replace H12:=H12.on b
   clear b
   have hnn:(treeOk (TrX.tre ⟨.slice amx nmx cmx,.slice ayx nyx cyx,.slice aox nox cox,.slice asx nsx csx,mx,yx,ox,qx,sx⟩) != treeOk (TrX.tre ⟨.slice amx nmx cmx,.slice ayx nyx cyx,.slice aox nox cox,.slice asx nsx csx,mx,yx,ox,qx,sx⟩))=false:=by simp
   refine hK.out _ _ ⟨H3.cells,H5.cells,H12.cells⟩ (fun hC=>?_)
   clear hK K
   try simp only [Act.put,sA,sZ,sS]
   clear hB
   refine kU0LawTreW 14 73 hC ?_
   refine kU0LawTreW 15 74 hC ?_
   refine wpAnyH_done (by kernel_rfl) ?_ _
   refine NoPanic.normal ?_
   clear hC
   go_wp2
   go_meet
   case rel=>exact ⟨rfl,Q,H3,H5,H7⟩
 case rest =>
  clear Q H3 H5 H7 H12 hii HYZ
  obtain ⟨rfl,Q,H3,H5,H7⟩:=hcut
  obtain ⟨f0,f1,f2,f3,f4⟩:=H7.cells
  simp only at f0 f1 f2 f3 f4
  go_wp2_with fail
  clear f0 f1 f2 f3 f4
  refine (specRead_any ⟨.slice ame nme cme,.slice aye nye cye,.slice aoe noe coe,.slice ase nse cse,me,ye,oe,qe,se⟩ key rq _ H7.rd HFR.out).mono ?_
  rw [← HRO.out]
  rintro e w9 ⟨rfl,b⟩
  rw [HRS.out.1,HRS.out.2]
  replace Q:=Q.on b
  replace H3:=H3.on b
  replace H5:=H5.on b
  clear b H7 HFR HRO HRS
  have hbb:(rb != rb)=false:=by cases rb<;>rfl
  have hss:(!rs.toList == rs.toList)=false:=by simp
  cases is with
  | false =>
   as_aux_lemma =>
    obtain ⟨f0,f1,f2,f3,f4⟩:=H3.cells
    simp only at f0 f1 f2 f3 f4
    obtain ⟨g0,g1,g2,g3,g4⟩:=H5.cells
    simp only at g0 g1 g2 g3 g4
    go_wp2_with fail
    clear hbb hss
    cases htk:treeOk tx with
    | true =>
     have hsame:TrX.tre ⟨.slice amy nmy cmy,.slice ayy nyy cyy,.slice aoy noy coy,.slice asy nsy csy,my,yy,oy,qy,sy⟩=TrX.tre ⟨.slice amx nmx cmx,.slice ayx nyx cyx,.slice aox nox cox,.slice asx nsx csx,mx,yx,ox,qx,sx⟩:=by
      rw [HYT.out,← HTX.out]
      unfold wroteR
      have h1:=HIS.out
      unfold wroteO at h1
      rw [htk,Bool.true_and] at h1
      rw [if_pos htk,if_neg (by rw [← h1];simp)]
     refine (likeTree_same ⟨.slice amy nmy cmy,.slice ayy nyy cyy,.slice aoy noy coy,.slice asy nsy csy,my,yy,oy,qy,sy⟩ ⟨.slice amx nmx cmx,.slice ayx nyx cyx,.slice aox nox cox,.slice asx nsx csx,mx,yx,ox,qx,sx⟩ _ H5.rd H3.rd hsame).mono ?_
     rintro e w10 ⟨rfl,b⟩
     clear f0 f1 f2 f3 f4 g0 g1 g2 g3 g4
     replace Q:=Q.on b
     go_wp2
     go_ret
     exact ⟨rfl,Q.bw⟩
    | false =>
     have hzero:TrX.tre ⟨.slice amy nmy cmy,.slice ayy nyy cyy,.slice aoy noy coy,.slice asy nsy csy,my,yy,oy,qy,sy⟩=zeroTr:=by
      rw [HYT.out]
      unfold wroteR
      rw [if_neg (by rw [htk];simp)]
     have HZ:Hid (TrX.tre ⟨.slice amy nmy cmy,.slice ayy nyy cyy,.slice aoy noy coy,.slice asy nsy csy,my,yy,oy,qy,sy⟩=zeroTr):=hzero
     refine (likeTree_nil ⟨.slice amy nmy cmy,.slice ayy nyy cyy,.slice aoy noy coy,.slice asy nsy csy,my,yy,oy,qy,sy⟩ ⟨.slice amx nmx cmx,.slice ayx nyx cyx,.slice aox nox cox,.slice asx nsx csx,mx,yx,ox,qx,sx⟩ _ H5.rd H3.rd hzero).mono ?_
     rintro e w10 ⟨c,rfl,b⟩
     clear f0 f1 f2 f3 f4 g0 g1 g2 g3 g4 hzero
     replace Q:=Q.on b
     replace H5:=H5.on b
     cases c with
     | true =>
      go_wp2
      go_ret
      exact ⟨rfl,Q.bw⟩
     | false =>
      obtain ⟨g0,g1,g2,g3,g4⟩:=H5.cells
      simp only at g0 g1 g2 g3 g4
      go_wp2_with fail
      refine (likeTree_same ⟨.slice amy nmy cmy,.slice ayy nyy cyy,.slice aoy noy coy,.slice asy nsy csy,my,yy,oy,qy,sy⟩ ⟨.slice none 0 0,.slice none 0 0,.slice none 0 0,.slice none 0 0,[],[],[],0,[]⟩ _ H5.rd (rdTr_zero _) HZ.out).mono ?_
      rintro e w11 ⟨rfl,b⟩
      clear g0 g1 g2 g3 g4
      replace Q:=Q.on b
      go_wp2
      go_ret
      exact ⟨rfl,Q.bw⟩
  | true =>
   have HO:Hid (TreeP tx∧roomFor tx xs=true):=by
    have h1:=HIS.out
    unfold wroteO at h1
    have h2:=Bool.and_eq_true_iff.1 h1.symm
    exact ⟨(treeOk_iff _).1 h2.1,h2.2⟩
   have HP:Hid (TrX.tre ⟨.slice amy nmy cmy,.slice ayy nyy cyy,.slice aoy noy coy,.slice asy nsy csy,my,yy,oy,qy,sy⟩=putAll tx xs):=by
    have:=HYT.out
    unfold wroteR at this
    rwa [if_pos ((treeOk_iff _).2 HO.out.1),if_pos HO.out.2] at this
   have HR:Hid (xs.all wriOk=true∧tx.seq+(xs.length:Int)≤1000000∧tx.mem.length+xs.length≤300):=roomFor_parts HO.out.2
   have HTY:Hid (TreeP (TrX.tre ⟨.slice amy nmy cmy,.slice ayy nyy cyy,.slice aoy noy coy,.slice asy nsy csy,my,yy,oy,qy,sy⟩)):=by
    unfold Hid
    rw [HP.out]
    exact putAll_tree HO.out.1 HR.out.1 HR.out.2.1 HR.out.2.2
   have hq1:qx=tx.seq:=by rw [HTX.out];rfl
   have hq2:qy=qx+(xs.length:Int):=by
    have:=congrArg Tre.seq HP.out
    rw [putAll_seq,← hq1] at this
    exact this
   have hq3:0≤qx:=by rw [hq1];exact HO.out.1.seq0
   have hq4:qx+(xs.length:Int)≤1000000:=by rw [hq1];exact HR.out.2.1
   have HQ1:Hid (qx=tx.seq):=hq1
   have HFY:Hid (FitTr ⟨.slice amy nmy cmy,.slice ayy nyy cyy,.slice aoy noy coy,.slice asy nsy csy,my,yy,oy,qy,sy⟩):=treeP_fit HTY.out
   subst hq2
   clear hq1 HYT HIS
   obtain ⟨g0,g1,g2,g3,g4⟩:=H5.cells
   simp only at g0 g1 g2 g3 g4
   go_wp2_with fail
   refine (implTreeOk_any ⟨.slice amy nmy cmy,.slice ayy nyy cyy,.slice aoy noy coy,.slice asy nsy csy,my,yy,oy,(qx+(xs.length:Int)),sy⟩ _ H5.rd HFY.out).mono ?_
   rw [(treeOk_iff _).2 HTY.out]
   rintro e w10 ⟨rfl,b⟩
   clear g0 g1 g2 g3 g4
   replace Q:=Q.on b
   replace H3:=H3.on b
   replace H5:=H5.on b
   clear b hbb hss
   obtain ⟨g0,g1,g2,g3,g4⟩:=H5.cells
   simp only at g0 g1 g2 g3 g4
   obtain ⟨f0,f1,f2,f3,f4⟩:=H3.cells
   simp only at f0 f1 f2 f3 f4
   have hnn:((qx+(xs.length:Int)) != (qx+(xs.length:Int)))=false:=by simp
   obtain ⟨b13,hb13⟩:∃ b,b=w10.heap.size:=⟨_,rfl⟩
   obtain ⟨W10,hW10⟩:∃ W,W=w10.alloc (.cells #[.string ⟨#[97]⟩,.string ⟨#[97,98]⟩,.string ⟨#[97,98,99]⟩,.string ⟨#[98]⟩,.string ⟨#[98,97]⟩,.string ⟨#[122]⟩,.string ⟨#[107]⟩] 9):=⟨_,rfl⟩
   have rk:RdS W10 (.slice (some ⟨b13,0,none⟩) 7 7) [⟨#[97]⟩,⟨#[97,98]⟩,⟨#[97,98,99]⟩,⟨#[98]⟩,⟨#[98,97]⟩,⟨#[122]⟩,⟨#[107]⟩]:=by rw [hW10,hb13];exact rdS_lit w10 [⟨#[97]⟩,⟨#[97,98]⟩,⟨#[97,98,99]⟩,⟨#[98]⟩,⟨#[98,97]⟩,⟨#[122]⟩,⟨#[107]⟩] _ (by decide)
   have bb:Below w10.heap.size w10 W10:=by rw [hW10];exact below1 w10 _
   have HB:Hid (w10.heap.size=b13):=hb13.symm
   have HWW:Hid (w10.alloc (.cells #[.string ⟨#[97]⟩,.string ⟨#[97,98]⟩,.string ⟨#[97,98,99]⟩,.string ⟨#[98]⟩,.string ⟨#[98,97]⟩,.string ⟨#[122]⟩,.string ⟨#[107]⟩] 9)=W10):=hW10.symm
   replace Q:=Q.on bb
   replace H3:=H3.on bb
   replace H5:=H5.on bb
   clear bb hb13 hW10
   obtain ⟨kys,hkys⟩:∃ ks:List ByteArray,ks=[⟨#[97]⟩,⟨#[97,98]⟩,⟨#[97,98,99]⟩,⟨#[98]⟩,⟨#[98,97]⟩,⟨#[122]⟩,⟨#[107]⟩]:=⟨_,rfl⟩
   have hkl:kys.length=7:=by rw [hkys];rfl
   rw [← hkys] at rk
   clear hkys
   go_wp2_with fail
   rw [HWW.out,HB.out]
   clear f0 f1 f2 f3 f4 g0 g1 g2 g3 g4 HWW HB hnn
   go_loopw [115] (fun ii W=>∃ k:Nat,k≤7∧ii=.int .i64 k∧Hid (QT w W (.slice ab xs.length cb) xs)∧Hid (BoxedT W b3 ⟨.slice amx nmx cmx,.slice ayx nyx cyx,.slice aox nox cox,.slice asx nsx csx,mx,yx,ox,qx,sx⟩)∧Hid (BoxedT W b5 ⟨.slice amy nmy cmy,.slice ayy nyy cyy,.slice aoy noy coy,.slice asy nsy csy,my,yy,oy,(qx+(xs.length:Int)),sy⟩)∧Hid (RdS W (.slice (some ⟨b13,0,none⟩) 7 7) kys)) (fun ii _=>7 - (intOf ii).toNat)
   case atStart=>exact ⟨0,by omega,rfl,Q,H3,H5,rk⟩
   case round =>
    obtain ⟨k,hk7,rfl,HQ,H3h,H5h,HK⟩:=hrel
    clear Q H3 H5 rk
    have Q:=HQ.out
    have H3:=H3h.out
    have H5:=H5h.out
    have rk:=HK.out
    clear HQ H3h H5h HK
    by_cases hlt:k < 7
    ·obtain ⟨key,hc⟩:∃ key,wr.cell? ⟨b13,k,none⟩=some (.string key):=by
      obtain ⟨b,off,e,hc⟩:=rdS_at rk k (by omega)
      injection e with e1
      injection e1 with e2 e3
      subst e2
      subst e3
      exact ⟨_,by rw [Nat.zero_add] at hc;exact hc⟩
     obtain ⟨o0,ho0⟩:∃ o,o=readT (TrX.tre ⟨.slice amx nmx cmx,.slice ayx nyx cyx,.slice aox nox cox,.slice asx nsx csx,mx,yx,ox,qx,sx⟩) key qx:=⟨_,rfl⟩
     have HO0:Hid (o0=readT (TrX.tre ⟨.slice amx nmx cmx,.slice ayx nyx cyx,.slice aox nox cox,.slice asx nsx csx,mx,yx,ox,qx,sx⟩) key qx):=ho0
     have HTL:Hid (Tells (readT (TrX.tre ⟨.slice amy nmy cmy,.slice ayy nyy cyy,.slice aoy noy coy,.slice asy nsy csy,my,yy,oy,(qx+(xs.length:Int)),sy⟩) key (qx+(xs.length:Int))) (tellN key (told o0) xs xs.length)∧readT (TrX.tre ⟨.slice amy nmy cmy,.slice ayy nyy cyy,.slice aoy noy coy,.slice asy nsy csy,my,yy,oy,(qx+(xs.length:Int)),sy⟩) key qx=o0):=by
      have h1:=putAll_tells HO.out.1 HR.out.1 HR.out.2.1 HR.out.2.2 key xs.length (Nat.le_refl _)
      rw [List.take_length,← HP.out,← HQ1.out] at h1
      rw [HTX.out] at h1
      rw [← ho0] at h1
      exact h1
     clear ho0
     obtain ⟨f0,f1,f2,f3,f4⟩:=H3.cells
     simp only at f0 f1 f2 f3 f4
     go_wp2_with fail
     clear f0 f1 f2 f3 f4 hc
     refine (specRead_any ⟨.slice amx nmx cmx,.slice ayx nyx cyx,.slice aox nox cox,.slice asx nsx csx,mx,yx,ox,qx,sx⟩ key qx _ H3.rd HF.out).mono ?_
     rw [← HO0.out]
     rintro e wA ⟨rfl,b⟩
     replace Q:=Q.on b
     replace H3:=H3.on b
     replace H5:=H5.on b
     replace rk:=rk.below b
     clear b
     obtain ⟨S0,hS0⟩:∃ S,S=o0.getD ⟨#[]⟩:=⟨_,rfl⟩
     obtain ⟨B0,hB0⟩:∃ B,B=o0.isSome:=⟨_,rfl⟩
     rw [← hS0,← hB0]
     have H0:Hid (told o0=(S0,B0)):=by rw [hS0,hB0];rfl
     have HSB:Hid (S0=o0.getD ⟨#[]⟩∧B0=o0.isSome):=⟨hS0,hB0⟩
     clear hS0 hB0
     go_wp2_with fail
     go_loopw [18,19,20] (fun ss bb jj W=>∃ (j:Nat) (S:ByteArray) (B:Bool),j≤xs.length∧jj=.int .i64 j∧ss=.string S∧bb=.bool B∧Hid (tellN key (S0,B0) xs j=(S,B))∧Hid (QT w W (.slice ab xs.length cb) xs)∧Hid (BoxedT W b3 ⟨.slice amx nmx cmx,.slice ayx nyx cyx,.slice aox nox cox,.slice asx nsx csx,mx,yx,ox,qx,sx⟩)∧Hid (BoxedT W b5 ⟨.slice amy nmy cmy,.slice ayy nyy cyy,.slice aoy noy coy,.slice asy nsy csy,my,yy,oy,(qx+(xs.length:Int)),sy⟩)∧Hid (RdS W (.slice (some ⟨b13,0,none⟩) 7 7) kys)) (fun _ _ jj _=>xs.length - (intOf jj).toNat)
     case atStart=>exact ⟨0,S0,B0,Nat.zero_le _,rfl,rfl,rfl,tellN_zero _ _ _,Q,H3,H5,rk⟩
     case round =>
      obtain ⟨j,S,B,hj,rfl,rfl,rfl,HT,HQ,H3h,H5h,HK⟩:=hrel
      clear Q H3 H5 rk
      by_cases hjl:j < xs.length
      ·obtain ⟨b4,o4,rfl,hw0,hw1,hw2⟩:=HQ.out.bt.at rfl j hjl
       have HM:=tellN_more (k:=key) (s:=(S0,B0)) hjl
       rw [HT.out] at HM
       generalize nthW xs j=x at hw0 hw1 hw2 HM
       clear HT
       have KB:=beq_kEq x.key key
       cases hke:kEq x.key key with
       | true =>
        rw [hke] at KB
        have HM2:Hid (tellN key (S0,B0) xs (j+1)=(x.val,!x.gone)):=by
         unfold Hid
         rw [HM]
         unfold tellW
         rw [if_pos hke]
        clear HM hke
        go_wp2
        go_roundw
        case rel=>exact ⟨j+1,_,_,by omega,by go_num,rfl,rfl,HM2,HQ,H3h,H5h,HK⟩
        case measure=>simp [intOf];omega
       | false =>
        rw [hke] at KB
        have HM2:Hid (tellN key (S0,B0) xs (j+1)=(S,B)):=by
         unfold Hid
         rw [HM]
         unfold tellW
         rw [if_neg (by rw [hke];simp)]
        clear HM hke
        go_wp2
        go_roundw
        case rel=>exact ⟨j+1,_,_,by omega,by go_num,rfl,rfl,HM2,HQ,H3h,H5h,HK⟩
        case measure=>simp [intOf];omega
      ·have hje:j=xs.length:=by omega
       subst hje
       have Q:=HQ.out
       have H3:=H3h.out
       have H5:=H5h.out
       have rk:=HK.out
       clear HQ H3h H5h HK
       have HTT:Hid (Tells (readT (TrX.tre ⟨.slice amy nmy cmy,.slice ayy nyy cyy,.slice aoy noy coy,.slice asy nsy csy,my,yy,oy,(qx+(xs.length:Int)),sy⟩) key (qx+(xs.length:Int))) (S,B)):=by
        have:=HTL.out.1
        rwa [H0.out,HT.out] at this
       clear HT
       obtain ⟨g0,g1,g2,g3,g4⟩:=H5.cells
       simp only at g0 g1 g2 g3 g4
       go_wp2_with fail
       clear g0 g1 g2 g3 g4
       obtain ⟨o1,ho1⟩:∃ o,o=readT (TrX.tre ⟨.slice amy nmy cmy,.slice ayy nyy cyy,.slice aoy noy coy,.slice asy nsy csy,my,yy,oy,(qx+(xs.length:Int)),sy⟩) key (qx+(xs.length:Int)):=⟨_,rfl⟩
       refine (implRead_any ⟨.slice amy nmy cmy,.slice ayy nyy cyy,.slice aoy noy coy,.slice asy nsy csy,my,yy,oy,(qx+(xs.length:Int)),sy⟩ key (qx+(xs.length:Int)) _ H5.rd HFY.out).mono ?_
       rw [← ho1]
       have ht1:=HTT.out
       rw [← ho1] at ht1
       clear ho1 HTT
       obtain ⟨S1,hS1⟩:∃ S,S=o1.getD ⟨#[]⟩:=⟨_,rfl⟩
       obtain ⟨hB1,hS2⟩:=ht1
       rintro e wB ⟨rfl,b⟩
       rw [hB1,← hS1]
       rw [← hS1] at hS2
       have HS2:Hid (B=true→S1=S):=hS2
       clear hS1 hB1 hS2
       replace Q:=Q.on b
       replace H3:=H3.on b
       replace H5:=H5.on b
       replace rk:=rk.below b
       clear b
       obtain ⟨g0,g1,g2,g3,g4⟩:=H5.cells
       simp only at g0 g1 g2 g3 g4
       obtain ⟨f0,f1,f2,f3,f4⟩:=H3.cells
       simp only at f0 f1 f2 f3 f4
       go_wp2_with fail
       clear g0 g1 g2 g3 g4 f0 f1 f2 f3 f4
       refine (implRead_any ⟨.slice amy nmy cmy,.slice ayy nyy cyy,.slice aoy noy coy,.slice asy nsy csy,my,yy,oy,(qx+(xs.length:Int)),sy⟩ key qx _ H5.rd HFY.out).mono ?_
       rw [HTL.out.2]
       rintro e wC ⟨rfl,b⟩
       rw [← HSB.out.1,← HSB.out.2]
       replace Q:=Q.on b
       replace H3:=H3.on b
       replace H5:=H5.on b
       replace rk:=rk.below b
       clear b
       obtain ⟨f0,f1,f2,f3,f4⟩:=H3.cells
       simp only at f0 f1 f2 f3 f4
       go_wp2_with fail
       clear f0 f1 f2 f3 f4
       refine (specRead_any ⟨.slice amx nmx cmx,.slice ayx nyx cyx,.slice aox nox cox,.slice asx nsx csx,mx,yx,ox,qx,sx⟩ key qx _ H3.rd HF.out).mono ?_
       rw [← HO0.out]
       rintro e wD ⟨rfl,b⟩
       rw [← HSB.out.1,← HSB.out.2]
       replace Q:=Q.on b
       replace H3:=H3.on b
       replace H5:=H5.on b
       replace rk:=rk.below b
       clear b HTL HO0 HSB H0
       have e1:(B0 != B0)=false:=by cases B0<;>rfl
       have e2:(!S0.toList == S0.toList)=false:=by simp
       cases B with
       | false =>
        go_wp2
        go_roundw
        case rel=>exact ⟨k+1,by omega,by go_num,Q,H3,H5,rk⟩
        case measure=>simp [intOf];omega
       | true =>
        obtain rfl:=HS2.out rfl
        have e3:(!S1.toList == S1.toList)=false:=by simp
        go_wp2
        go_roundw
        case rel=>exact ⟨k+1,by omega,by go_num,Q,H3,H5,rk⟩
        case measure=>simp [intOf];omega
    ·have hke:k=7:=by omega
     subst hke
     go_wp2
     go_ret
     exact ⟨rfl,Q.bw⟩
end Go.Proofs.YtmlmlemiidedcaaGreat
