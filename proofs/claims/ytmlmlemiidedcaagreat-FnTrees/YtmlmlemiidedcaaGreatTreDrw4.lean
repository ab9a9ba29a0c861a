import Derived.Test.YtmlmlemiidedcaaGreatDrawAny
import Derived.Test.YtmlmlemiidedcaaGreatG41
namespace Go.Proofs.YtmlmlemiidedcaaGreat
set_option maxHeartbeats 16000000
set_option maxRecDepth 100000
open Go.RowKit
theorem ownI_gT {w w':World} {B g:Nat} {v:Value} {ns:List Int} (h:OwnI w B v ns) (hg:w.grownBy w' (some g)) (hB:g < B):OwnI w' B v ns :=
 row_kept h hg (fun k hk e=>by have:=(World.ownsRow.lt h k hk).1;simp at e;omega)
theorem ta_size {w0 w W:World} {g b3:Nat} {X:TrX} (h:TA w0 w W g b3 X) (hb3:w.heap.size < b3):w.heap.size+1≤W.heap.size:=by have:=h.box.lt;omega
theorem step_ints5 {w:World} {ops:Array Oper} {o:Oper} {a:Act} {K:Act→World→Prop} {Q:Exit→Act→World→Prop} {E:Prop} (hgd:o.guard=none) (d:Nat) (hd:o.dst=some d) (x0 x1 x2 x3 x4:Int)
 (hrun:(execOp a.eval o).run Tryz.prog w=.ok (.value (.slice (some ⟨w.heap.size,0,none⟩) 5 5)) (w.alloc (.cells #[.int .i64 x0,.int .i64 x1,.int .i64 x2,.int .i64 x3,.int .i64 x4] 2)))
 (h:∀ b W',Below w.heap.size w W'→OwnI W' w.heap.size (.slice (some ⟨b,0,none⟩) 5 5) [x0,x1,x2,x3,x4]→K (a.put (some d) (.slice (some ⟨b,0,none⟩) 5 5)) W') :
 if Region.wanted o (yielded ops a.tmps)=true then Oper.wp Tryz.prog o a w K Q else E:=by
 have hw:Region.wanted o (yielded ops a.tmps)=true:=by simp [Region.wanted,hgd]
 rw [if_pos hw]
 have h':=h w.heap.size _ (below1 w _) (World.ownsRow_lit w #[.int .i64 x0,.int .i64 x1,.int .i64 x2,.int .i64 x3,.int .i64 x4] 5 (Nat.le_refl _) (by unfold maxLen;omega) (by simp))
 rw [← hd] at h'
 unfold Oper.wp
 rw [hrun]
 exact h'
def TreAD (w0 w:World) (g:Nat) (e:Ending) (w':World):Prop :=
 ∃ X:TrX,e=.returned (.agg #[X.vm,X.vy,X.vo,.int .i64 X.seq,X.vs])∧(∀ bs W,(∀ k∈bs,k < w.heap.size)→Touch bs w' W→RdTr W X)∧FitTr X∧NilOk X.vy∧NilOk X.vo∧X.snaps.length≤7∧DCur w0 w' g∧w.grownBy w' (some g)
theorem TZ.fin {w0 w W:World} {g b3:Nat} {X:TrX} (h:TZ w0 w W g b3 X) (hgw:g < w.heap.size) (_:w.heap.size < b3) :
 TreAD w0 w g (.returned (.agg #[X.vm,X.vy,X.vo,.int .i64 X.seq,X.vs])) (put5 W w.heap.size X.vm X.vy X.vo (.int .i64 X.seq) X.vs):=by
 have ht:Touch [w.heap.size] W (put5 W w.heap.size X.vm X.vy X.vo (.int .i64 X.seq) X.vs):=touch_put5
 refine ⟨X,rfl,fun bs W' hbs hg=>h.st (w.heap.size::bs) W' (fun k hk=>by rcases List.mem_cons.1 hk with rfl | hk;exact .inl (Nat.le_refl _);exact .inl (Nat.le_of_lt (hbs k hk))) ((ht.more (by simp)).trans (hg.more (fun k hk=>List.mem_cons_of_mem _ hk))),h.fit,h.ny,h.no,h.few,h.dc.grow (touch_gr ht) (fun k hk=>by have:=Option.some.inj hk;omega),gr_young h.gr (touch_gr ht) (fun k hk=>by have:=Option.some.inj hk;omega)⟩
theorem l7DrawAny_any (w0 w:World) (g:Nat) (h:DCur w0 w g) :
 Calls Tryz.prog 33 #[.pointer (some ⟨g,0,none⟩)] w fun e w'=>TreAD w0 w g e w':=by
 have hlt:=h.lt
 have zr:=boxTr_new w (.slice none 0 0) (.slice none 0 0) (.slice none 0 0) (.slice none 0 0) 0
 obtain ⟨W0,hW0⟩:∃ W0,W0=w.alloc (.cells #[.slice none 0 0,.slice none 0 0,.slice none 0 0,.int .i64 0,.slice none 0 0] 28):=⟨_,rfl⟩
 have b0:Below w.heap.size w W0:=by rw [hW0];exact below1 w _
 have s0:W0.heap.size=w.heap.size+1:=by rw [hW0];simp
 have HW0:Hid (w.alloc (.cells #[.slice none 0 0,.slice none 0 0,.slice none 0 0,.int .i64 0,.slice none 0 0] 28)=W0):=hW0.symm
 rw [← hW0] at zr
 have dc0:=h.below b0
 have HGW:Hid (g < w.heap.size):=hlt
 clear hW0 h
 go_enter Tryz.func33,Tryz.ntmps33
 go_wp2_with fail
 rw [HW0.out]
 refine (l7Draw_any w0 W0 g true dc0).mono ?_
 rintro e w1 ⟨X,rfl,hrow,htp,hfew,hap,dc1,hg1⟩
 rw [s0] at hrow
 obtain ⟨am,ay,ao,an,mn,yn,on,nn,cm,cy,co,cn,v0,v1,v2,v3⟩:=hrow.rd.slices
 obtain ⟨vm4,vy4,vo4,vs4,mem4,ys4,os4,seq4,snaps4⟩:=X
 simp only at v0 v1 v2 v3
 subst v0
 subst v1
 subst v2
 subst v3
 obtain ⟨b3,hb3⟩:∃ b3,b3=w1.heap.size:=⟨_,rfl⟩
 have HB3:Hid (w.heap.size < b3):=by unfold Hid;have:=hg1.size;omega
 have HLO:Hid (w.heap.size+1≤w.heap.size+1):=Nat.le_refl _
 have bb1:=below1 w1 (.cells #[.slice am mn cm,.slice ay yn cy,.slice ao on co,.int .i64 seq4,.slice an nn cn] 28)
 have ta1:TA w0 w (w1.alloc (.cells #[.slice am mn cm,.slice ay yn cy,.slice ao on co,.int .i64 seq4,.slice an nn cn] 28)) g b3 ⟨.slice am mn cm,.slice ay yn cy,.slice ao on co,.slice an nn cn,mem4,ys4,os4,seq4,snaps4⟩ :=
  ⟨by rw [hb3];exact boxTr_new w1 _ _ _ _ _,hrow.below bb1,htp,hfew,hap,dc1.below bb1,gr_below (gr_trans (gr_of_belowT g b0) hg1) bb1,(BoxTr.on ((hg1.block w.heap.size zr.lt (fun e=>by simp at e;omega)).trans zr:BoxTr w1 w.heap.size _ _ _ _ _) bb1)⟩
 have HB3E:Hid (w1.heap.size=b3):=hb3.symm
 clear hb3 bb1 hrow htp hfew hap dc1 hg1 dc0 zr b0
 go_wp2_with fail
 rw [HB3E.out]
 revert ta1
 generalize w1.alloc (.cells #[.slice am mn cm,.slice ay yn cy,.slice ao on co,.int .i64 seq4,.slice an nn cn] 28)=W1
 intro ta1
 clear HB3E HW0 s0
 refine (l1Once_any w0 _ g 12 ta1.dc (by omega) (by omega)).mono ?_
 rintro e w3 ⟨bb,rfl,dc3,hg3⟩
 have ta3:=ta1.draw hg3 dc3 HGW.out HB3.out
 clear ta1 dc3 hg3
 cases bb with
 | false =>
  have tz:=ta3.z
  clear ta3
  obtain ⟨y0,y1,y2,y3,y4,g0,g1,g2,g3,g4⟩:=tz.box.facts
  obtain ⟨m0,m1,m2,m3,m4,n0,n1,n2,n3,n4⟩:=tz.res.facts
  have hzF:=boxTr_put5 tz.res (.slice am mn cm) (.slice ay yn cy) (.slice ao on co) (.slice an nn cn) (seq4)
  obtain ⟨f0,f1,f2,f3,f4,-⟩:=hzF.facts
  have END:Hid (TreAD _ _ _ _ _):=tz.fin HGW.out HB3.out
  simp only at y0 y1 y2 y3 y4
  unfold put5 at f0 f1 f2 f3 f4 END
  clear tz hzF
  go_wp2
  exact bodyPost_ret (v:=.agg #[.slice am mn cm,.slice ay yn cy,.slice ao on co,.int .i64 (seq4),.slice an nn cn]) (by simp [results,Tryz.results33,go_sem,f0,f1,f2,f3,f4]) rfl END.out
 | true =>
  go_wp2_with fail
  refine (l1Below_any w0 _ g 5 ta3.dc (by omega) (by omega)).mono ?_
  rintro e w4 ⟨y,rfl,hy0,hy1,dc4,hg4⟩
  have ta:=ta3.draw hg4 dc4 HGW.out HB3.out
  clear ta3 dc4 hg4 w3
  by_cases h0:y=0
  ·subst h0
   have hsq : -9223372036854775808≤seq4 - 1∧seq4 - 1≤9223372036854775807:=by have h1:=ta.tree.seq0;have h2:=ta.tree.seq1;simp only [TrX.tre] at h1 h2;omega
   have hwq:IntKind.i64.wrap (seq4 - 1)=seq4 - 1:=by rw [IntKind.wrap_i64];omega
   go_wp2_with fail
   refine wp_region_noPanic ?_
   refine wp_region_held_drew (S:=fun _=>True) (by kernel_rfl) trivial (fun hS=>?_)
   replace ta:TA w0 w w4.drew g b3 ⟨.slice am mn cm,.slice ay yn cy,.slice ao on co,.slice an nn cn,mem4,ys4,os4,seq4,snaps4⟩:=ta.below ((Below.refl _ _).drew)
   revert hS ta
   generalize w4.drew=V
   intro hS ta
   clear w4
   refine kG 0 12 hS ?_
   refine kG 4 16 hS ?_
   refine wpAnyH_ready (rs:=[1,5]) (by kernel_rfl) (by simp) ?_
   refine AllReadyH.cons rfl (fun K hK=>?_) ?_
   obtain ⟨y0,y1,y2,y3,y4,g0,g1,g2,g3,g4⟩:=ta.box.facts
   simp only at y0 y1 y2 y3 y4
   go_simp
   clear y0 y1 y2 y3 y4 g0 g1 g2 g3 g4 hS
   refine hK.out _ _ trivial (fun hS=>?_)
   clear hK K
   try simp only [sA,sZ,sS]
   refine kG 2 14 hS ?_
   clear hS
   refine listed_as7 (l':=#[true,true,true,false,true,false,false,false,false,false]) (by kernel_rfl) ?_
   revert ta
   revert V
   refine ?qa1
   rotate_left 1
   refine AllReadyH.cons rfl (fun K hK=>?_) AllReadyH.nil
   go_simp
   refine (l1Below_any w0 _ g 5 ta.dc (by omega) (by omega)).mono ?_
   rintro e V1 ⟨x,rfl,hx0,hx1,dc1,hg⟩
   obtain ⟨j,rfl⟩:=Int.eq_ofNat_of_zero_le hx0
   have hj:j < 5:=by omega
   replace ta:=ta.draw hg dc1 HGW.out HB3.out
   clear hg dc1 hS hx0 hx1
   refine hK.out _ _ trivial (fun hS=>?_)
   clear hK K
   try simp only [sA,sZ,sS]
   clear hS
   refine listed_as7 (l':=#[true,false,false,false,true,true,false,false,false,false]) (by kernel_rfl) ?_
   revert hj
   revert ta
   revert j
   revert V1
   clear V
   refine ?qa5
   rotate_left 1
   intro V0 ta
   have hS:(fun _:World=>True) V0:=trivial
   refine wpAnyH_ready (rs:=[3,5]) (by kernel_rfl) (by simp) ?_
   refine AllReadyH.cons rfl (fun K hK=>?_) ?_
   refine step_ints5 rfl 15 rfl (-1) 0 (seq4 - 1) 1000000 1000001 (by go_simp;(try rfl)) ?_
   intro vz V1 hm ho
   replace ho:OwnI V1 (w.heap.size+1) (.slice (some ⟨vz,0,none⟩) 5 5) [-1,0,seq4 - 1,1000000,1000001]:=ho.mono (Nat.le_trans HLO.out (ta_size ta HB3.out))
   replace ta:=ta.below hm
   clear hm hS
   refine hK.out _ _ trivial (fun hS=>?_)
   clear hK K
   try simp only [sA,sZ,sS]
   clear hS
   refine listed_as7 (l':=#[true,true,true,true,true,false,false,false,false,false]) (by kernel_rfl) ?_
   revert ho
   revert ta
   revert vz
   revert V1
   clear V0
   refine ?qa13
   rotate_left 1
   refine AllReadyH.cons rfl (fun K hK=>?_) AllReadyH.nil
   go_simp
   refine (l1Below_any w0 _ g 5 ta.dc (by omega) (by omega)).mono ?_
   rintro e V1 ⟨x,rfl,hx0,hx1,dc1,hg⟩
   obtain ⟨j,rfl⟩:=Int.eq_ofNat_of_zero_le hx0
   have hj:j < 5:=by omega
   replace ta:=ta.draw hg dc1 HGW.out HB3.out
   clear hg dc1 hS hx0 hx1
   refine hK.out _ _ trivial (fun hS=>?_)
   clear hK K
   try simp only [sA,sZ,sS]
   clear hS
   refine listed_as7 (l':=#[true,true,true,false,true,true,false,false,false,false]) (by kernel_rfl) ?_
   revert hj
   revert ta
   revert j
   revert V1
   clear V0
   refine ?qa15
   rotate_left 1
   intro V0 j ta hj
   have hS:(fun _:World=>True) V0:=trivial
   refine wpAnyH_ready (rs:=[1]) (by kernel_rfl) (by simp) ?_
   refine AllReadyH.cons rfl (fun K hK=>?_) AllReadyH.nil
   obtain ⟨y0,y1,y2,y3,y4,g0,g1,g2,g3,g4⟩:=ta.box.facts
   simp only at y0 y1 y2 y3 y4
   go_simp
   clear y0 y1 y2 y3 y4 g0 g1 g2 g3 g4 hS
   refine hK.out _ _ trivial (fun hS=>?_)
   clear hK K
   try simp only [sA,sZ,sS]
   refine kG 2 14 hS ?_
   clear hS
   refine listed_as7 (l':=#[true,true,true,false,true,true,false,false,false,false]) (by kernel_rfl) ?_
   revert hj
   revert ta
   revert j
   revert V0
   exact ?qa15
   intro V0 vz ta ho
   have hS:(fun _:World=>True) V0:=trivial
   refine wpAnyH_ready (rs:=[5]) (by kernel_rfl) (by simp) ?_
   refine AllReadyH.cons rfl (fun K hK=>?_) AllReadyH.nil
   go_simp
   refine (l1Below_any w0 _ g 5 ta.dc (by omega) (by omega)).mono ?_
   rintro e V1 ⟨x,rfl,hx0,hx1,dc1,hg⟩
   obtain ⟨j,rfl⟩:=Int.eq_ofNat_of_zero_le hx0
   have hj:j < 5:=by omega
   replace ho:=ownI_gT ho hg (by have:=HGW.out;omega)
   replace ta:=ta.draw hg dc1 HGW.out HB3.out
   clear hg dc1 hS hx0 hx1
   refine hK.out _ _ trivial (fun hS=>?_)
   clear hK K
   try simp only [sA,sZ,sS]
   clear hS
   refine listed_as7 (l':=#[true,true,true,true,true,true,false,false,false,false]) (by kernel_rfl) ?_
   revert hj
   revert ho
   revert ta
   revert j
   revert vz
   revert V1
   clear V0
   refine ?qa135
   rotate_left 1
   intro V0 j ta hj
   have hS:(fun _:World=>True) V0:=trivial
   refine wpAnyH_ready (rs:=[3]) (by kernel_rfl) (by simp) ?_
   refine AllReadyH.cons rfl (fun K hK=>?_) AllReadyH.nil
   refine step_ints5 rfl 15 rfl (-1) 0 (seq4 - 1) 1000000 1000001 (by go_simp;(try rfl)) ?_
   intro vz V1 hm ho
   replace ho:OwnI V1 (w.heap.size+1) (.slice (some ⟨vz,0,none⟩) 5 5) [-1,0,seq4 - 1,1000000,1000001]:=ho.mono (Nat.le_trans HLO.out (ta_size ta HB3.out))
   replace ta:=ta.below hm
   clear hm hS
   refine hK.out _ _ trivial (fun hS=>?_)
   clear hK K
   try simp only [sA,sZ,sS]
   clear hS
   refine listed_as7 (l':=#[true,true,true,true,true,true,false,false,false,false]) (by kernel_rfl) ?_
   revert hj
   revert ho
   revert ta
   revert j
   revert vz
   revert V1
   clear V0
   exact ?qa135
   intro V0 vz j ta ho hj
   have hS:(fun _:World=>True) V0:=trivial
   have hji:(j:Int) < 5:=by omega
   refine kG 6 18 hS ?_
   have hz:=own_int_at ho rfl j hj
   obtain ⟨z,HZ⟩:∃ z,Hid (z=([-1,0,seq4 - 1,1000000,1000001]:List Int).getD j 0):=⟨_,rfl⟩
   rw [← HZ.out] at hz
   refine wpAnyH_ready (rs:=[7]) (by kernel_rfl) (by simp) ?_
   refine AllReadyH.cons rfl (fun K hK=>?_) AllReadyH.nil
   go_simp
   clear hS hz
   refine hK.out _ _ trivial (fun hS=>?_)
   clear hK K
   try simp only [sA,sZ,sS]
   refine kG 8 20 hS ?_
   obtain ⟨y0,y1,y2,y3,y4,g0,g1,g2,g3,g4⟩:=ta.box.facts
   simp only at y0 y1 y2 y3 y4
   refine wpAnyH_ready (rs:=[9]) (by kernel_rfl) (by simp) ?_
   refine AllReadyH.cons rfl (fun K hK=>?_) AllReadyH.nil
   go_simp
   refine hK.out _ _ trivial (fun hS=>?_)
   have tz:=ta.seq z HGW.out HB3.out
   clear hK K hS y0 y1 y2 y3 y4 g0 g1 g2 g3 g4 ho ta HZ
   refine wpAnyH_done (by kernel_rfl) ?_ _
   refine NoPanic.normal ?_
   revert tz
   generalize V0.setCell ⟨b3,3,none⟩ (.int .i64 z)=P
   intro tz
   obtain ⟨y0,y1,y2,y3,y4,g0,g1,g2,g3,g4⟩:=tz.box.facts
   obtain ⟨m0,m1,m2,m3,m4,n0,n1,n2,n3,n4⟩:=tz.res.facts
   have hzF:=boxTr_put5 tz.res (.slice am mn cm) (.slice ay yn cy) (.slice ao on co) (.slice an nn cn) (z)
   obtain ⟨f0,f1,f2,f3,f4,-⟩:=hzF.facts
   have END:Hid (TreAD _ _ _ _ _):=tz.fin HGW.out HB3.out
   simp only at y0 y1 y2 y3 y4
   unfold put5 at f0 f1 f2 f3 f4 END
   clear tz hzF
   go_wp2
   exact bodyPost_ret (v:=.agg #[.slice am mn cm,.slice ay yn cy,.slice ao on co,.int .i64 (z),.slice an nn cn]) (by simp [results,Tryz.results33,go_sem,f0,f1,f2,f3,f4]) rfl END.out
  by_cases h1:y=1
  ·subst h1
   go_wp2_with fail
   refine wp_region_noPanic ?_
   refine wp_region_held_drew (S:=fun _=>True) (by kernel_rfl) trivial (fun hS=>?_)
   replace ta:TA w0 w w4.drew g b3 ⟨.slice am mn cm,.slice ay yn cy,.slice ao on co,.slice an nn cn,mem4,ys4,os4,seq4,snaps4⟩:=ta.below ((Below.refl _ _).drew)
   revert hS ta
   generalize w4.drew=V
   intro hS ta
   clear w4
   refine kG 0 23 hS ?_
   refine kG 2 25 hS ?_
   refine wpAnyH_ready (rs:=[1,3]) (by kernel_rfl) (by simp) ?_
   refine AllReadyH.cons rfl (fun K hK=>?_) ?_
   obtain ⟨y0,y1,y2,y3,y4,g0,g1,g2,g3,g4⟩:=ta.box.facts
   simp only at y0 y1 y2 y3 y4
   go_simp
   clear y0 y1 y2 y3 y4 g0 g1 g2 g3 g4 hS
   refine hK.out _ _ trivial (fun hS=>?_)
   clear hK K
   try simp only [sA,sZ,sS]
   clear hS
   refine listed_as7 (l':=#[true,true,true,false,false,false,false,false]) (by kernel_rfl) ?_
   revert ta
   revert V
   refine ?qb1
   rotate_left 1
   refine AllReadyH.cons rfl (fun K hK=>?_) AllReadyH.nil
   go_simp
   refine (l1From_any w0 _ g (-1) 20 ta.dc (by omega) (by omega) (by omega)).mono ?_
   rintro e V1 ⟨x,rfl,-,-,dc1,hg⟩
   replace ta:=ta.draw hg dc1 HGW.out HB3.out
   clear hg dc1 hS
   refine hK.out _ _ trivial (fun hS=>?_)
   clear hK K
   try simp only [sA,sZ,sS]
   clear hS
   refine listed_as7 (l':=#[true,false,true,true,false,false,false,false]) (by kernel_rfl) ?_
   revert ta
   revert x
   revert V1
   clear V
   refine ?qb3
   rotate_left 1
   intro V0 ta
   have hS:(fun _:World=>True) V0:=trivial
   refine wpAnyH_ready (rs:=[3]) (by kernel_rfl) (by simp) ?_
   refine AllReadyH.cons rfl (fun K hK=>?_) AllReadyH.nil
   go_simp
   refine (l1From_any w0 _ g (-1) 20 ta.dc (by omega) (by omega) (by omega)).mono ?_
   rintro e V1 ⟨x,rfl,-,-,dc1,hg⟩
   replace ta:=ta.draw hg dc1 HGW.out HB3.out
   clear hg dc1 hS
   refine hK.out _ _ trivial (fun hS=>?_)
   clear hK K
   try simp only [sA,sZ,sS]
   clear hS
   refine listed_as7 (l':=#[true,true,true,true,false,false,false,false]) (by kernel_rfl) ?_
   revert ta
   revert x
   revert V1
   clear V0
   refine ?qb13
   rotate_left 1
   intro V0 x ta
   have hS:(fun _:World=>True) V0:=trivial
   refine wpAnyH_ready (rs:=[1,4]) (by kernel_rfl) (by simp) ?_
   refine AllReadyH.cons rfl (fun K hK=>?_) ?_
   obtain ⟨y0,y1,y2,y3,y4,g0,g1,g2,g3,g4⟩:=ta.box.facts
   simp only at y0 y1 y2 y3 y4
   go_simp
   clear y0 y1 y2 y3 y4 g0 g1 g2 g3 g4 hS
   refine hK.out _ _ trivial (fun hS=>?_)
   clear hK K
   try simp only [sA,sZ,sS]
   clear hS
   refine listed_as7 (l':=#[true,true,true,true,false,false,false,false]) (by kernel_rfl) ?_
   revert ta
   revert x
   revert V0
   exact ?qb13
   refine AllReadyH.cons rfl (fun K hK=>?_) AllReadyH.nil
   refine step_row1 rfl 27 rfl (.int .i64 x) 2 (by go_simp;(try rfl)) ?_
   have hm:=below1 V0 (.cells #[.int .i64 x] 2)
   have ho:RdI (V0.alloc (.cells #[.int .i64 x] 2)) (.slice (some ⟨V0.heap.size,0,none⟩) 1 1) [x]:=rdI_new V0 x
   replace ta:=ta.below hm
   obtain ⟨vz,hvz⟩:∃ vz,vz=V0.heap.size:=⟨_,rfl⟩
   rw [← hvz] at ho ⊢
   revert ho
   revert ta
   generalize V0.alloc (.cells #[.int .i64 x] 2)=V1
   intro ta ho
   clear hm hS hvz
   refine hK.out _ _ trivial (fun hS=>?_)
   clear hK K
   try simp only [sA,sZ,sS]
   clear hS
   refine listed_as7 (l':=#[true,false,true,true,true,false,false,false]) (by kernel_rfl) ?_
   revert ho
   revert ta
   revert vz
   revert x
   revert V1
   clear V0
   refine ?qb34
   rotate_left 1
   intro V0 x ta
   have hS:(fun _:World=>True) V0:=trivial
   refine wpAnyH_ready (rs:=[4]) (by kernel_rfl) (by simp) ?_
   refine AllReadyH.cons rfl (fun K hK=>?_) AllReadyH.nil
   refine step_row1 rfl 27 rfl (.int .i64 x) 2 (by go_simp;(try rfl)) ?_
   have hm:=below1 V0 (.cells #[.int .i64 x] 2)
   have ho:RdI (V0.alloc (.cells #[.int .i64 x] 2)) (.slice (some ⟨V0.heap.size,0,none⟩) 1 1) [x]:=rdI_new V0 x
   replace ta:=ta.below hm
   obtain ⟨vz,hvz⟩:∃ vz,vz=V0.heap.size:=⟨_,rfl⟩
   rw [← hvz] at ho ⊢
   revert ho
   revert ta
   generalize V0.alloc (.cells #[.int .i64 x] 2)=V1
   intro ta ho
   clear hm hS hvz
   refine hK.out _ _ trivial (fun hS=>?_)
   clear hK K
   try simp only [sA,sZ,sS]
   clear hS
   refine listed_as7 (l':=#[true,true,true,true,true,false,false,false]) (by kernel_rfl) ?_
   revert ho
   revert ta
   revert vz
   revert x
   revert V1
   clear V0
   refine ?qb134
   rotate_left 1
   intro V0 x vz ta ho
   have hS:(fun _:World=>True) V0:=trivial
   refine wpAnyH_ready (rs:=[1]) (by kernel_rfl) (by simp) ?_
   refine AllReadyH.cons rfl (fun K hK=>?_) AllReadyH.nil
   obtain ⟨y0,y1,y2,y3,y4,g0,g1,g2,g3,g4⟩:=ta.box.facts
   simp only at y0 y1 y2 y3 y4
   go_simp
   clear y0 y1 y2 y3 y4 g0 g1 g2 g3 g4 hS
   refine hK.out _ _ trivial (fun hS=>?_)
   clear hK K
   try simp only [sA,sZ,sS]
   clear hS
   refine listed_as7 (l':=#[true,true,true,true,true,false,false,false]) (by kernel_rfl) ?_
   revert ho
   revert ta
   revert vz
   revert x
   revert V0
   exact ?qb134
   intro V0 x vz ta ho
   have hS:(fun _:World=>True) V0:=trivial
   refine wpAnyH_ready (rs:=[5]) (by kernel_rfl) (by simp) ?_
   refine AllReadyH.cons rfl (fun K hK=>?_) AllReadyH.nil
   refine step_ints_at rfl 28 rfl _ _ rfl (w.heap.size+1) (.slice an nn cn) (.slice (some ⟨vz,0,none⟩) 1 1) snaps4 [x] rfl rfl ta.rows.snaps ho (by have:=ta.few;simp at this;simp;omega) (Nat.le_trans HLO.out (ta_size ta HB3.out)) ?_
   intro v5 V5 ho5 hg5 _
   have tz:=ta.snap hg5 ho5 HGW.out HB3.out
   have zb5:=(ta.after hg5 (fun k hk=>⟨(World.ownsRow.lt ta.rows.snaps k hk).1,box_rowne ta.box ta.rows.snaps (by decide) k hk⟩) HGW.out HB3.out).1
   obtain ⟨a5,c5,hv5,-⟩:=id ho5.rd
   generalize (snaps4++[x]).length=n5 at hv5
   subst hv5
   clear hS ho5 hg5 ho ta
   refine hK.out _ _ trivial (fun hS=>?_)
   clear hK K
   try simp only [sA,sZ,sS]
   refine kG 6 29 hS ?_
   obtain ⟨y0,y1,y2,y3,y4,g0,g1,g2,g3,g4⟩:=zb5.facts
   simp only at y0 y1 y2 y3 y4
   refine wpAnyH_ready (rs:=[7]) (by kernel_rfl) (by simp) ?_
   refine AllReadyH.cons rfl (fun K hK=>?_) AllReadyH.nil
   go_simp
   refine hK.out _ _ trivial (fun hS=>?_)
   clear hK K hS y0 y1 y2 y3 y4 g0 g1 g2 g3 g4 zb5
   refine wpAnyH_done (by kernel_rfl) ?_ _
   refine NoPanic.normal ?_
   revert tz
   generalize V5.setCell ⟨b3,4,none⟩ (.slice a5 n5 c5)=P
   intro tz
   obtain ⟨y0,y1,y2,y3,y4,g0,g1,g2,g3,g4⟩:=tz.box.facts
   obtain ⟨m0,m1,m2,m3,m4,n0,n1,n2,n3,n4⟩:=tz.res.facts
   have hzF:=boxTr_put5 tz.res (.slice am mn cm) (.slice ay yn cy) (.slice ao on co) (.slice a5 n5 c5) (seq4)
   obtain ⟨f0,f1,f2,f3,f4,-⟩:=hzF.facts
   have END:Hid (TreAD _ _ _ _ _):=tz.fin HGW.out HB3.out
   simp only at y0 y1 y2 y3 y4
   unfold put5 at f0 f1 f2 f3 f4 END
   clear tz hzF
   go_wp2
   exact bodyPost_ret (v:=.agg #[.slice am mn cm,.slice ay yn cy,.slice ao on co,.int .i64 (seq4),.slice a5 n5 c5]) (by simp [results,Tryz.results33,go_sem,f0,f1,f2,f3,f4]) rfl END.out
  by_cases h2:y=2
  ·subst h2
   go_wp2_with fail
   refine wp_region_noPanic ?_
   refine wp_region_held_drew (S:=fun _=>True) (by kernel_rfl) trivial (fun hS=>?_)
   replace ta:TA w0 w w4.drew g b3 ⟨.slice am mn cm,.slice ay yn cy,.slice ao on co,.slice an nn cn,mem4,ys4,os4,seq4,snaps4⟩:=ta.below ((Below.refl _ _).drew)
   revert hS ta
   generalize w4.drew=V
   intro hS ta
   clear w4
   refine kG 0 32 hS ?_
   refine kG 2 34 hS ?_
   refine wpAnyH_ready (rs:=[1,3]) (by kernel_rfl) (by simp) ?_
   refine AllReadyH.cons rfl (fun K hK=>?_) ?_
   obtain ⟨y0,y1,y2,y3,y4,g0,g1,g2,g3,g4⟩:=ta.box.facts
   simp only at y0 y1 y2 y3 y4
   go_simp
   clear y0 y1 y2 y3 y4 g0 g1 g2 g3 g4 hS
   refine hK.out _ _ trivial (fun hS=>?_)
   clear hK K
   try simp only [sA,sZ,sS]
   clear hS
   refine listed_as7 (l':=#[true,true,true,false,false,false,false,false]) (by kernel_rfl) ?_
   revert ta
   revert V
   refine ?qc1
   rotate_left 1
   refine AllReadyH.cons rfl (fun K hK=>?_) AllReadyH.nil
   go_simp
   refine (l5DrawAny_any w0 _ g ta.dc).mono ?_
   rintro e V1 ⟨TB,vb,vk,rfl,hbI,hkS,hsm,dc1,hg⟩
   obtain ⟨ab,cb,hvb⟩:=own_sliceT hbI
   obtain ⟨ak,ck,hvk,-⟩:=id hkS
   generalize TB.bits.length=bn at hvb
   generalize TB.blocks.length=kn at hvk
   subst hvb
   subst hvk
   obtain ⟨B,hBV⟩:∃ B,B=V.heap.size:=⟨_,rfl⟩
   rw [← hBV] at hbI hkS
   have hB:Hid (w.heap.size+1≤B∧b3 < B∧∀ k,(Value.slice ay yn cy).ownBlock=some k→k < B):=by
    have h1:=ta.box.lt
    have h2:=HB3.out
    refine ⟨by omega,by omega,fun k hk=>by rw [hBV];exact (World.ownsRow.lt ta.rows.young k hk).2⟩
   have nt:NewT V1 B ⟨TB,.slice ab bn cb,.slice ak kn ck⟩:=⟨hbI,hkS,hsm⟩
   replace ta:=ta.draw hg dc1 HGW.out HB3.out
   clear hg dc1 hS hbI hkS hsm hBV
   refine hK.out _ _ trivial (fun hS=>?_)
   clear hK K
   try simp only [sA,sZ,sS]
   clear hS
   refine listed_as7 (l':=#[true,false,true,true,false,false,false,false]) (by kernel_rfl) ?_
   revert nt
   revert hB
   revert ta
   revert B
   revert ck
   revert kn
   revert ak
   revert cb
   revert bn
   revert ab
   revert TB
   revert V1
   clear V
   refine ?qc3
   rotate_left 1
   intro V0 ta
   have hS:(fun _:World=>True) V0:=trivial
   refine wpAnyH_ready (rs:=[3]) (by kernel_rfl) (by simp) ?_
   refine AllReadyH.cons rfl (fun K hK=>?_) AllReadyH.nil
   go_simp
   refine (l5DrawAny_any w0 _ g ta.dc).mono ?_
   rintro e V1 ⟨TB,vb,vk,rfl,hbI,hkS,hsm,dc1,hg⟩
   obtain ⟨ab,cb,hvb⟩:=own_sliceT hbI
   obtain ⟨ak,ck,hvk,-⟩:=id hkS
   generalize TB.bits.length=bn at hvb
   generalize TB.blocks.length=kn at hvk
   subst hvb
   subst hvk
   obtain ⟨B,hBV⟩:∃ B,B=V0.heap.size:=⟨_,rfl⟩
   rw [← hBV] at hbI hkS
   have hB:Hid (w.heap.size+1≤B∧b3 < B∧∀ k,(Value.slice ay yn cy).ownBlock=some k→k < B):=by
    have h1:=ta.box.lt
    have h2:=HB3.out
    refine ⟨by omega,by omega,fun k hk=>by rw [hBV];exact (World.ownsRow.lt ta.rows.young k hk).2⟩
   have nt:NewT V1 B ⟨TB,.slice ab bn cb,.slice ak kn ck⟩:=⟨hbI,hkS,hsm⟩
   replace ta:=ta.draw hg dc1 HGW.out HB3.out
   clear hg dc1 hS hbI hkS hsm hBV
   refine hK.out _ _ trivial (fun hS=>?_)
   clear hK K
   try simp only [sA,sZ,sS]
   clear hS
   refine listed_as7 (l':=#[true,true,true,true,false,false,false,false]) (by kernel_rfl) ?_
   revert nt
   revert hB
   revert ta
   revert B
   revert ck
   revert kn
   revert ak
   revert cb
   revert bn
   revert ab
   revert TB
   revert V1
   clear V0
   refine ?qc13
   rotate_left 1
   intro V0 TB ab bn cb ak kn ck B ta hB nt
   have hS:(fun _:World=>True) V0:=trivial
   refine wpAnyH_ready (rs:=[1,4]) (by kernel_rfl) (by simp) ?_
   refine AllReadyH.cons rfl (fun K hK=>?_) ?_
   obtain ⟨y0,y1,y2,y3,y4,g0,g1,g2,g3,g4⟩:=ta.box.facts
   simp only at y0 y1 y2 y3 y4
   go_simp
   clear y0 y1 y2 y3 y4 g0 g1 g2 g3 g4 hS
   refine hK.out _ _ trivial (fun hS=>?_)
   clear hK K
   try simp only [sA,sZ,sS]
   clear hS
   refine listed_as7 (l':=#[true,true,true,true,false,false,false,false]) (by kernel_rfl) ?_
   revert nt
   revert hB
   revert ta
   revert B
   revert ck
   revert kn
   revert ak
   revert cb
   revert bn
   revert ab
   revert TB
   revert V0
   exact ?qc13
   refine AllReadyH.cons rfl (fun K hK=>?_) AllReadyH.nil
   refine step_tab1 rfl 36 rfl TB.first TB.last (.slice ab bn cb) (.slice ak kn ck) (by go_simp;(try rfl)) ?_
   intro vz V1 hm qT
   have ho:OwnT V1 V0.heap.size (.slice (some ⟨vz,0,none⟩) 1 1) [⟨TB,.slice ab bn cb,.slice ak kn ck⟩]:=qT _ _
   replace ho:OwnT V1 (w.heap.size+1) (.slice (some ⟨vz,0,none⟩) 1 1) [⟨TB,.slice ab bn cb,.slice ak kn ck⟩]:=ho.mono (Nat.le_trans HLO.out (ta_size ta HB3.out))
   replace ta:=ta.below hm
   replace nt:=nt.below hm
   clear hm qT hS
   refine hK.out _ _ trivial (fun hS=>?_)
   clear hK K
   try simp only [sA,sZ,sS]
   clear hS
   refine listed_as7 (l':=#[true,false,true,true,true,false,false,false]) (by kernel_rfl) ?_
   revert ho
   revert nt
   revert hB
   revert ta
   revert vz
   revert B
   revert ck
   revert kn
   revert ak
   revert cb
   revert bn
   revert ab
   revert TB
   revert V1
   clear V0
   refine ?qc34
   rotate_left 1
   intro V0 TB ab bn cb ak kn ck B ta hB nt
   have hS:(fun _:World=>True) V0:=trivial
   refine wpAnyH_ready (rs:=[4]) (by kernel_rfl) (by simp) ?_
   refine AllReadyH.cons rfl (fun K hK=>?_) AllReadyH.nil
   refine step_tab1 rfl 36 rfl TB.first TB.last (.slice ab bn cb) (.slice ak kn ck) (by go_simp;(try rfl)) ?_
   intro vz V1 hm qT
   have ho:OwnT V1 V0.heap.size (.slice (some ⟨vz,0,none⟩) 1 1) [⟨TB,.slice ab bn cb,.slice ak kn ck⟩]:=qT _ _
   replace ho:OwnT V1 (w.heap.size+1) (.slice (some ⟨vz,0,none⟩) 1 1) [⟨TB,.slice ab bn cb,.slice ak kn ck⟩]:=ho.mono (Nat.le_trans HLO.out (ta_size ta HB3.out))
   replace ta:=ta.below hm
   replace nt:=nt.below hm
   clear hm qT hS
   refine hK.out _ _ trivial (fun hS=>?_)
   clear hK K
   try simp only [sA,sZ,sS]
   clear hS
   refine listed_as7 (l':=#[true,true,true,true,true,false,false,false]) (by kernel_rfl) ?_
   revert ho
   revert nt
   revert hB
   revert ta
   revert vz
   revert B
   revert ck
   revert kn
   revert ak
   revert cb
   revert bn
   revert ab
   revert TB
   revert V1
   clear V0
   refine ?qc134
   rotate_left 1
   intro V0 TB ab bn cb ak kn ck B vz ta hB nt ho
   have hS:(fun _:World=>True) V0:=trivial
   refine wpAnyH_ready (rs:=[1]) (by kernel_rfl) (by simp) ?_
   refine AllReadyH.cons rfl (fun K hK=>?_) AllReadyH.nil
   obtain ⟨y0,y1,y2,y3,y4,g0,g1,g2,g3,g4⟩:=ta.box.facts
   simp only at y0 y1 y2 y3 y4
   go_simp
   clear y0 y1 y2 y3 y4 g0 g1 g2 g3 g4 hS
   refine hK.out _ _ trivial (fun hS=>?_)
   clear hK K
   try simp only [sA,sZ,sS]
   clear hS
   refine listed_as7 (l':=#[true,true,true,true,true,false,false,false]) (by kernel_rfl) ?_
   revert ho
   revert nt
   revert hB
   revert ta
   revert vz
   revert B
   revert ck
   revert kn
   revert ak
   revert cb
   revert bn
   revert ab
   revert TB
   revert V0
   exact ?qc134
   intro V0 TB ab bn cb ak kn ck B vz ta hB nt ho
   have hS:(fun _:World=>True) V0:=trivial
   refine wpAnyH_ready (rs:=[5]) (by kernel_rfl) (by simp) ?_
   refine AllReadyH.cons rfl (fun K hK=>?_) AllReadyH.nil
   refine step_append_tabs rfl 37 rfl _ _ rfl (w.heap.size+1) (.slice ay yn cy) (.slice (some ⟨vz,0,none⟩) 1 1) ys4 [⟨TB,.slice ab bn cb,.slice ak kn ck⟩] rfl rfl ta.rows.young (OwnT.rdAny ho (fun t ht=>by rw [List.mem_singleton.1 ht];exact ⟨nt.bits.rd,nt.blocks.rd⟩)) (own_nil ho) (by have h1:=ta.tree.young;have h2:=ta.tree.old;unfold TrX.tre at h1 h2;simp only [List.length_map] at h1 h2;simp;omega) (Nat.le_trans HLO.out (ta_size ta HB3.out)) ?_
   intro v5 V5 ho5 hg5
   have tz:=ta.young hg5 ho5 nt hB.out.1 hB.out.2.2 hB.out.2.1 HGW.out HB3.out
   have zb5:=(ta.after hg5 (fun k hk=>⟨(World.ownsRow.lt ta.rows.young k hk).1,box_rowne ta.box ta.rows.young (by decide) k hk⟩) HGW.out HB3.out).1
   obtain ⟨a5,c5,hv5⟩:=own_sliceT ho5
   generalize (ys4++[(⟨TB,.slice ab bn cb,.slice ak kn ck⟩:TV)]).length=n5 at hv5
   subst hv5
   clear hS ho5 hg5 ho ta nt hB
   refine hK.out _ _ trivial (fun hS=>?_)
   clear hK K
   try simp only [sA,sZ,sS]
   refine kG 6 38 hS ?_
   obtain ⟨y0,y1,y2,y3,y4,g0,g1,g2,g3,g4⟩:=zb5.facts
   simp only at y0 y1 y2 y3 y4
   refine wpAnyH_ready (rs:=[7]) (by kernel_rfl) (by simp) ?_
   refine AllReadyH.cons rfl (fun K hK=>?_) AllReadyH.nil
   go_simp
   refine hK.out _ _ trivial (fun hS=>?_)
   clear hK K hS y0 y1 y2 y3 y4 g0 g1 g2 g3 g4 zb5
   refine wpAnyH_done (by kernel_rfl) ?_ _
   refine NoPanic.normal ?_
   revert tz
   generalize V5.setCell ⟨b3,1,none⟩ (.slice a5 n5 c5)=P
   intro tz
   obtain ⟨y0,y1,y2,y3,y4,g0,g1,g2,g3,g4⟩:=tz.box.facts
   obtain ⟨m0,m1,m2,m3,m4,n0,n1,n2,n3,n4⟩:=tz.res.facts
   have hzF:=boxTr_put5 tz.res (.slice am mn cm) (.slice a5 n5 c5) (.slice ao on co) (.slice an nn cn) (seq4)
   obtain ⟨f0,f1,f2,f3,f4,-⟩:=hzF.facts
   have END:Hid (TreAD _ _ _ _ _):=tz.fin HGW.out HB3.out
   simp only at y0 y1 y2 y3 y4
   unfold put5 at f0 f1 f2 f3 f4 END
   clear tz hzF
   go_wp2
   exact bodyPost_ret (v:=.agg #[.slice am mn cm,.slice a5 n5 c5,.slice ao on co,.int .i64 (seq4),.slice an nn cn]) (by simp [results,Tryz.results33,go_sem,f0,f1,f2,f3,f4]) rfl END.out
  have q0:(y == 0)=false:=by simp [h0]
  have q1:(y == 1)=false:=by simp [h1]
  have q2:(y == 2)=false:=by simp [h2]
  by_cases h3:y=3
  ·subst h3
   go_wp2_with fail
   refine (l3DrawAny_any w0 _ g ta.dc).mono ?_
   rintro e w5 ⟨v5,es5,rfl,ho5,hl5,hsm5,dc5,hg5⟩
   have ta5:=ta.draw hg5 dc5 HGW.out HB3.out
   have hoE:OwnE w5 (w.heap.size+1) v5 es5:=ho5.mono (ta_size ta HB3.out)
   have tz:=ta5.mem hoE hsm5 HGW.out HB3.out
   obtain ⟨y0,y1,y2,y3,y4,g0,g1,g2,g3,g4⟩:=ta5.box.facts
   simp only at y0 y1 y2 y3 y4
   obtain ⟨a5,c5,hv5⟩:=own_sliceT ho5
   generalize es5.length=n5 at hv5
   subst hv5
   clear ta ta5 ho5 hoE hsm5 dc5 hg5
   obtain ⟨k0,k1,k2,k3,k4,-⟩:=tz.box.facts
   obtain ⟨m0,m1,m2,m3,m4,n0,n1,n2,n3,n4⟩:=tz.res.facts
   have hzF:=boxTr_put5 tz.res (.slice a5 n5 c5) (.slice ay yn cy) (.slice ao on co) (.slice an nn cn) (seq4)
   obtain ⟨f0,f1,f2,f3,f4,-⟩:=hzF.facts
   have END:Hid (TreAD _ _ _ _ _):=tz.fin HGW.out HB3.out
   simp only at k0 k1 k2 k3 k4
   unfold put5 at f0 f1 f2 f3 f4 END
   clear tz hzF
   go_wp2
   exact bodyPost_ret (v:=.agg #[.slice a5 n5 c5,.slice ay yn cy,.slice ao on co,.int .i64 (seq4),.slice an nn cn]) (by simp [results,Tryz.results33,go_sem,f0,f1,f2,f3,f4]) rfl END.out
  have h4:y=4:=by omega
  subst h4
  go_wp2_with fail
  refine wp_region_noPanic ?_
  refine wp_region_held_drew (S:=fun _=>True) (by kernel_rfl) trivial (fun hS=>?_)
  replace ta:TA w0 w w4.drew g b3 ⟨.slice am mn cm,.slice ay yn cy,.slice ao on co,.slice an nn cn,mem4,ys4,os4,seq4,snaps4⟩:=ta.below ((Below.refl _ _).drew)
  revert hS ta
  generalize w4.drew=V
  intro hS ta
  clear w4
  refine kG 0 46 hS ?_
  refine kG 2 48 hS ?_
  refine wpAnyH_ready (rs:=[1,3]) (by kernel_rfl) (by simp) ?_
  refine AllReadyH.cons rfl (fun K hK=>?_) ?_
  obtain ⟨y0,y1,y2,y3,y4,g0,g1,g2,g3,g4⟩:=ta.box.facts
  simp only at y0 y1 y2 y3 y4
  go_simp
  clear y0 y1 y2 y3 y4 g0 g1 g2 g3 g4 hS
  refine hK.out _ _ trivial (fun hS=>?_)
  clear hK K
  try simp only [sA,sZ,sS]
  clear hS
  refine listed_as7 (l':=#[true,true,true,false,false,false,false,false]) (by kernel_rfl) ?_
  revert ta
  revert V
  refine ?qd1
  rotate_left 1
  refine AllReadyH.cons rfl (fun K hK=>?_) AllReadyH.nil
  go_simp
  refine (l5DrawAny_any w0 _ g ta.dc).mono ?_
  rintro e V1 ⟨TB,vb,vk,rfl,hbI,hkS,hsm,dc1,hg⟩
  obtain ⟨ab,cb,hvb⟩:=own_sliceT hbI
  obtain ⟨ak,ck,hvk,-⟩:=id hkS
  generalize TB.bits.length=bn at hvb
  generalize TB.blocks.length=kn at hvk
  subst hvb
  subst hvk
  obtain ⟨B,hBV⟩:∃ B,B=V.heap.size:=⟨_,rfl⟩
  rw [← hBV] at hbI hkS
  have hB:Hid (w.heap.size+1≤B∧b3 < B∧∀ k,(Value.slice ao on co).ownBlock=some k→k < B):=by
   have h1:=ta.box.lt
   have h2:=HB3.out
   refine ⟨by omega,by omega,fun k hk=>by rw [hBV];exact (World.ownsRow.lt ta.rows.old k hk).2⟩
  have nt:NewT V1 B ⟨TB,.slice ab bn cb,.slice ak kn ck⟩:=⟨hbI,hkS,hsm⟩
  replace ta:=ta.draw hg dc1 HGW.out HB3.out
  clear hg dc1 hS hbI hkS hsm hBV
  refine hK.out _ _ trivial (fun hS=>?_)
  clear hK K
  try simp only [sA,sZ,sS]
  clear hS
  refine listed_as7 (l':=#[true,false,true,true,false,false,false,false]) (by kernel_rfl) ?_
  revert nt
  revert hB
  revert ta
  revert B
  revert ck
  revert kn
  revert ak
  revert cb
  revert bn
  revert ab
  revert TB
  revert V1
  clear V
  refine ?qd3
  rotate_left 1
  intro V0 ta
  have hS:(fun _:World=>True) V0:=trivial
  refine wpAnyH_ready (rs:=[3]) (by kernel_rfl) (by simp) ?_
  refine AllReadyH.cons rfl (fun K hK=>?_) AllReadyH.nil
  go_simp
  refine (l5DrawAny_any w0 _ g ta.dc).mono ?_
  rintro e V1 ⟨TB,vb,vk,rfl,hbI,hkS,hsm,dc1,hg⟩
  obtain ⟨ab,cb,hvb⟩:=own_sliceT hbI
  obtain ⟨ak,ck,hvk,-⟩:=id hkS
  generalize TB.bits.length=bn at hvb
  generalize TB.blocks.length=kn at hvk
  subst hvb
  subst hvk
  obtain ⟨B,hBV⟩:∃ B,B=V0.heap.size:=⟨_,rfl⟩
  rw [← hBV] at hbI hkS
  have hB:Hid (w.heap.size+1≤B∧b3 < B∧∀ k,(Value.slice ao on co).ownBlock=some k→k < B):=by
   have h1:=ta.box.lt
   have h2:=HB3.out
   refine ⟨by omega,by omega,fun k hk=>by rw [hBV];exact (World.ownsRow.lt ta.rows.old k hk).2⟩
  have nt:NewT V1 B ⟨TB,.slice ab bn cb,.slice ak kn ck⟩:=⟨hbI,hkS,hsm⟩
  replace ta:=ta.draw hg dc1 HGW.out HB3.out
  clear hg dc1 hS hbI hkS hsm hBV
  refine hK.out _ _ trivial (fun hS=>?_)
  clear hK K
  try simp only [sA,sZ,sS]
  clear hS
  refine listed_as7 (l':=#[true,true,true,true,false,false,false,false]) (by kernel_rfl) ?_
  revert nt
  revert hB
  revert ta
  revert B
  revert ck
  revert kn
  revert ak
  revert cb
  revert bn
  revert ab
  revert TB
  revert V1
  clear V0
  refine ?qd13
  rotate_left 1
  intro V0 TB ab bn cb ak kn ck B ta hB nt
  have hS:(fun _:World=>True) V0:=trivial
  refine wpAnyH_ready (rs:=[1,4]) (by kernel_rfl) (by simp) ?_
  refine AllReadyH.cons rfl (fun K hK=>?_) ?_
  obtain ⟨y0,y1,y2,y3,y4,g0,g1,g2,g3,g4⟩:=ta.box.facts
  simp only at y0 y1 y2 y3 y4
  go_simp
  clear y0 y1 y2 y3 y4 g0 g1 g2 g3 g4 hS
  refine hK.out _ _ trivial (fun hS=>?_)
  clear hK K
  try simp only [sA,sZ,sS]
  clear hS
  refine listed_as7 (l':=#[true,true,true,true,false,false,false,false]) (by kernel_rfl) ?_
  revert nt
  revert hB
  revert ta
  revert B
  revert ck
  revert kn
  revert ak
  revert cb
  revert bn
  revert ab
  revert TB
  revert V0
  exact ?qd13
  refine AllReadyH.cons rfl (fun K hK=>?_) AllReadyH.nil
  refine step_tab1 rfl 50 rfl TB.first TB.last (.slice ab bn cb) (.slice ak kn ck) (by go_simp;(try rfl)) ?_
  intro vz V1 hm qT
  have ho:OwnT V1 V0.heap.size (.slice (some ⟨vz,0,none⟩) 1 1) [⟨TB,.slice ab bn cb,.slice ak kn ck⟩]:=qT _ _
  replace ho:OwnT V1 (w.heap.size+1) (.slice (some ⟨vz,0,none⟩) 1 1) [⟨TB,.slice ab bn cb,.slice ak kn ck⟩]:=ho.mono (Nat.le_trans HLO.out (ta_size ta HB3.out))
  replace ta:=ta.below hm
  replace nt:=nt.below hm
  clear hm qT hS
  refine hK.out _ _ trivial (fun hS=>?_)
  clear hK K
  try simp only [sA,sZ,sS]
  clear hS
  refine listed_as7 (l':=#[true,false,true,true,true,false,false,false]) (by kernel_rfl) ?_
  revert ho
  revert nt
  revert hB
  revert ta
  revert vz
  revert B
  revert ck
  revert kn
  revert ak
  revert cb
  revert bn
  revert ab
  revert TB
  revert V1
  clear V0
  refine ?qd34
  rotate_left 1
  intro V0 TB ab bn cb ak kn ck B ta hB nt
  have hS:(fun _:World=>True) V0:=trivial
  refine wpAnyH_ready (rs:=[4]) (by kernel_rfl) (by simp) ?_
  refine AllReadyH.cons rfl (fun K hK=>?_) AllReadyH.nil
  refine step_tab1 rfl 50 rfl TB.first TB.last (.slice ab bn cb) (.slice ak kn ck) (by go_simp;(try rfl)) ?_
  intro vz V1 hm qT
  have ho:OwnT V1 V0.heap.size (.slice (some ⟨vz,0,none⟩) 1 1) [⟨TB,.slice ab bn cb,.slice ak kn ck⟩]:=qT _ _
  replace ho:OwnT V1 (w.heap.size+1) (.slice (some ⟨vz,0,none⟩) 1 1) [⟨TB,.slice ab bn cb,.slice ak kn ck⟩]:=ho.mono (Nat.le_trans HLO.out (ta_size ta HB3.out))
  replace ta:=ta.below hm
  replace nt:=nt.below hm
  clear hm qT hS
  refine hK.out _ _ trivial (fun hS=>?_)
  clear hK K
  try simp only [sA,sZ,sS]
  clear hS
  refine listed_as7 (l':=#[true,true,true,true,true,false,false,false]) (by kernel_rfl) ?_
  revert ho
  revert nt
  revert hB
  revert ta
  revert vz
  revert B
  revert ck
  revert kn
  revert ak
  revert cb
  revert bn
  revert ab
  revert TB
  revert V1
  clear V0
  refine ?qd134
  rotate_left 1
  intro V0 TB ab bn cb ak kn ck B vz ta hB nt ho
  have hS:(fun _:World=>True) V0:=trivial
  refine wpAnyH_ready (rs:=[1]) (by kernel_rfl) (by simp) ?_
  refine AllReadyH.cons rfl (fun K hK=>?_) AllReadyH.nil
  obtain ⟨y0,y1,y2,y3,y4,g0,g1,g2,g3,g4⟩:=ta.box.facts
  simp only at y0 y1 y2 y3 y4
  go_simp
  clear y0 y1 y2 y3 y4 g0 g1 g2 g3 g4 hS
  refine hK.out _ _ trivial (fun hS=>?_)
  clear hK K
  try simp only [sA,sZ,sS]
  clear hS
  refine listed_as7 (l':=#[true,true,true,true,true,false,false,false]) (by kernel_rfl) ?_
  revert ho
  revert nt
  revert hB
  revert ta
  revert vz
  revert B
  revert ck
  revert kn
  revert ak
  revert cb
  revert bn
  revert ab
  revert TB
  revert V0
  exact ?qd134
  intro V0 TB ab bn cb ak kn ck B vz ta hB nt ho
  have hS:(fun _:World=>True) V0:=trivial
  refine wpAnyH_ready (rs:=[5]) (by kernel_rfl) (by simp) ?_
  refine AllReadyH.cons rfl (fun K hK=>?_) AllReadyH.nil
  refine step_append_tabs rfl 51 rfl _ _ rfl (w.heap.size+1) (.slice ao on co) (.slice (some ⟨vz,0,none⟩) 1 1) os4 [⟨TB,.slice ab bn cb,.slice ak kn ck⟩] rfl rfl ta.rows.old (OwnT.rdAny ho (fun t ht=>by rw [List.mem_singleton.1 ht];exact ⟨nt.bits.rd,nt.blocks.rd⟩)) (own_nil ho) (by have h1:=ta.tree.young;have h2:=ta.tree.old;unfold TrX.tre at h1 h2;simp only [List.length_map] at h1 h2;simp;omega) (Nat.le_trans HLO.out (ta_size ta HB3.out)) ?_
  intro v5 V5 ho5 hg5
  have tz:=ta.old hg5 ho5 nt hB.out.1 hB.out.2.2 hB.out.2.1 HGW.out HB3.out
  have zb5:=(ta.after hg5 (fun k hk=>⟨(World.ownsRow.lt ta.rows.old k hk).1,box_rowne ta.box ta.rows.old (by decide) k hk⟩) HGW.out HB3.out).1
  obtain ⟨a5,c5,hv5⟩:=own_sliceT ho5
  generalize (os4++[(⟨TB,.slice ab bn cb,.slice ak kn ck⟩:TV)]).length=n5 at hv5
  subst hv5
  clear hS ho5 hg5 ho ta nt hB
  refine hK.out _ _ trivial (fun hS=>?_)
  clear hK K
  try simp only [sA,sZ,sS]
  refine kG 6 52 hS ?_
  obtain ⟨y0,y1,y2,y3,y4,g0,g1,g2,g3,g4⟩:=zb5.facts
  simp only at y0 y1 y2 y3 y4
  refine wpAnyH_ready (rs:=[7]) (by kernel_rfl) (by simp) ?_
  refine AllReadyH.cons rfl (fun K hK=>?_) AllReadyH.nil
  go_simp
  refine hK.out _ _ trivial (fun hS=>?_)
  clear hK K hS y0 y1 y2 y3 y4 g0 g1 g2 g3 g4 zb5
  refine wpAnyH_done (by kernel_rfl) ?_ _
  refine NoPanic.normal ?_
  revert tz
  generalize V5.setCell ⟨b3,2,none⟩ (.slice a5 n5 c5)=P
  intro tz
  obtain ⟨y0,y1,y2,y3,y4,g0,g1,g2,g3,g4⟩:=tz.box.facts
  obtain ⟨m0,m1,m2,m3,m4,n0,n1,n2,n3,n4⟩:=tz.res.facts
  have hzF:=boxTr_put5 tz.res (.slice am mn cm) (.slice ay yn cy) (.slice a5 n5 c5) (.slice an nn cn) (seq4)
  obtain ⟨f0,f1,f2,f3,f4,-⟩:=hzF.facts
  have END:Hid (TreAD _ _ _ _ _):=tz.fin HGW.out HB3.out
  simp only at y0 y1 y2 y3 y4
  unfold put5 at f0 f1 f2 f3 f4 END
  clear tz hzF
  go_wp2
  exact bodyPost_ret (v:=.agg #[.slice am mn cm,.slice ay yn cy,.slice a5 n5 c5,.int .i64 (seq4),.slice an nn cn]) (by simp [results,Tryz.results33,go_sem,f0,f1,f2,f3,f4]) rfl END.out
end Go.Proofs.YtmlmlemiidedcaaGreat
