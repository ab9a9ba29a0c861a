import Derived.Test.YtmlmlemiidedcaaGreatG43
namespace Go.Proofs.YtmlmlemiidedcaaGreat
set_option maxHeartbeats 16000000
set_option maxRecDepth 100000
open Go.RowKit
theorem kU0G44 (i d:Nat) {P:Program} {ops:Array Oper} {Q:Exit→Act→World→Prop} {md:Region.Mode} {S:World→Prop} {oi:Oper} {v:Value} {fuel:Nat} {listed:Array Bool} {a a':Act} {w:World} (hS:S w) (h:wpAnyH P md ops (NoPanic Q) S fuel (listed.setIfInBounds i true) a' w) (hi:ops[i]? = some oi:=by rfl) (hd:oi.dst=some d:=by rfl) (hs:Region.noSelect ops=true:=by kernel_rfl) (hf:Region.free md ops listed i=true:=by kernel_rfl) (hr:(Region.ready md ops listed).contains i=true:=by kernel_rfl) (hw:Region.wanted oi (yielded ops a.tmps)=true:=by kernel_rfl) (hy:∀ w,S w→(execOp a.eval oi).run P w=.ok (.value v) w:=by intro w hS;(try dsimp only [EntAt,TabAt,Nat.zero_add] at hS);go_simp;(try with_reducible rfl)) (ha:a.put (some d) v=a':=by (try simp only [Act.put,sA,sZ,sS]);(try rfl)):wpAnyH P md ops (NoPanic Q) S (fuel+1) listed a w:=takeH hi hd hs hf hr (fun _ _ _ h=>h) (Or.inl ⟨hw,hy⟩) hS (ha ▸ h)
theorem likeTabs_same (va vb:Value) (us qs:List TV) (w:World) (ha:RdTs w va us) (hb:RdTs w vb qs) (hs:us.map (·.T)=qs.map (·.T)) :
 Calls Tryz.prog 45 #[va,vb] w fun e w'=>e=.returned (.bool true)∧Below w.heap.size w w':=by
 obtain ⟨aa,ca,hva,hla,hma,-⟩:=id ha
 obtain ⟨ab,cb,hvb,hlb,hmb,-⟩:=id hb
 have hl:qs.length=us.length:=by have:=congrArg List.length hs;simpa using this.symm
 rw [hl] at hvb hlb
 obtain ⟨nn,hnn⟩:∃ nn,nn=us.length:=⟨_,rfl⟩
 rw [← hnn] at hva hla hvb hlb hl
 have HNU:Hid (nn=us.length):=hnn
 have HNQ:Hid (qs.length=nn):=hl
 have HS:Hid (∀ k,k < nn→(nthT qs k).T=(nthT us k).T):=fun k hk=>by
  have h1:k < us.length:=by omega
  have h2:k < qs.length:=by omega
  have:=congrArg (fun l:List Tbl=>l[k]?) hs
  simp only [List.getElem?_map,List.getElem?_eq_getElem h1,List.getElem?_eq_getElem h2,Option.map_some,Option.some.injEq] at this
  rw [nthT_eq h1,nthT_eq h2,this]
 unfold maxLen at hma hmb
 subst hva
 subst hvb
 have hne:((nn:Int) != (nn:Int))=false:=by simp
 clear hnn hl hs
 go_enter Tryz.func45,Tryz.ntmps45
 go_wp2
 go_loopw [5] (fun i wr=>∃ k:Nat,k≤nn∧i=.int .i64 k∧Below w.heap.size w wr) (fun i _=>nn - (intOf i).toNat)
 case atStart=>exact ⟨0,Nat.zero_le _,rfl,Below.refl _ _⟩
 case round =>
  obtain ⟨k,hk,rfl,hbw⟩:=hrel
  by_cases hlt:k < nn
  ·obtain ⟨b1,o1,rfl,hc1,hi1,hk1⟩:=(ha.below hbw).at k (by rw [← HNU.out];exact hlt)
   obtain ⟨b2,o2,rfl,hc2,hi2,hk2⟩:=(hb.below hbw).at k (by rw [HNQ.out];exact hlt)
   have hT:=HS.out k hlt
   rw [hT] at hi2 hk2
   have hkc1:k < ca:=by omega
   have hkc2:k < cb:=by omega
   unfold TabAt at hc2
   rw [hT] at hc2
   clear hT
   generalize (nthT qs k).vb=vb2 at hc2 hi2
   generalize (nthT qs k).vk=vk2 at hc2 hk2
   generalize nthT us k=t at hc1 hi1 hk1 hc2 hi2 hk2
   obtain ⟨T,vb1,vk1⟩:=t
   unfold TabAt at hc1
   simp only at hc1 hi1 hk1 hc2 hi2 hk2
   go_wp2_with fail
   refine wp_region_noPanic ?_
   refine wp_region_held_drew (S:=fun w'=>(w'.cell? ⟨b1,o1+k*4,none⟩=some (.string T.first)∧w'.cell? ⟨b1,o1+k*4+1,none⟩=some (.string T.last)∧w'.cell? ⟨b1,o1+k*4+2,none⟩=some vb1∧w'.cell? ⟨b1,o1+k*4+3,none⟩=some vk1)∧w'.cell? ⟨b2,o2+k*4,none⟩=some (.string T.first)∧w'.cell? ⟨b2,o2+k*4+1,none⟩=some (.string T.last)∧w'.cell? ⟨b2,o2+k*4+2,none⟩=some vb2∧w'.cell? ⟨b2,o2+k*4+3,none⟩=some vk2) (by kernel_rfl) ⟨hc1,hc2⟩ (fun hH=>?_)
   clear hc1 hc2
   refine kU0G44 0 17 hH ?_
   refine kU0G44 1 18 hH ?_
   refine kU0G44 2 19 hH ?_
   refine kU0G44 3 20 hH ?_
   refine kU0G44 4 21 hH ?_
   refine kU0G44 5 22 hH ?_
   refine kU0G44 6 23 hH ?_
   refine kU0G44 7 24 hH ?_
   refine kU0G44 8 25 hH ?_
   refine kU0G44 9 26 hH ?_
   refine kU0G44 10 27 hH ?_
   refine kU0G44 11 28 hH ?_
   refine kU0G44 12 29 hH ?_
   refine kU0G44 13 30 hH ?_
   refine kU0G44 14 31 hH ?_
   refine kU0G44 15 32 hH ?_
   refine kU0G44 16 33 hH ?_
   refine kU0G44 17 34 hH ?_
   refine kU0G44 18 35 hH ?_
   refine kU0G44 19 36 hH ?_
   refine kU0G44 20 37 hH ?_
   refine kU0G44 21 38 hH ?_
   refine kU0G44 22 39 hH ?_
   refine kU0G44 23 40 hH ?_
   refine kU0G44 24 41 hH ?_
   refine kU0G44 25 42 hH ?_
   refine kU0G44 26 43 hH ?_
   refine kU0G44 27 44 hH ?_
   refine kU0G44 28 45 hH ?_
   refine kU0G44 29 46 hH ?_
   refine kU0G44 30 47 hH ?_
   refine kU0G44 31 48 hH ?_
   refine kU0G44 32 49 hH ?_
   refine kU0G44 33 50 hH ?_
   refine kU0G44 34 51 hH ?_
   refine wpAnyH_ready (rs:=[35]) (by kernel_rfl) (by simp) ?_
   refine AllReadyH.cons rfl (fun K hK=>?_) AllReadyH.nil
   go_simp
   refine (likeIntsT_same _ _ T.bits _ (by exact hi1) (by exact hi2)).mono ?_
   rintro e w1 ⟨rfl,n1,rfl⟩
   refine hK.out _ _ (by exact hH) (fun hA=>?_)
   clear hK K
   try simp only [Act.put,sA,sZ,sS]
   refine kU0G44 36 53 hA ?_
   refine kU0G44 37 54 hA ?_
   refine kU0G44 38 55 hA ?_
   refine kU0G44 39 56 hA ?_
   refine kU0G44 40 57 hA ?_
   refine kU0G44 41 58 hA ?_
   refine kU0G44 42 59 hA ?_
   refine kU0G44 43 60 hA ?_
   refine kU0G44 44 61 hA ?_
   refine kU0G44 45 62 hA ?_
   refine kU0G44 46 63 hA ?_
   refine kU0G44 47 64 hA ?_
   refine kU0G44 48 65 hA ?_
   refine wpAnyH_ready (rs:=[49]) (by kernel_rfl) (by simp) ?_
   refine AllReadyH.cons rfl (fun K hK=>?_) AllReadyH.nil
   go_simp
   refine (likeTextsT_same _ _ T.blocks _ (by exact hk1) (by exact hk2)).mono ?_
   rintro e w2 ⟨rfl,n2,rfl⟩
   refine hK.out _ _ (by exact hA) (fun hB=>?_)
   clear hK K
   try simp only [Act.put,sA,sZ,sS]
   refine kU0G44 50 67 hB ?_
   refine kU0G44 51 68 hB ?_
   refine wpAnyH_done (by kernel_rfl) ?_ _
   refine NoPanic.normal ?_
   have bz:Below w.heap.size w (wr.drewN (1+n1+n2)):=below_drewN hbw _
   clear hH hA hB
   go_wp2
   go_roundw
   case rel=>exact ⟨k+1,by omega,by go_num,bz⟩
   case measure=>simp [intOf];omega
  ·have hke:k=nn:=by omega
   subst hke
   go_wp2
   go_ret
   exact ⟨rfl,hbw⟩
theorem likeTree_same (Y Z:TrX) (w:World) (hy:RdTr w Y) (hz:RdTr w Z) (h:Y.tre=Z.tre) :
 Calls Tryz.prog 12 #[.agg #[Y.vm,Y.vy,Y.vo,.int .i64 Y.seq,Y.vs],.agg #[Z.vm,Z.vy,Z.vo,.int .i64 Z.seq,Z.vs]] w fun e w'=>e=.returned (.bool true)∧Below w.heap.size w w':=by
 have hmem:Y.mem=Z.mem:=congrArg Tre.mem h
 have hyo:Y.ys.map (·.T)=Z.ys.map (·.T):=congrArg Tre.young h
 have hol:Y.os.map (·.T)=Z.os.map (·.T):=congrArg Tre.old h
 have hsq:Y.seq=Z.seq:=congrArg Tre.seq h
 have hsn:Y.snaps=Z.snaps:=congrArg Tre.snaps h
 have HM:Hid (∀ W,RdTr W Y→RdTr W Z→Calls Tryz.prog 23 #[Y.vm,Z.vm] W fun e w'=>e=.returned (.bool true)∧Below W.heap.size W w'):=fun W h1 h2=>(likeEntsT_same _ _ Y.mem W h1.mem (by rw [hmem];exact h2.mem)).mono (fun _ _ h=>⟨h.1,by obtain ⟨n,hn⟩:=h.2;rw [hn];exact below_drewN (Below.refl _ _) n⟩)
 have HY:Hid (∀ W,RdTr W Y→RdTr W Z→Calls Tryz.prog 45 #[Y.vy,Z.vy] W fun e w'=>e=.returned (.bool true)∧Below W.heap.size W w'):=fun W h1 h2=>likeTabs_same _ _ _ _ W h1.young h2.young hyo
 have HO:Hid (∀ W,RdTr W Y→RdTr W Z→Calls Tryz.prog 45 #[Y.vo,Z.vo] W fun e w'=>e=.returned (.bool true)∧Below W.heap.size W w'):=fun W h1 h2=>likeTabs_same _ _ _ _ W h1.old h2.old hol
 have HS:Hid (∀ W,RdTr W Y→RdTr W Z→Calls Tryz.prog 25 #[Y.vs,Z.vs] W fun e w'=>e=.returned (.bool true)∧∃ n,w'=W.drewN n):=fun W h1 h2=>likeIntsT_same _ _ Y.snaps W h1.snaps (by rw [hsn];exact h2.snaps)
 clear hmem hyo hol hsn h
 rw [hsq]
 clear hsq
 obtain ⟨vm,vy,vo,vs,mem,ys,os,seq,snaps⟩:=Y
 obtain ⟨zm,zy,zo,zs,mem2,ys2,os2,seq2,snaps2⟩:=Z
 simp only at HM HY HO HS ⊢
 have t0:=treAt_new w ⟨vm,vy,vo,vs,mem,ys,os,seq2,snaps⟩ 28
 have b0:=below1 w (.cells #[vm,vy,vo,.int .i64 seq2,vs] 28)
 simp only at t0
 obtain ⟨W0,hW0⟩:∃ W0,W0=w.alloc (.cells #[vm,vy,vo,.int .i64 seq2,vs] 28):=⟨_,rfl⟩
 have s0:W0.heap.size=w.heap.size+1:=by rw [hW0];simp
 rw [← hW0] at t0 b0
 have u1:=treAt_new W0 ⟨zm,zy,zo,zs,mem2,ys2,os2,seq2,snaps2⟩ 28
 have b1:=below1 W0 (.cells #[zm,zy,zo,.int .i64 seq2,zs] 28)
 simp only at u1
 obtain ⟨W1,hW1⟩:∃ W1,W1=W0.alloc (.cells #[zm,zy,zo,.int .i64 seq2,zs] 28):=⟨_,rfl⟩
 rw [← hW1] at u1 b1
 rw [s0] at u1
 have t1:=t0.below b1
 have bw1:Below w.heap.size w W1:=b0.trans (b1.mono (by omega))
 have HW1:Hid ((w.alloc (.cells #[vm,vy,vo,.int .i64 seq2,vs] 28)).alloc (.cells #[zm,zy,zo,.int .i64 seq2,zs] 28)=W1):=by unfold Hid;rw [hW1,hW0]
 obtain ⟨d0,d1,d2,d3,d4⟩:=id t1
 obtain ⟨e0,e1,e2,e3,e4⟩:=id u1
 simp only at d0 d1 d2 d3 d4 e0 e1 e2 e3 e4
 rw [hW1,hW0] at d0 d1 d2 d3 d4 e0 e1 e2 e3 e4
 have hq:(seq2 != seq2)=false:=by simp
 clear t0 b0 b1 hW0 hW1 s0
 go_enter Tryz.func12,Tryz.ntmps12
 go_wp2_with fail
 rw [HW1.out]
 refine (HM.out _ (hy.below bw1) (hz.below bw1)).mono ?_
 rintro e w2 ⟨rfl,hb2⟩
 have t2:=t1.below hb2
 have u2:=u1.below hb2
 have b2:=bw1.trans (hb2.mono bw1.size)
 clear d0 d1 d2 d3 d4 e0 e1 e2 e3 e4 t1 u1 bw1 hb2 HM HW1
 obtain ⟨d0,d1,d2,d3,d4⟩:=id t2
 obtain ⟨e0,e1,e2,e3,e4⟩:=id u2
 simp only at d0 d1 d2 d3 d4 e0 e1 e2 e3 e4
 go_wp2_with fail
 refine (HY.out _ (hy.below b2) (hz.below b2)).mono ?_
 rintro e w3 ⟨rfl,hb3⟩
 have t3:=t2.below hb3
 have u3:=u2.below hb3
 have b3:=b2.trans (hb3.mono b2.size)
 clear d0 d1 d2 d3 d4 e0 e1 e2 e3 e4 t2 u2 b2 hb3 HY
 obtain ⟨d0,d1,d2,d3,d4⟩:=id t3
 obtain ⟨e0,e1,e2,e3,e4⟩:=id u3
 simp only at d0 d1 d2 d3 d4 e0 e1 e2 e3 e4
 go_wp2_with fail
 refine (HO.out _ (hy.below b3) (hz.below b3)).mono ?_
 rintro e w4 ⟨rfl,hb4⟩
 have t4:=t3.below hb4
 have u4:=u3.below hb4
 have b4:=b3.trans (hb4.mono b3.size)
 clear d0 d1 d2 d3 d4 e0 e1 e2 e3 e4 t3 u3 b3 hb4 HO
 obtain ⟨d0,d1,d2,d3,d4⟩:=id t4
 obtain ⟨e0,e1,e2,e3,e4⟩:=id u4
 simp only at d0 d1 d2 d3 d4 e0 e1 e2 e3 e4
 go_wp2_with fail
 refine (HS.out _ (hy.below b4) (hz.below b4)).mono ?_
 rintro e w5 ⟨rfl,n5,rfl⟩
 have b5:=below_drewN b4 n5
 clear d0 d1 d2 d3 d4 e0 e1 e2 e3 e4 HS
 go_wp2
 go_ret
 exact ⟨rfl,b5⟩
open Go.RowKit
theorem okT_blocks {T:Tbl} (h:tableOk T=true):T.blocks≠[]:=by
 intro e
 unfold tableOk at h
 simp only [Bool.and_eq_true] at h
 have h1:=h.1.1.1
 unfold allL at h1
 rw [e] at h1
 simp at h1
theorem rdS_nilOk {w:World} {v:Value} {ss:List ByteArray} (h:RdS w v ss) (hn:ss≠[]):NilOk v:=by
 obtain ⟨a,cap,rfl,_,_,h3⟩:=h
 rcases h3 with h3 | ⟨b,off,rfl,_⟩
 ·exact absurd h3 hn
 ·intro n c e
  injection e with e1
  cases e1
theorem treeP_cp {X:TrX} {w:World} (h:TreeP X.tre) (hr:RdTr w X) (hy:NilOk X.vy) (ho:NilOk X.vo):CpTr X:=by
 have hl:=okL_len h.mem
 have h1:X.ys.length≤6:=by have:=h.young;rw [show X.tre.young=X.ys.map (·.T) from rfl,List.length_map] at this;exact this
 have h2:X.os.length≤1:=by have:=h.old;rw [show X.tre.old=X.os.map (·.T) from rfl,List.length_map] at this;exact this
 have h3:X.snaps.length≤10:=h.few
 have h4:X.mem.length≤300:=hl
 obtain ⟨_,_,_,_,_,_,hys⟩:=hr.young
 obtain ⟨_,_,_,_,_,_,hos⟩:=hr.old
 refine ⟨⟨by omega,by omega,by omega,by omega,fun t ht=>?_,fun t ht=>?_⟩,by omega,hy,ho⟩
 ·have:=okT_small (treeP_young h t ht)
  exact ⟨by omega,by omega,rdS_nilOk (hys t ht).2 (okT_blocks (treeP_young h t ht))⟩
 ·have:=okT_small (treeP_old h t ht)
  exact ⟨by omega,by omega,rdS_nilOk (hos t ht).2 (okT_blocks (treeP_old h t ht))⟩
structure BoxedT (W:World) (b:Nat) (X:TrX):Prop where
 box:BoxTr W b X.vm X.vy X.vo X.seq X.vs
 rd:RdTr W X
theorem BoxedT.on {W W':World} {b:Nat} {X:TrX} (h:BoxedT W b X) (hb:Below W.heap.size W W'):BoxedT W' b X:=⟨h.box.on hb,h.rd.below hb⟩
theorem BoxedT.new {W:World} {X:TrX} (h:RdTr W X):BoxedT (W.alloc (.cells #[X.vm,X.vy,X.vo,.int .i64 X.seq,X.vs] 28)) W.heap.size X:=⟨boxTr_new W _ _ _ _ _,h.below (below1 W _)⟩
def CellsT (W:World) (b:Nat) (X:TrX):Prop:=W.cell? ⟨b,0,none⟩=some X.vm∧W.cell? ⟨b,1,none⟩=some X.vy∧W.cell? ⟨b,2,none⟩=some X.vo∧W.cell? ⟨b,3,none⟩=some (.int .i64 X.seq)∧W.cell? ⟨b,4,none⟩=some X.vs
theorem BoxedT.cells {W:World} {b:Nat} {X:TrX} (h:BoxedT W b X):CellsT W b X:=by
 obtain ⟨f0,f1,f2,f3,f4,-⟩:=h.box.facts
 exact ⟨f0,f1,f2,f3,f4⟩
theorem rdTr_zero (w:World):RdTr w ⟨.slice none 0 0,.slice none 0 0,.slice none 0 0,.slice none 0 0,[],[],[],0,[]⟩ :=
 ⟨⟨none,0,rfl,Nat.le_refl _,Nat.zero_le _,fun _=>rfl,.inl rfl⟩,⟨none,0,rfl,Nat.le_refl _,Nat.zero_le _,.inl rfl,fun t ht=>by cases ht⟩,⟨none,0,rfl,Nat.le_refl _,Nat.zero_le _,.inl rfl,fun t ht=>by cases ht⟩,⟨none,0,rfl,Nat.le_refl _,Nat.zero_le _,fun _=>rfl,.inl rfl⟩⟩
def tellW (k:ByteArray) (s:ByteArray×Bool) (x:Wri):ByteArray×Bool:=if kEq x.key k=true then (x.val,!x.gone) else s
def tellN (k:ByteArray) (s:ByteArray×Bool) (xs:List Wri) (j:Nat):ByteArray×Bool:=(xs.take j).foldl (tellW k) s
theorem tellN_zero (k:ByteArray) (s:ByteArray×Bool) (xs:List Wri):tellN k s xs 0=s:=by unfold tellN;rw [List.take_zero];rfl
theorem tellN_more {k:ByteArray} {s:ByteArray×Bool} {xs:List Wri} {j:Nat} (hj:j < xs.length):tellN k s xs (j+1)=tellW k (tellN k s xs j) (nthW xs j):=by
 unfold tellN
 rw [List.take_succ_eq_append_getElem hj,List.foldl_append,nthW_eq hj]
 rfl
def Tells (o:Option ByteArray) (s:ByteArray×Bool):Prop:=o.isSome=s.2∧(s.2=true→o.getD ⟨#[]⟩=s.1)
def told (o:Option ByteArray):ByteArray×Bool:=(o.getD ⟨#[]⟩,o.isSome)
theorem take_all {xs:List Wri} (h:xs.all wriOk=true) (j:Nat):(xs.take j).all wriOk=true:=by
 rw [List.all_eq_true] at h ⊢
 exact fun x hx=>h x (List.mem_of_mem_take hx)
theorem putAll_take {T:Tre} (h:TreeP T) {xs:List Wri} (hx:xs.all wriOk=true) (hs:T.seq+(xs.length:Int)≤1000000) (hl:T.mem.length+xs.length≤300) (j:Nat):TreeP (putAll T (xs.take j)):=by
 have h1:(xs.take j).length≤xs.length:=by rw [List.length_take];omega
 exact putAll_tree h (take_all hx j) (by omega) (by omega)
theorem putAll_tells {T:Tre} (h:TreeP T) {xs:List Wri} (hx:xs.all wriOk=true) (hs:T.seq+(xs.length:Int)≤1000000) (hl:T.mem.length+xs.length≤300) (k:ByteArray) :
 ∀ j:Nat,j≤xs.length→Tells (readT (putAll T (xs.take j)) k (T.seq+(j:Int))) (tellN k (told (readT T k T.seq)) xs j)∧readT (putAll T (xs.take j)) k T.seq=readT T k T.seq:=by
 intro j
 induction j with
 | zero =>
  intro _
  rw [tellN_zero,List.take_zero]
  refine ⟨?_,rfl⟩
  rw [show T.seq+((0:Nat):Int)=T.seq from Int.add_zero _]
  exact ⟨rfl,fun _=>rfl⟩
 | succ j ih =>
  intro hj
  have hj':j < xs.length:=hj
  obtain ⟨i1,i2⟩:=ih (by omega)
  have hp:=putAll_take h hx hs hl j
  have hp2:=putAll_take h hx hs hl (j+1)
  rw [putAll_snoc T hj'] at hp2 ⊢
  have hq:(putAll T (xs.take j)).seq=T.seq+(j:Int):=by rw [putAll_seq,List.length_take,Nat.min_eq_left (by omega)]
  refine ⟨?_,?_⟩
  ·rw [show T.seq+((j+1:Nat):Int)=(putAll T (xs.take j)).seq+1 by rw [hq];omega,put1_now hp hp2,tellN_more hj',hq]
   unfold tellW
   split
   ·cases hg:(nthW xs j).gone<;>simp [Tells]
   ·exact i1
  ·rw [put1_before hp hp2 k (by rw [hq];omega)]
   exact i2
theorem roomFor_parts {T:Tre} {xs:List Wri} (h:roomFor T xs=true):xs.all wriOk=true∧T.seq+(xs.length:Int)≤1000000∧T.mem.length+xs.length≤300:=by
 unfold roomFor at h
 simp only [Bool.and_eq_true,decide_eq_true_eq] at h
 refine ⟨?_,h.1.2,h.2⟩
 have:=h.1.1
 unfold batchOk at this
 simp only [Bool.and_eq_true] at this
 first | exact this.2 | exact this.1
open Go.RowKit
theorem likeInts_no (va vb:Value) (ks bs:List Int) (w:World) (ha:RdI w va ks) (hb:RdI w vb bs) (hn:ks.length≠bs.length) :
 Calls Tryz.prog 25 #[va,vb] w fun e w'=>e=.returned (.bool false)∧w'=w:=by
 obtain ⟨aa,ca,rfl,hla,hma,-⟩:=ha
 obtain ⟨ab,cb,rfl,hlb,hmb,-⟩:=hb
 unfold maxLen at hma hmb
 have hne:((ks.length:Int) != (bs.length:Int))=true:=by simp;omega
 clear hn
 go_enter Tryz.func25,Tryz.ntmps25
 go_wp2
 go_ret
 exact ⟨rfl,rfl⟩
theorem likeEnts_no (va vb:Value) (ks bs:List Ent) (w:World) (ha:RdE w va ks) (hb:RdE w vb bs) (hn:ks.length≠bs.length) :
 Calls Tryz.prog 23 #[va,vb] w fun e w'=>e=.returned (.bool false)∧w'=w:=by
 obtain ⟨aa,ca,rfl,hla,hma,-⟩:=ha
 obtain ⟨ab,cb,rfl,hlb,hmb,-⟩:=hb
 unfold maxLen at hma hmb
 have hne:((ks.length:Int) != (bs.length:Int))=true:=by simp;omega
 clear hn
 go_enter Tryz.func23,Tryz.ntmps23
 go_wp2
 go_ret
 exact ⟨rfl,rfl⟩
theorem likeTabs_no (va vb:Value) (ks bs:List TV) (w:World) (ha:RdTs w va ks) (hb:RdTs w vb bs) (hn:ks.length≠bs.length) :
 Calls Tryz.prog 45 #[va,vb] w fun e w'=>e=.returned (.bool false)∧w'=w:=by
 obtain ⟨aa,ca,rfl,hla,hma,-⟩:=ha
 obtain ⟨ab,cb,rfl,hlb,hmb,-⟩:=hb
 unfold maxLen at hma hmb
 have hne:((ks.length:Int) != (bs.length:Int))=true:=by simp;omega
 clear hn
 go_enter Tryz.func45,Tryz.ntmps45
 go_wp2
 go_ret
 exact ⟨rfl,rfl⟩
def SomeB (w:World) (e:Ending) (w':World):Prop:=∃ b:Bool,e=.returned (.bool b)∧Below w.heap.size w w'
theorem likeEnts_nil (va vb:Value) (bs:List Ent):∃ b:Bool,∀ w:World,RdE w va []→RdE w vb bs→Calls Tryz.prog 23 #[va,vb] w fun e w'=>e=.returned (.bool b)∧Below w.heap.size w w':=by
 by_cases h:bs=[]
 ·subst h
  exact ⟨true,fun w h1 h2=>(likeEntsT_same va vb [] w h1 h2).mono (fun _ _ h=>⟨h.1,by obtain ⟨n,hn⟩:=h.2;rw [hn];exact below_drewN (Below.refl _ _) n⟩)⟩
 ·exact ⟨false,fun w h1 h2=>(likeEnts_no va vb [] bs w h1 h2 (fun e=>h (List.length_eq_zero_iff.1 e.symm))).mono (fun _ _ h=>⟨h.1,by rw [h.2];exact Below.refl _ _⟩)⟩
theorem likeInts_nil (va vb:Value) (bs:List Int):∃ b:Bool,∀ w:World,RdI w va []→RdI w vb bs→Calls Tryz.prog 25 #[va,vb] w fun e w'=>e=.returned (.bool b)∧Below w.heap.size w w':=by
 by_cases h:bs=[]
 ·subst h
  exact ⟨true,fun w h1 h2=>(likeIntsT_same va vb [] w h1 h2).mono (fun _ _ h=>⟨h.1,by obtain ⟨n,hn⟩:=h.2;rw [hn];exact below_drewN (Below.refl _ _) n⟩)⟩
 ·exact ⟨false,fun w h1 h2=>(likeInts_no va vb [] bs w h1 h2 (fun e=>h (List.length_eq_zero_iff.1 e.symm))).mono (fun _ _ h=>⟨h.1,by rw [h.2];exact Below.refl _ _⟩)⟩
theorem likeTabs_nil (va vb:Value) (bs:List TV):∃ b:Bool,∀ w:World,RdTs w va []→RdTs w vb bs→Calls Tryz.prog 45 #[va,vb] w fun e w'=>e=.returned (.bool b)∧Below w.heap.size w w':=by
 by_cases h:bs=[]
 ·subst h
  exact ⟨true,fun w h1 h2=>likeTabs_same va vb [] [] w h1 h2 rfl⟩
 ·exact ⟨false,fun w h1 h2=>(likeTabs_no va vb [] bs w h1 h2 (fun e=>h (List.length_eq_zero_iff.1 e.symm))).mono (fun _ _ h=>⟨h.1,by rw [h.2];exact Below.refl _ _⟩)⟩
theorem likeTree_nil (Y Z:TrX) (w:World) (hy:RdTr w Y) (hz:RdTr w Z) (h:Y.tre=zeroTr) :
 Calls Tryz.prog 12 #[.agg #[Y.vm,Y.vy,Y.vo,.int .i64 Y.seq,Y.vs],.agg #[Z.vm,Z.vy,Z.vo,.int .i64 Z.seq,Z.vs]] w fun e w'=>SomeB w e w':=by
 have hmem:Y.mem=[]:=congrArg Tre.mem h
 have hyo:Y.ys=[]:=List.map_eq_nil_iff.1 (congrArg Tre.young h)
 have hol:Y.os=[]:=List.map_eq_nil_iff.1 (congrArg Tre.old h)
 have hsn:Y.snaps=[]:=congrArg Tre.snaps h
 obtain ⟨c1,HM0⟩:=likeEnts_nil Y.vm Z.vm Z.mem
 obtain ⟨c2,HY0⟩:=likeTabs_nil Y.vy Z.vy Z.ys
 obtain ⟨c3,HO0⟩:=likeTabs_nil Y.vo Z.vo Z.os
 obtain ⟨c4,HS0⟩:=likeInts_nil Y.vs Z.vs Z.snaps
 have HM:Hid (∀ W,RdTr W Y→RdTr W Z→Calls Tryz.prog 23 #[Y.vm,Z.vm] W fun e w'=>e=.returned (.bool c1)∧Below W.heap.size W w'):=fun W h1 h2=>HM0 W (by rw [← hmem];exact h1.mem) h2.mem
 have HY:Hid (∀ W,RdTr W Y→RdTr W Z→Calls Tryz.prog 45 #[Y.vy,Z.vy] W fun e w'=>e=.returned (.bool c2)∧Below W.heap.size W w'):=fun W h1 h2=>HY0 W (by rw [← hyo];exact h1.young) h2.young
 have HO:Hid (∀ W,RdTr W Y→RdTr W Z→Calls Tryz.prog 45 #[Y.vo,Z.vo] W fun e w'=>e=.returned (.bool c3)∧Below W.heap.size W w'):=fun W h1 h2=>HO0 W (by rw [← hol];exact h1.old) h2.old
 have HS:Hid (∀ W,RdTr W Y→RdTr W Z→Calls Tryz.prog 25 #[Y.vs,Z.vs] W fun e w'=>e=.returned (.bool c4)∧Below W.heap.size W w'):=fun W h1 h2=>HS0 W (by rw [← hsn];exact h1.snaps) h2.snaps
 clear hmem hyo hol hsn h HM0 HY0 HO0 HS0
 obtain ⟨vm,vy,vo,vs,mem,ys,os,seq,snaps⟩:=Y
 obtain ⟨zm,zy,zo,zs,mem2,ys2,os2,seq2,snaps2⟩:=Z
 simp only at HM HY HO HS ⊢
 have t0:=treAt_new w ⟨vm,vy,vo,vs,mem,ys,os,seq,snaps⟩ 28
 have b0:=below1 w (.cells #[vm,vy,vo,.int .i64 seq,vs] 28)
 simp only at t0
 obtain ⟨W0,hW0⟩:∃ W0,W0=w.alloc (.cells #[vm,vy,vo,.int .i64 seq,vs] 28):=⟨_,rfl⟩
 have s0:W0.heap.size=w.heap.size+1:=by rw [hW0];simp
 rw [← hW0] at t0 b0
 have u1:=treAt_new W0 ⟨zm,zy,zo,zs,mem2,ys2,os2,seq2,snaps2⟩ 28
 have b1:=below1 W0 (.cells #[zm,zy,zo,.int .i64 seq2,zs] 28)
 simp only at u1
 obtain ⟨W1,hW1⟩:∃ W1,W1=W0.alloc (.cells #[zm,zy,zo,.int .i64 seq2,zs] 28):=⟨_,rfl⟩
 rw [← hW1] at u1 b1
 rw [s0] at u1
 have t1:=t0.below b1
 have bw1:Below w.heap.size w W1:=b0.trans (b1.mono (by omega))
 have HW1:Hid ((w.alloc (.cells #[vm,vy,vo,.int .i64 seq,vs] 28)).alloc (.cells #[zm,zy,zo,.int .i64 seq2,zs] 28)=W1):=by unfold Hid;rw [hW1,hW0]
 obtain ⟨d0,d1,d2,d3,d4⟩:=id t1
 obtain ⟨e0,e1,e2,e3,e4⟩:=id u1
 simp only at d0 d1 d2 d3 d4 e0 e1 e2 e3 e4
 rw [hW1,hW0] at d0 d1 d2 d3 d4 e0 e1 e2 e3 e4
 clear t0 b0 b1 hW0 hW1 s0
 go_enter Tryz.func12,Tryz.ntmps12
 go_wp2_with fail
 rw [HW1.out]
 refine (HM.out _ (hy.below bw1) (hz.below bw1)).mono ?_
 rintro e w2 ⟨rfl,hb2⟩
 have t2:=t1.below hb2
 have u2:=u1.below hb2
 have b2:=bw1.trans (hb2.mono bw1.size)
 clear d0 d1 d2 d3 d4 e0 e1 e2 e3 e4 t1 u1 bw1 hb2
 obtain ⟨d0,d1,d2,d3,d4⟩:=id t2
 obtain ⟨e0,e1,e2,e3,e4⟩:=id u2
 simp only at d0 d1 d2 d3 d4 e0 e1 e2 e3 e4
 clear HM HW1
 cases c1 with
 | false =>
  go_wp2
  go_ret
  exact ⟨_,rfl,b2⟩
 | true =>
 go_wp2_with fail
 refine (HY.out _ (hy.below b2) (hz.below b2)).mono ?_
 rintro e w3 ⟨rfl,hb3⟩
 have t3:=t2.below hb3
 have u3:=u2.below hb3
 have b3:=b2.trans (hb3.mono b2.size)
 clear d0 d1 d2 d3 d4 e0 e1 e2 e3 e4 t2 u2 b2 hb3
 obtain ⟨d0,d1,d2,d3,d4⟩:=id t3
 obtain ⟨e0,e1,e2,e3,e4⟩:=id u3
 simp only at d0 d1 d2 d3 d4 e0 e1 e2 e3 e4
 clear HY
 cases c2 with
 | false =>
  go_wp2
  go_ret
  exact ⟨_,rfl,b3⟩
 | true =>
 go_wp2_with fail
 refine (HO.out _ (hy.below b3) (hz.below b3)).mono ?_
 rintro e w4 ⟨rfl,hb4⟩
 have t4:=t3.below hb4
 have u4:=u3.below hb4
 have b4:=b3.trans (hb4.mono b3.size)
 clear d0 d1 d2 d3 d4 e0 e1 e2 e3 e4 t3 u3 b3 hb4
 obtain ⟨d0,d1,d2,d3,d4⟩:=id t4
 obtain ⟨e0,e1,e2,e3,e4⟩:=id u4
 simp only at d0 d1 d2 d3 d4 e0 e1 e2 e3 e4
 clear HO
 cases c3 with
 | false =>
  go_wp2
  go_ret
  exact ⟨_,rfl,b4⟩
 | true =>
 by_cases hs:seq=seq2
 ·have hq:(seq == seq2)=true:=by simp [hs]
  have hq2:decide (seq=seq2)=true:=by simp [hs]
  go_wp2_with fail
  refine (HS.out _ (hy.below b4) (hz.below b4)).mono ?_
  rintro e w5 ⟨rfl,hb5⟩
  have b5:=b4.trans (hb5.mono b4.size)
  clear d0 d1 d2 d3 d4 e0 e1 e2 e3 e4 HS
  go_wp2
  go_ret
  exact ⟨_,rfl,b5⟩
 ·have hq:(seq == seq2)=false:=by simp [hs]
  have hq2:decide (seq=seq2)=false:=by simp [hs]
  go_wp2
  go_ret
  exact ⟨_,rfl,b4⟩
end Go.Proofs.YtmlmlemiidedcaaGreat
