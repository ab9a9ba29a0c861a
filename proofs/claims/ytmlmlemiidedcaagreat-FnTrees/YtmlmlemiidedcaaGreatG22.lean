import Derived.Test.YtmlmlemiidedcaaGreatG21
import Derived.RegionTactic
import Derived.ChangeAlike
import Derived.WalkMore
import Derived.Deep.LoopGhost
import Derived.Deep.DeepCutAuto
namespace Go.Proofs.YtmlmlemiidedcaaGreat
set_option maxHeartbeats 16000000
set_option maxRecDepth 100000
open Go.RowKit
theorem isNaNn_any (x:Int) (w:World):Calls Tryz.prog 189 #[.int .i64 x] w fun e w'=>e=.returned (.bool false)∧w'=w:=by
 have hx:(x != x)=false:=by simp
 go_enter Tryz.func189,Tryz.ntmps189
 go_wp2
 go_ret
 exact ⟨rfl,rfl⟩
theorem cmpN_any (a b:Int) (w:World):Calls Tryz.prog 188 #[.int .i64 a,.int .i64 b] w fun e w'=>e=.returned (.int .i64 (cmpI a b))∧w'=w:=by
 go_enter Tryz.func188,Tryz.ntmps188
 go_wp2_with (go_at_call 189;refine (isNaNn_any _ _).mono ?_;rintro e w' ⟨rfl,rfl⟩)
 all_goals go_ret
 all_goals exact ⟨ret_intE (by unfold cmpI;first | rw [if_pos ‹_›] | (rw [if_neg (by omega)];first | rw [if_pos ‹_›] | rw [if_neg (by omega)])),rfl⟩
theorem two_new (w:World) (x y:Value) (t:TypeId):(w.alloc (.cells #[x,y] t)).cell? ⟨w.heap.size,0,none⟩=some x∧(w.alloc (.cells #[x,y] t)).cell? ⟨w.heap.size,1,none⟩=some y:=by
 constructor<;>simp [World.cell?_alloc_at]
theorem ordE_bd (x y:Ent) : -1≤ordE x y∧ordE x y≤1:=by
 unfold ordE
 split
 ·exact cmpK_bd _ _
 ·exact cmpI_bd _ _
theorem Hp.src {w0 w:World} {sb:Nat} {v:Value} {hs:List Src} (h:Hp w0 w sb v hs) {i:Nat} (hi:i < hs.length) :
 ∃ b off n cap x r,(sN hs i).v=.slice (some ⟨b,off,none⟩) (n+1) cap∧(sN hs i).es=x::r∧n=r.length∧n+1≤cap∧cap≤maxLen∧EntAt w b off x∧(sN hs i).hd=x:=by
 obtain ⟨hr,hne⟩:=h.rd _ (sN_mem hi)
 cases he:(sN hs i).es with
 | nil=>exact absurd he hne
 | cons x r =>
  rw [he] at hr
  obtain ⟨b,off,n,cap,hv,hn,h1,h2,hx⟩:=rdE_hd hr
  exact ⟨b,off,n,cap,x,r,hv,rfl,hn,h1,h2,hx.of_block (h.bel.block b hx.lt),by unfold Src.hd;rw [he,nth_zero]⟩
theorem kU0G22 (i d:Nat) {P:Program} {ops:Array Oper} {Q:Exit→Act→World→Prop} {md:Region.Mode} {S:World→Prop} {oi:Oper} {v:Value} {fuel:Nat} {listed:Array Bool} {a a':Act} {w:World} (hS:S w) (h:wpAnyH P md ops (NoPanic Q) S fuel (listed.setIfInBounds i true) a' w) (hi:ops[i]? = some oi:=by rfl) (hd:oi.dst=some d:=by rfl) (hs:Region.noSelect ops=true:=by kernel_rfl) (hf:Region.free md ops listed i=true:=by kernel_rfl) (hr:(Region.ready md ops listed).contains i=true:=by kernel_rfl) (hw:Region.wanted oi (yielded ops a.tmps)=true:=by kernel_rfl) (hy:∀ w,S w→(execOp a.eval oi).run P w=.ok (.value v) w:=by intro w hS;(try dsimp only [EntAt,SrcAt,Nat.zero_add] at hS);go_simp;(try with_reducible rfl)) (ha:a.put (some d) v=a':=by (try simp only [Act.put,sA,sZ,sS]);(try rfl)):wpAnyH P md ops (NoPanic Q) S (fuel+1) listed a w:=takeH hi hd hs hf hr (fun _ _ _ h=>h) (Or.inl ⟨hw,hy⟩) hS (ha ▸ h)
theorem less_any (w0 w:World) (sb:Nat) (v:Value) (hs:List Src) (i j:Nat) (h:Hp w0 w sb v hs) (hi:i < hs.length) (hj:j < hs.length) :
 Calls Tryz.prog 184 #[v,.int .i64 i,.int .i64 j] w fun e w'=>e=.returned (.bool (lessS (sN hs i) (sN hs j)))∧Below w.heap.size w w':=by
 obtain ⟨g,cap,hv,hlc,hcm⟩:=ownH_shape h.own (by omega)
 have hown:=h.own
 rw [hv] at hown
 have ha:=ownH_at hown i hi
 have hb:=ownH_at hown j hj
 obtain ⟨ba,oa,na,ca,x,ra,hva,_,_,hca,hma,hxa,hha⟩:=h.src hi
 obtain ⟨bb,ob,nb,cb,y,rb,hvb,_,_,hcb,hmb,hxb,hhb⟩:=h.src hj
 have RES:Hid (∀ z,z=(if ordE x y≠0 then ordE x y else cmpI (sN hs i).no (sN hs j).no)→decide (z < 0)=lessS (sN hs i) (sN hs j)):=by
  intro z hz
  have:=ltT_ord x y (sN hs i).no (sN hs j).no
  unfold lessS
  rw [hz,Bool.eq_iff_iff,decide_eq_true_eq,hha,hhb]
  exact this
 obtain ⟨k1,k2⟩:=ha
 obtain ⟨k3,k4⟩:=hb
 rw [hva] at k1
 rw [hvb] at k3
 obtain ⟨L,hL⟩:∃ L,L=lessS (sN hs i) (sN hs j):=⟨_,rfl⟩
 rw [← hL] at RES ⊢
 generalize (sN hs i).no=ia at k2 RES
 generalize (sN hs j).no=ib at k4 RES
 obtain ⟨n,hn⟩:∃ n,n=hs.length:=⟨_,rfl⟩
 rw [← hn] at hv hlc hi hj
 subst hv
 unfold maxLen at hcm hma hmb
 have bx:=ordE_bd x y
 have hy1:=cmpI_bd ia ib
 obtain ⟨z,hz⟩:∃ z,z=(if ordE x y≠0 then ordE x y else cmpI ia ib):=⟨_,rfl⟩
 have HZ:Hid (z=(if ordE x y≠0 then ordE x y else cmpI ia ib)):=hz
 have HR:=RES.out z hz
 have HRH:Hid (decide (z < 0)=L):=HR
 have HCO:Hid (∀ W,Calls Tryz.prog 110 #[.agg #[.string x.key,.string x.val,.int .i64 x.seq,.bool x.gone],.agg #[.string y.key,.string y.val,.int .i64 y.seq,.bool y.gone]] W fun e w'=>e=.returned (.int .i64 (ordE x y))∧Below W.heap.size W w'):=fun W=>entryOrder_any x y W
 have hic:i < cap:=by omega
 have hjc:j < cap:=by omega
 clear hz HR RES hL hn h hown hha hhb hva hvb
 generalize ordE x y=oxy at bx HZ HCO
 go_enter Tryz.func184,Tryz.ntmps184
 go_wp2_with fail
 refine wp_region_noPanic ?_
 refine wp_region_held_drew (S:=fun W=>SrcAt W g (i*2) ⟨.slice (some ⟨ba,oa,none⟩) (na+1) ca,[],ia⟩∧SrcAt W g (j*2) ⟨.slice (some ⟨bb,ob,none⟩) (nb+1) cb,[],ib⟩∧EntAt W ba oa x∧EntAt W bb ob y) (by kernel_rfl) ⟨⟨k1,k2⟩,⟨k3,k4⟩,hxa,hxb⟩ (fun hH=>?_)
 refine kU0G22 0 7 hH ?_
 refine kU0G22 1 8 hH ?_
 refine kU0G22 2 9 hH ?_
 refine kU0G22 3 10 hH ?_
 refine kU0G22 4 11 hH ?_
 refine kU0G22 5 12 hH ?_
 refine kU0G22 6 13 hH ?_
 refine kU0G22 7 14 hH ?_
 refine kU0G22 8 15 hH ?_
 refine kU0G22 9 16 hH ?_
 refine kU0G22 10 17 hH ?_
 refine kU0G22 11 18 hH ?_
 refine kU0G22 12 19 hH ?_
 refine kU0G22 13 20 hH ?_
 refine kU0G22 15 22 hH ?_
 refine kU0G22 16 23 hH ?_
 refine kU0G22 17 24 hH ?_
 refine kU0G22 18 25 hH ?_
 refine kU0G22 19 26 hH ?_
 refine kU0G22 20 27 hH ?_
 refine kU0G22 21 28 hH ?_
 refine kU0G22 22 29 hH ?_
 refine kU0G22 23 30 hH ?_
 refine kU0G22 24 31 hH ?_
 refine wpAnyH_ready (rs:=[14]) (by kernel_rfl) (by simp) ?_
 refine AllReadyH.cons rfl (fun K hK=>?_) AllReadyH.nil
 go_simp
 refine (HCO.out _).mono ?_
 rintro e w3 ⟨rfl,hb3⟩
 refine hK.out _ _ ⟨hH.1.below hb3,hH.2.1.below hb3,hH.2.2.1.below hb3,hH.2.2.2.below hb3⟩ (fun hB=>?_)
 clear hK K
 try simp only [Act.put,sA,sZ,sS]
 clear hH
 refine wpAnyH_ready (rs:=[25]) (by kernel_rfl) (by simp) ?_
 refine AllReadyH.cons rfl (fun K hK=>?_) AllReadyH.nil
 go_simp
 refine (cmpN_any _ _ _).mono ?_
 rintro e w4 ⟨rfl,rfl⟩
 refine hK.out _ _ hB (fun hB2=>?_)
 clear hK K
 try simp only [Act.put,sA,sZ,sS]
 clear hB
 refine wpAnyH_ready (rs:=[26]) (by kernel_rfl) (by simp) ?_
 refine AllReadyH.cons rfl (fun K hK=>?_) AllReadyH.nil
 go_simp
 have bN:=below1 w4 (.cells #[.int .i64 oxy,.int .i64 (cmpI ia ib)] 3)
 obtain ⟨z0,z1⟩:=two_new w4 (.int .i64 oxy) (.int .i64 (cmpI ia ib)) 3
 refine hK.out _ _ ⟨hB2.1.below bN,hB2.2.1.below bN,hB2.2.2.1.below bN,hB2.2.2.2.below bN⟩ (fun hB3=>?_)
 clear hK K
 try simp only [Act.put,sA,sZ,sS]
 clear hB2
 refine wpAnyH_ready (rs:=[27]) (by kernel_rfl) (by simp) ?_
 refine AllReadyH.cons rfl (fun K hK=>?_) AllReadyH.nil
 go_simp
 refine (or_at oxy (cmpI ia ib) z _ _ HZ.out z0 z1 bx hy1).mono ?_
 rintro e w5 ⟨rfl,rfl⟩
 refine hK.out _ _ hB3 (fun hB4=>?_)
 clear hK K
 try simp only [Act.put,sA,sZ,sS]
 clear hB3
 refine kU0G22 28 35 hB4 ?_
 refine kU0G22 29 6 hB4 ?_
 refine wpAnyH_done (by kernel_rfl) ?_ _
 refine NoPanic.normal ?_
 have bF:Below w.heap.size w (w4.alloc (.cells #[.int .i64 oxy,.int .i64 (cmpI ia ib)] 3)):=(((Below.refl w.heap.size w).drew).trans hb3).trans (bN.mono hb3.size)
 clear hB4 z0 z1 bN hb3
 go_wp2
 go_ret
 exact ⟨ret_bool HRH.out,bF⟩
open Go.RowKit
theorem swap_row {w:World} {base g n cap:Nat} {hs:List Src} {i j:Nat} (hown:OwnH w base (.slice (some ⟨g,0,none⟩) n cap) hs) (hi:i < hs.length) (hj:j < hs.length) :
 OwnH ((((w.setCell ⟨g,i*2,none⟩ (sN hs j).v).setCell ⟨g,i*2+1,none⟩ (.int .i64 (sN hs j).no)).setCell ⟨g,j*2,none⟩ (sN hs i).v).setCell ⟨g,j*2+1,none⟩ (.int .i64 (sN hs i).no)) base (.slice (some ⟨g,0,none⟩) n cap) (swapS hs i j) ∧
 w.grownBy ((((w.setCell ⟨g,i*2,none⟩ (sN hs j).v).setCell ⟨g,i*2+1,none⟩ (.int .i64 (sN hs j).no)).setCell ⟨g,j*2,none⟩ (sN hs i).v).setCell ⟨g,j*2+1,none⟩ (.int .i64 (sN hs i).no)) (some g):=by
 have hn:n=hs.length:=by
  rcases hown.2 with ⟨h0,_⟩ | ⟨g',cap',cur,hv,_⟩
  ·cases h0
  ·simp only [Value.slice.injEq] at hv;exact hv.2.1
 subst hn
 have r1:=World.ownsRow.stored hown (i*2) (sN hs j).v
 have r2:=World.ownsRow.stored r1.1 (i*2+1) (.int .i64 (sN hs j).no)
 have r3:=World.ownsRow.stored r2.1 (j*2) (sN hs i).v
 have r4:=World.ownsRow.stored r3.1 (j*2+1) (.int .i64 (sN hs i).no)
 have tr:∀ {a b c:World},a.grownBy b (some g)→b.grownBy c (some g)→a.grownBy c (some g):=fun h k =>
  ⟨k.os.trans h.os,k.tape.trans h.tape,k.output.trans h.output,Nat.le_trans h.size k.size,fun i hi hr=>(k.block i (Nat.lt_of_lt_of_le hi h.size) hr).trans (h.block i hi hr)⟩
 refine ⟨?_,tr (tr (tr r1.2 r2.2) r3.2) r4.2⟩
 have e:HV (swapS hs i j)=((((HV hs).set (i*2) (sN hs j).v).set (i*2+1) (.int .i64 (sN hs j).no)).set (j*2) (sN hs i).v).set (j*2+1) (.int .i64 (sN hs i).no):=by
  unfold swapS
  rw [HV_set _ j _ (by simpa using hj),HV_set _ i _ hi]
 unfold OwnH
 rw [e,swapS_len]
 exact r4.1
theorem swap_any (w:World) (base g n cap:Nat) (hs:List Src) (i j:Nat) (hown:OwnH w base (.slice (some ⟨g,0,none⟩) n cap) hs) (hi:i < hs.length) (hj:j < hs.length) (hsl:∀ s∈hs,∃ a n c,s.v=.slice a n c) :
 Calls Tryz.prog 187 #[.slice (some ⟨g,0,none⟩) n cap,.int .i64 i,.int .i64 j] w fun e w'=>e=.returned (.tuple #[])∧OwnH w' base (.slice (some ⟨g,0,none⟩) n cap) (swapS hs i j)∧w.grownBy w' (some g):=by
 obtain ⟨g',cap',hv',hlc,hcm⟩:=ownH_shape hown (by omega)
 simp only [Value.slice.injEq] at hv'
 obtain ⟨-,hn,hcc⟩:=hv'
 rw [← hcc] at hlc hcm
 have hso:=hown
 unfold OwnH at hso
 rw [hn] at hso
 obtain ⟨k1,k2⟩:=ownH_at hown i hi
 obtain ⟨k3,k4⟩:=ownH_at hown j hj
 have f1:=World.ownsRow.frozenAt hso (i*2)
 have f2:=World.ownsRow.frozenAt hso (i*2+1)
 have f3:=World.ownsRow.frozenAt hso (j*2)
 have f4:=World.ownsRow.frozenAt hso (j*2+1)
 have R:=swap_row hown hi hj
 obtain ⟨a1,n1,c1,hva⟩:=hsl _ (sN_mem hi)
 obtain ⟨a2,n2,c2,hvb⟩:=hsl _ (sN_mem hj)
 rw [hva] at k1 R
 rw [hvb] at k3 R
 generalize hs':swapS hs i j=hs2 at R
 obtain ⟨na,hna⟩:∃ na,na=(sN hs i).no:=⟨_,rfl⟩
 obtain ⟨nb,hnb⟩:∃ nb,nb=(sN hs j).no:=⟨_,rfl⟩
 rw [← hna] at k2 R
 rw [← hnb] at k4 R
 have HR:Hid (_∧_):=R
 have hic:i < n:=by omega
 have hjc:j < n:=by omega
 have hnc:n≤cap:=by omega
 unfold maxLen at hcm
 by_cases hij:i=j
 ·subst hij
  have e1:a2=a1∧n2=n1∧c2=c1:=by rw [hva] at hvb;simp only [Value.slice.injEq] at hvb;exact ⟨hvb.1.symm,hvb.2.1.symm,hvb.2.2.symm⟩
  obtain ⟨rfl,rfl,rfl⟩:=e1
  obtain rfl:nb=na:=by rw [hna,hnb]
  clear hso hown hsl R hna hnb hva hvb hs' hn hcc hlc hi hj
  go_enter Tryz.func187,Tryz.ntmps187
  go_wp2
  go_region
  all_goals (go_end0;exact ⟨rfl,HR.out.1,gr_dr HR.out.2⟩)
 ·have hji:¬ j=i:=fun e=>hij e.symm
  clear hso hown hsl R hna hnb hva hvb hs' hn hcc hlc hi hj
  go_enter Tryz.func187,Tryz.ntmps187
  go_wp2
  go_region
  all_goals (go_end0;exact ⟨rfl,HR.out.1,gr_dr HR.out.2⟩)
where
 gr_dr {a w:World} {row:Option Nat} (h:a.grownBy w row):a.grownBy w.drew row:=⟨h.os,h.tape,h.output,h.size,h.block⟩
open Go.RowKit
theorem Hp.slices {w0 w:World} {sb:Nat} {v:Value} {hs:List Src} (h:Hp w0 w sb v hs):∀ s∈hs,∃ a n c,s.v=.slice a n c:=fun s hs=>by
 obtain ⟨a,cap,hv,_⟩:=(h.rd s hs).1
 exact ⟨a,_,cap,hv⟩
theorem Hp.swapped {w0 w w':World} {sb g n cap:Nat} {hs hs2:List Src} (h:Hp w0 w sb (.slice (some ⟨g,0,none⟩) n cap) hs) (ho:OwnH w' w0.heap.size (.slice (some ⟨g,0,none⟩) n cap) hs2) (hg:w.grownBy w' (some g)) (hp:hs2.Perm hs) :
 Hp w0 w' sb (.slice (some ⟨g,0,none⟩) n cap) hs2∧Hop w (.slice (some ⟨g,0,none⟩) n cap) sb w' (.slice (some ⟨g,0,none⟩) n cap):=by
 have hgs:g≠sb:=h.ne g rfl
 have hgB:w0.heap.size≤g:=(World.ownsRow.lt h.own g rfl).1
 refine ⟨⟨h.bel.grown hg h.bel.size (fun k hk=>by cases hk;exact hgB),h.ge,(hg.block sb h.lt (fun e=>hgs (by simpa using e.symm))).trans h.box,ho,h.ne,fun s hs=>h.rd s (hp.mem_iff.1 hs),by rw [hp.length_eq];exact h.few⟩,⟨hg.size,fun k hk _ hv=>hg.block k hk (fun e=>hv (by rw [e];rfl)),fun _ h=>.inl h⟩⟩
theorem swapH_any (w0 w:World) (sb:Nat) (v:Value) (hs:List Src) (i j:Nat) (h:Hp w0 w sb v hs) (hi:i < hs.length) (hj:j < hs.length) :
 Calls Tryz.prog 187 #[v,.int .i64 i,.int .i64 j] w fun e w'=>e=.returned (.tuple #[])∧Hp w0 w' sb v (swapS hs i j)∧Hop w v sb w' v:=by
 obtain ⟨g,cap,hv,_,_⟩:=ownH_shape h.own (by omega)
 have hown:=h.own
 generalize hs.length=n at hv
 subst hv
 refine (swap_any w _ g n cap hs i j hown hi hj h.slices).mono ?_
 rintro e w' ⟨he,ho,hg⟩
 exact ⟨he,h.swapped ho hg (swapS_perm hi hj)⟩
theorem less_at (w0 w:World) (sb:Nat) (v:Value) (hs:List Src) (i j:Nat) (x y:Int) (L:Bool) (hx:x=(i:Int)) (hy:y=(j:Int)) (h:Hp w0 w sb v hs) (hi:i < hs.length) (hj:j < hs.length) (hL:lessS (sN hs i) (sN hs j)=L) :
 Calls Tryz.prog 184 #[v,.int .i64 x,.int .i64 y] w fun e w'=>e=.returned (.bool L)∧Below w.heap.size w w':=by
 subst hx;subst hy;subst hL;exact less_any w0 w sb v hs i j h hi hj
theorem swapH_at (w0 w:World) (sb:Nat) (v:Value) (hs:List Src) (i j:Nat) (x y:Int) (hx:x=(i:Int)) (hy:y=(j:Int)) (h:Hp w0 w sb v hs) (hi:i < hs.length) (hj:j < hs.length) :
 Calls Tryz.prog 187 #[v,.int .i64 x,.int .i64 y] w fun e w'=>e=.returned (.tuple #[])∧Hp w0 w' sb v (swapS hs i j)∧Hop w v sb w' v:=by
 subst hx;subst hy;exact swapH_any w0 w sb v hs i j h hi hj
def UpPost (w0 w:World) (sb:Nat) (v:Value) (hs:List Src) (e:Ending) (w':World):Prop :=
 ∃ hs',e=.returned (.tuple #[])∧Hp w0 w' sb v hs'∧hs'.Perm hs∧HP hs' hs'.length∧Hop w v sb w' v
theorem up_any (w0 w:World) (sb:Nat) (v:Value) (hs:List Src) (j:Nat) (h:Hp w0 w sb v hs) (hj:j < hs.length) (hu:upOk hs j) :
 Calls Tryz.prog 162 #[.iface 146 (.pointer (some ⟨sb,0,none⟩)),.int .i64 j] w fun e w'=>UpPost w0 w sb v hs e w':=by
 have hf:=h.few
 go_enter Tryz.func162,Tryz.ntmps162
 go_wp2
 go_loopw [1] (fun jv wr=>∃ (jn:Nat) (hs1:List Src),jv=.int .i64 jn∧jn < hs1.length∧jn≤20∧Hp w0 wr sb v hs1∧Hid (hs1.Perm hs)∧Hid (upOk hs1 jn)∧Hop w v sb wr v) (fun jv _=>(intOf jv).toNat)
 case atStart=>exact ⟨j,hs,rfl,hj,by omega,h,List.Perm.refl _,hu,Hop.refl _ _ _⟩
 case round =>
  obtain ⟨jn,hs1,rfl,hj1,hj20,h1,HPM,HUO,hop⟩:=hrel
  clear h hu hj
  cases jn with
  | zero =>
   have HE:Hid (UpPost w0 w sb v hs (.returned (.tuple #[])) wr):=⟨hs1,rfl,h1,HPM.out,up_zero HUO.out,hop⟩
   clear h1 hop
   go_wp2
   go_end0
   exact HE.out
  | succ m =>
   obtain ⟨i,hi⟩:∃ i,i=m / 2:=⟨_,rfl⟩
   have hii:i < hs1.length:=by omega
   have him:i < m+1:=by omega
   have hpi:(m+1 - 1) / 2=i:=by omega
   have HI:Hid (i=m / 2):=hi
   have hq:=m_Less wr sb v h1.cell
   cases hl:lessS (sN hs1 (m+1)) (sN hs1 i) with
   | true =>
    have HUO2:Hid (upOk (swapS hs1 i (m+1)) i):=by
     have:=up_step hj1 (by omega) HUO.out (by rw [hpi];exact hl)
     rw [hpi] at this;exact this
    have HPM2:Hid ((swapS hs1 i (m+1)).Perm hs):=(swapS_perm hii hj1).trans HPM.out
    go_wp2_with fail
    refine (less_at w0 _ sb v hs1 (m+1) i _ _ true ?e1 ?e2 h1 hj1 hii hl).mono ?_
    case e1=>omega
    case e2=>omega
    rintro e w2 ⟨rfl,hb2⟩
    have h2:=h1.below hb2
    have hop2:=hop.trans (Hop.below hb2)
    have hq2:=m_Swap w2 sb v h2.cell
    clear h1 hop hb2 hq
    go_wp2_with fail
    refine (swapH_at w0 _ sb v hs1 i (m+1) _ _ ?e3 ?e4 h2 hii hj1).mono ?_
    case e3=>omega
    case e4=>omega
    rintro e w3 ⟨rfl,h3,hop3⟩
    have hop4:=hop2.trans hop3
    clear h2 hop2 hop3 hq2
    go_wp2
    go_roundw
    case rel=>exact ⟨i,_,by first | rfl | go_num | (congr 1;omega),by rw [swapS_len];exact hii,by omega,h3,HPM2,HUO2,hop4⟩
    case measure=>simp [intOf];omega
   | false =>
    go_wp2_with fail
    refine (less_at w0 _ sb v hs1 (m+1) i _ _ false ?e1 ?e2 h1 hj1 hii hl).mono ?_
    case e1=>omega
    case e2=>omega
    rintro e w2 ⟨rfl,hb2⟩
    have HE:Hid (UpPost w0 w sb v hs (.returned (.tuple #[])) w2):=⟨hs1,rfl,h1.below hb2,HPM.out,up_stop HUO.out (by rw [hpi];exact hl),hop.trans (Hop.below hb2)⟩
    clear h1 hop hb2 hq
    go_wp2
    go_end0
    exact HE.out
def DnPost (w0 w:World) (sb:Nat) (v:Value) (hs:List Src) (n:Nat) (e:Ending) (w':World):Prop :=
 ∃ hs' b,e=.returned (.bool b)∧Hp w0 w' sb v hs'∧hs'.Perm hs∧(∀ k,n≤k→sN hs' k=sN hs k)∧HP hs' n∧Hop w v sb w' v
theorem down_any (w0 w:World) (sb:Nat) (v:Value) (hs:List Src) (n:Nat) (x:Int) (hx:x=(n:Int)) (h:Hp w0 w sb v hs) (hn:n < hs.length) (hu:dnOk hs 0 n) :
 Calls Tryz.prog 163 #[.iface 146 (.pointer (some ⟨sb,0,none⟩)),.int .i64 0,.int .i64 x] w fun e w'=>DnPost w0 w sb v hs n e w':=by
 subst hx
 have hf:=h.few
 go_enter Tryz.func163,Tryz.ntmps163
 go_wp2
 go_loopw [7] (fun jv wr=>∃ (i:Nat) (hs1:List Src),jv=.int .i64 i∧i≤20∧i≤n∧n < hs1.length∧Hp w0 wr sb v hs1∧Hid (hs1.Perm hs)∧Hid (∀ k,n≤k→sN hs1 k=sN hs k)∧Hid (dnOk hs1 i n)∧Hop w v sb wr v) (fun jv _=>n - (intOf jv).toNat)
 case atStart=>exact ⟨0,hs,rfl,by omega,by omega,hn,h,List.Perm.refl _,(fun k _=>rfl),hu,Hop.refl _ _ _⟩
 case round =>
  obtain ⟨i,hs1,rfl,hi20,hin,hn1,h1,HPM,HTL,HUO,hop⟩:=hrel
  clear h hu hn
  by_cases hj:n≤2*i+1
  ·skip
   have HE:Hid (∀ b,DnPost w0 w sb v hs n (.returned (.bool b)) wr):=fun b=>⟨hs1,b,rfl,h1,HPM.out,HTL.out,dn_end HUO.out hj,hop⟩
   have hj2:(n:Int)≤2*(i:Int)+1:=by omega
   clear h1 hop
   go_wp2
   go_ret
   exact HE.out _
  ·skip
   have hj2:¬ (n:Int)≤2*(i:Int)+1:=by omega
   have hj3:¬ 2*(i:Int)+1 < 0:=by omega
   have hn20:n≤20:=by have:=h1.few;omega
   have hq:=m_Less wr sb v h1.cell
   by_cases hr:2*i+2 < n
   ·have hr2:2*(i:Int)+1+1 < (n:Int):=by omega
    cases hb:lessS (sN hs1 (2*i+2)) (sN hs1 (2*i+1)) with
    | true =>
     have HC:Hid (∀ k,k < n→k=2*i+1∨k=2*i+2→lessS (sN hs1 k) (sN hs1 (2*i+2))=false):=fun k _ hk=>by
      rcases hk with rfl | rfl
      ·exact lessS_asymm hb
      ·exact ltT_irrefl _ _
     go_wp2_with fail
     refine (less_at w0 _ sb v hs1 (2*i+2) (2*i+1) _ _ true ?e1 ?e2 h1 (by omega) (by omega) hb).mono ?_
     case e1=>omega
     case e2=>omega
     rintro e w2 ⟨rfl,hb2⟩
     have h2:=h1.below hb2
     have hop2:=hop.trans (Hop.below hb2)
     have hq2:=m_Less w2 sb v h2.cell
     clear h1 hop hb2 hq
     have hjl:2*i+2 < hs1.length:=by omega
     have hil:i < hs1.length:=by omega
     cases hl:lessS (sN hs1 (2*i+2)) (sN hs1 i) with
     | true =>
      have HUO2:Hid (dnOk (swapS hs1 i (2*i+2)) (2*i+2) n):=dn_step (by omega) (by omega) (by omega) HUO.out HC.out hl
      have HPM2:Hid ((swapS hs1 i (2*i+2)).Perm hs):=(swapS_perm hil hjl).trans HPM.out
      have HTL2:Hid (∀ k,n≤k→sN (swapS hs1 i (2*i+2)) k=sN hs k):=fun k hk=>by rw [sN_swap hil hjl,if_neg (by omega),if_neg (by omega)];exact HTL.out k hk
      go_wp2_with fail
      refine (less_at w0 _ sb v hs1 (2*i+2) i _ _ true ?e1 ?e2 h2 hjl hil hl).mono ?_
      case e1=>omega
      case e2=>omega
      rintro e w5 ⟨rfl,hb5⟩
      have h5:=h2.below hb5
      have hop5:=hop2.trans (Hop.below hb5)
      have hq5:=m_Swap w5 sb v h5.cell
      clear hb5 h2 hop2 hq2
      go_wp2_with fail
      refine (swapH_at w0 _ sb v hs1 i (2*i+2) _ _ ?e3 ?e4 h5 hil hjl).mono ?_
      case e3=>omega
      case e4=>omega
      rintro e w6 ⟨rfl,h6,hop6⟩
      have hop7:=hop5.trans hop6
      clear h5 hop5 hop6 hq5
      go_wp2
      go_roundw
      case rel=>exact ⟨2*i+2,_,by first | rfl | go_num | (congr 1;omega),by omega,by omega,by rw [swapS_len];exact hn1,h6,HPM2,HTL2,HUO2,hop7⟩
      case measure=>simp [intOf];omega
     | false =>
      go_wp2_with fail
      refine (less_at w0 _ sb v hs1 (2*i+2) i _ _ false ?e1 ?e2 h2 hjl hil hl).mono ?_
      case e1=>omega
      case e2=>omega
      rintro e w5 ⟨rfl,hb5⟩
      have HE:Hid (∀ b,DnPost w0 w sb v hs n (.returned (.bool b)) w5):=fun b=>⟨hs1,b,rfl,h2.below hb5,HPM.out,HTL.out,dn_stop HUO.out HC.out hl,hop2.trans (Hop.below hb5)⟩
      clear hb5 h2 hop2 hq2
      go_wp2
      go_ret
      exact HE.out _
    | false =>
     have HC:Hid (∀ k,k < n→k=2*i+1∨k=2*i+2→lessS (sN hs1 k) (sN hs1 (2*i+1))=false):=fun k _ hk=>by
      rcases hk with rfl | rfl
      ·exact ltT_irrefl _ _
      ·exact hb
     go_wp2_with fail
     refine (less_at w0 _ sb v hs1 (2*i+2) (2*i+1) _ _ false ?e1 ?e2 h1 (by omega) (by omega) hb).mono ?_
     case e1=>omega
     case e2=>omega
     rintro e w2 ⟨rfl,hb2⟩
     have h2:=h1.below hb2
     have hop2:=hop.trans (Hop.below hb2)
     have hq2:=m_Less w2 sb v h2.cell
     clear h1 hop hb2 hq
     have hjl:2*i+1 < hs1.length:=by omega
     have hil:i < hs1.length:=by omega
     cases hl:lessS (sN hs1 (2*i+1)) (sN hs1 i) with
     | true =>
      have HUO2:Hid (dnOk (swapS hs1 i (2*i+1)) (2*i+1) n):=dn_step (by omega) (by omega) (by omega) HUO.out HC.out hl
      have HPM2:Hid ((swapS hs1 i (2*i+1)).Perm hs):=(swapS_perm hil hjl).trans HPM.out
      have HTL2:Hid (∀ k,n≤k→sN (swapS hs1 i (2*i+1)) k=sN hs k):=fun k hk=>by rw [sN_swap hil hjl,if_neg (by omega),if_neg (by omega)];exact HTL.out k hk
      go_wp2_with fail
      refine (less_at w0 _ sb v hs1 (2*i+1) i _ _ true ?e1 ?e2 h2 hjl hil hl).mono ?_
      case e1=>omega
      case e2=>omega
      rintro e w5 ⟨rfl,hb5⟩
      have h5:=h2.below hb5
      have hop5:=hop2.trans (Hop.below hb5)
      have hq5:=m_Swap w5 sb v h5.cell
      clear hb5 h2 hop2 hq2
      go_wp2_with fail
      refine (swapH_at w0 _ sb v hs1 i (2*i+1) _ _ ?e3 ?e4 h5 hil hjl).mono ?_
      case e3=>omega
      case e4=>omega
      rintro e w6 ⟨rfl,h6,hop6⟩
      have hop7:=hop5.trans hop6
      clear h5 hop5 hop6 hq5
      go_wp2
      go_roundw
      case rel=>exact ⟨2*i+1,_,by first | rfl | go_num | (congr 1;omega),by omega,by omega,by rw [swapS_len];exact hn1,h6,HPM2,HTL2,HUO2,hop7⟩
      case measure=>simp [intOf];omega
     | false =>
      go_wp2_with fail
      refine (less_at w0 _ sb v hs1 (2*i+1) i _ _ false ?e1 ?e2 h2 hjl hil hl).mono ?_
      case e1=>omega
      case e2=>omega
      rintro e w5 ⟨rfl,hb5⟩
      have HE:Hid (∀ b,DnPost w0 w sb v hs n (.returned (.bool b)) w5):=fun b=>⟨hs1,b,rfl,h2.below hb5,HPM.out,HTL.out,dn_stop HUO.out HC.out hl,hop2.trans (Hop.below hb5)⟩
      clear hb5 h2 hop2 hq2
      go_wp2
      go_ret
      exact HE.out _
   ·have hr2:¬ 2*(i:Int)+1+1 < (n:Int):=by omega
    have HC:Hid (∀ k,k < n→k=2*i+1∨k=2*i+2→lessS (sN hs1 k) (sN hs1 (2*i+1))=false):=fun k hk0 hk=>by
     rcases hk with rfl | rfl
     ·exact ltT_irrefl _ _
     ·omega
    have hjl:2*i+1 < hs1.length:=by omega
    have hil:i < hs1.length:=by omega
    cases hl:lessS (sN hs1 (2*i+1)) (sN hs1 i) with
    | true =>
     have HUO2:Hid (dnOk (swapS hs1 i (2*i+1)) (2*i+1) n):=dn_step (by omega) (by omega) (by omega) HUO.out HC.out hl
     have HPM2:Hid ((swapS hs1 i (2*i+1)).Perm hs):=(swapS_perm hil hjl).trans HPM.out
     have HTL2:Hid (∀ k,n≤k→sN (swapS hs1 i (2*i+1)) k=sN hs k):=fun k hk=>by rw [sN_swap hil hjl,if_neg (by omega),if_neg (by omega)];exact HTL.out k hk
     go_wp2_with fail
     refine (less_at w0 _ sb v hs1 (2*i+1) i _ _ true ?e1 ?e2 h1 hjl hil hl).mono ?_
     case e1=>omega
     case e2=>omega
     rintro e w5 ⟨rfl,hb5⟩
     have h5:=h1.below hb5
     have hop5:=hop.trans (Hop.below hb5)
     have hq5:=m_Swap w5 sb v h5.cell
     clear hb5 h1 hop hq
     go_wp2_with fail
     refine (swapH_at w0 _ sb v hs1 i (2*i+1) _ _ ?e3 ?e4 h5 hil hjl).mono ?_
     case e3=>omega
     case e4=>omega
     rintro e w6 ⟨rfl,h6,hop6⟩
     have hop7:=hop5.trans hop6
     clear h5 hop5 hop6 hq5
     go_wp2
     go_roundw
     case rel=>exact ⟨2*i+1,_,by first | rfl | go_num | (congr 1;omega),by omega,by omega,by rw [swapS_len];exact hn1,h6,HPM2,HTL2,HUO2,hop7⟩
     case measure=>simp [intOf];omega
    | false =>
     go_wp2_with fail
     refine (less_at w0 _ sb v hs1 (2*i+1) i _ _ false ?e1 ?e2 h1 hjl hil hl).mono ?_
     case e1=>omega
     case e2=>omega
     rintro e w5 ⟨rfl,hb5⟩
     have HE:Hid (∀ b,DnPost w0 w sb v hs n (.returned (.bool b)) w5):=fun b=>⟨hs1,b,rfl,h1.below hb5,HPM.out,HTL.out,dn_stop HUO.out HC.out hl,hop.trans (Hop.below hb5)⟩
     clear hb5 h1 hop hq
     go_wp2
     go_ret
     exact HE.out _
end Go.Proofs.YtmlmlemiidedcaaGreat
