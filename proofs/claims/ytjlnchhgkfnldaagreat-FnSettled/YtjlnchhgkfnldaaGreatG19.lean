import Derived.Test.YtjlnchhgkfnldaaGreatG18
import Derived.RegionTactic
import Derived.ChangeAlike
import Derived.WalkMore
import Derived.Deep.LoopGhost
import Derived.Deep.DeepCutAuto
import Derived.Maps.AppendAt
namespace Go.Proofs.YtjlnchhgkfnldaaGreat
set_option maxHeartbeats 16000000
set_option maxRecDepth 100000
open Go.RowKit
theorem znj(x:Int)(w:World):Calls Tryz.prog 186 #[.int .i64 x] w fun e w'=>e=.returned (.bool false)∧w'=w:=by
 have hx:(x != x)=false:=by simp
 go_enter Tryz.func186,Tryz.ntmps186
 go_wp2;go_ret;exact⟨rfl,rfl⟩
theorem cmpN_any(a b:Int)(w:World):Calls Tryz.prog 185 #[.int .i64 a,.int .i64 b] w fun e w'=>e=.returned (.int .i64 (cmpI a b))∧w'=w:=by
 go_enter Tryz.func185,Tryz.ntmps185
 go_wp2_with (go_at_call 186;refine(znj _ _).mono ?_;rintro e w' ⟨rfl,rfl⟩)
 all_goals go_ret
 all_goals exact⟨ze8 (by unfold cmpI;first | rw[if_pos ‹_›] | (rw[if_neg (by omega)];first | rw[if_pos ‹_›] | rw[if_neg (by omega)])),rfl⟩
theorem two_new(w:World)(x y:Value)(t:TypeId):(w.alloc (.cells #[x,y] t)).cell? ⟨w.heap.size,0,none⟩=some x∧(w.alloc (.cells #[x,y] t)).cell? ⟨w.heap.size,1,none⟩=some y:=by
 constructor<;>simp[World.cell?_alloc_at]
theorem znz(x y:Ent) : -1≤ordE x y∧ordE x y≤1:=by
 unfold ordE;split
 ·exact zpt _ _
 ·exact zkm _ _
theorem Hp.src{w0 w:World}{sb:Nat}{v:Value}{hs:List Src}(h:Hp w0 w sb v hs){i:Nat}(hi:i<hs.length) :
 ∃ b off n cap x r,(sN hs i).v=.slice (some ⟨b,off,none⟩) (n+1) cap∧(sN hs i).es=x::r∧n=r.length∧n+1≤cap∧cap≤maxLen∧EntAt w b off x∧(sN hs i).hd=x:=by
 obtain⟨hr,hne⟩:=h.rd _ (zjJ hi);cases he:(sN hs i).es with
 | nil=>exact absurd he hne
 | cons x r =>
  rw[he] at hr;obtain⟨b,off,n,cap,hv,hn,h1,h2,hx⟩:=zje hr;exact⟨b,off,n,cap,x,r,hv,rfl,hn,h1,h2,hx.of_block (h.bel.block b hx.lt),by unfold Src.hd;rw[he,zb4]⟩
theorem zax(i d:Nat){P:Program}{ops:Array Oper}{Q:Exit→Act→World→Prop}{md:Region.Mode}{S:World→Prop}{oi:Oper}{v:Value}{fuel:Nat}{listed:Array Bool}{a a':Act}{w:World}(hS:S w)(h:wpAnyH P md ops (NoPanic Q) S fuel (listed.setIfInBounds i true) a' w)(hi:ops[i]? = some oi:=by rfl)(hd:oi.dst=some d:=by rfl)(hs:Region.noSelect ops=true:=by kernel_rfl)(hf:Region.free md ops listed i=true:=by kernel_rfl)(hr:(Region.ready md ops listed).contains i=true:=by kernel_rfl)(hw:Region.wanted oi (yielded ops a.tmps)=true:=by kernel_rfl)(hy:∀ w,S w→(execOp a.eval oi).run P w=.ok (.value v) w:=by intro w hS;(try dsimp only[EntAt,SrcAt,Nat.zero_add] at hS);go_simp;(try with_reducible rfl))(ha:a.put (some d) v=a':=by (try simp only[Act.put,sA,sZ,sS]);(try rfl)):wpAnyH P md ops (NoPanic Q) S (fuel+1) listed a w:=takeH hi hd hs hf hr (fun _ _ _ h=>h) (Or.inl ⟨hw,hy⟩) hS (ha ▸ h)
theorem less_any(w0 w:World)(sb:Nat)(v:Value)(hs:List Src)(i j:Nat)(h:Hp w0 w sb v hs)(hi:i<hs.length)(hj:j<hs.length) :
 Calls Tryz.prog 181 #[v,.int .i64 i,.int .i64 j] w fun e w'=>e=.returned (.bool (lessS (sN hs i) (sN hs j)))∧Below w.heap.size w w':=by
 obtain⟨g,cap,hv,hlc,hcm⟩:=zdR h.own (by omega);have hown:=h.own;rw[hv] at hown;have ha:=zgz hown i hi;have hb:=zgz hown j hj;obtain⟨ba,oa,na,ca,x,ra,hva,_,_,hca,hma,hxa,hha⟩:=h.src hi;obtain⟨bb,ob,nb,cb,y,rb,hvb,_,_,hcb,hmb,hxb,hhb⟩:=h.src hj;have RES:Hid (∀ z,z=(if ordE x y≠0 then ordE x y else cmpI (sN hs i).no (sN hs j).no)→decide (z<0)=lessS (sN hs i) (sN hs j)):=by
  intro z hz;have:=ltT_ord x y (sN hs i).no (sN hs j).no;unfold lessS;rw[hz,Bool.eq_iff_iff,decide_eq_true_eq,hha,hhb];exact this
 obtain⟨k1,k2⟩:=ha;obtain⟨k3,k4⟩:=hb;rw[hva] at k1;rw[hvb] at k3;obtain⟨L,hL⟩:∃ L,L=lessS (sN hs i) (sN hs j):=⟨_,rfl⟩;rw[← hL] at RES ⊢;generalize (sN hs i).no=ia at k2 RES;generalize (sN hs j).no=ib at k4 RES;obtain⟨n,hn⟩:∃ n,n=hs.length:=⟨_,rfl⟩;rw[← hn] at hv hlc hi hj;subst hv;unfold maxLen at hcm hma hmb;have bx:=znz x y;have hy1:=zkm ia ib;obtain⟨z,hz⟩:∃ z,z=(if ordE x y≠0 then ordE x y else cmpI ia ib):=⟨_,rfl⟩;have HZ:Hid (z=(if ordE x y≠0 then ordE x y else cmpI ia ib)):=hz;have HR:=RES.out z hz;have HRH:Hid (decide (z<0)=L):=HR;have HCO:Hid (∀ W,Calls Tryz.prog 100 #[.agg #[.string x.key,.string x.val,.int .i64 x.seq,.bool x.gone],.agg #[.string y.key,.string y.val,.int .i64 y.seq,.bool y.gone]] W fun e w'=>e=.returned (.int .i64 (ordE x y))∧Below W.heap.size W w'):=fun W=>zaG x y W
 have hic:i<cap:=by omega
 have hjc:j<cap:=by omega
 clear hz HR RES hL hn h hown hha hhb hva hvb;generalize ordE x y=oxy at bx HZ HCO;go_enter Tryz.func181,Tryz.ntmps181
 go_wp2_with fail
 refine brg (S:=fun W=>SrcAt W g (i*2) ⟨.slice (some ⟨ba,oa,none⟩) (na+1) ca,[],ia⟩∧SrcAt W g (j*2) ⟨.slice (some ⟨bb,ob,none⟩) (nb+1) cb,[],ib⟩∧EntAt W ba oa x∧EntAt W bb ob y) ⟨⟨k1,k2⟩,⟨k3,k4⟩,hxa,hxb⟩ (fun hH=>?_);refine zax 0 7 hH ?_;refine zax 1 8 hH ?_;refine zax 2 9 hH ?_;refine zax 3 10 hH ?_;refine zax 4 11 hH ?_;refine zax 5 12 hH ?_;refine zax 6 13 hH ?_;refine zax 7 14 hH ?_;refine zax 8 15 hH ?_;refine zax 9 16 hH ?_;refine zax 10 17 hH ?_;refine zax 11 18 hH ?_;refine zax 12 19 hH ?_;refine zax 13 20 hH ?_;refine zax 15 22 hH ?_;refine zax 16 23 hH ?_;refine zax 17 24 hH ?_;refine zax 18 25 hH ?_;refine zax 19 26 hH ?_;refine zax 20 27 hH ?_;refine zax 21 28 hH ?_;refine zax 22 29 hH ?_;refine zax 23 30 hH ?_;refine zax 24 31 hH ?_;refine rdy 14 (fun K hK=>?_);go_simp;refine(HCO.out _).mono ?_;rintro e w3 ⟨rfl,hb3⟩;refine hK.out _ _ ⟨hH.1.below hb3,hH.2.1.below hb3,hH.2.2.1.below hb3,hH.2.2.2.below hb3⟩ (fun hB=>?_);clear hK K;try simp only[Act.put,sA,sZ,sS]
 clear hH;refine rdy 25 (fun K hK=>?_);go_simp;refine(cmpN_any _ _ _).mono ?_;rintro e w4 ⟨rfl,rfl⟩;refine hK.out _ _ hB (fun hB2=>?_);clear hK K;try simp only[Act.put,sA,sZ,sS]
 clear hB;refine rdy 26 (fun K hK=>?_);go_simp;have bN:=ze w4 (.cells #[.int .i64 oxy,.int .i64 (cmpI ia ib)] 3);obtain⟨z0,z1⟩:=two_new w4 (.int .i64 oxy) (.int .i64 (cmpI ia ib)) 3;refine hK.out _ _ ⟨hB2.1.below bN,hB2.2.1.below bN,hB2.2.2.1.below bN,hB2.2.2.2.below bN⟩ (fun hB3=>?_);clear hK K;try simp only[Act.put,sA,sZ,sS]
 clear hB2;refine rdy 27 (fun K hK=>?_);go_simp;refine(or_at oxy (cmpI ia ib) z _ _ HZ.out z0 z1 bx hy1).mono ?_;rintro e w5 ⟨rfl,rfl⟩;refine hK.out _ _ hB3 (fun hB4=>?_);clear hK K;try simp only[Act.put,sA,sZ,sS]
 clear hB3;refine zax 28 35 hB4 ?_;refine zax 29 6 hB4 ?_;refine dne ?_;have bF:Below w.heap.size w (w4.alloc (.cells #[.int .i64 oxy,.int .i64 (cmpI ia ib)] 3)):=(((Below.refl w.heap.size w).drew).trans hb3).trans (bN.mono hb3.size);clear hB4 z0 z1 bN hb3;go_wp2;go_ret;exact⟨zN HRH.out,bF⟩
open Go.RowKit
theorem swap_row{w:World}{base g n cap:Nat}{hs:List Src}{i j:Nat}(hown:OwnH w base (.slice (some ⟨g,0,none⟩) n cap) hs)(hi:i<hs.length)(hj:j<hs.length) :
 OwnH ((((w.setCell ⟨g,i*2,none⟩ (sN hs j).v).setCell ⟨g,i*2+1,none⟩ (.int .i64 (sN hs j).no)).setCell ⟨g,j*2,none⟩ (sN hs i).v).setCell ⟨g,j*2+1,none⟩ (.int .i64 (sN hs i).no)) base (.slice (some ⟨g,0,none⟩) n cap) (swapS hs i j) ∧
 w.grownBy ((((w.setCell ⟨g,i*2,none⟩ (sN hs j).v).setCell ⟨g,i*2+1,none⟩ (.int .i64 (sN hs j).no)).setCell ⟨g,j*2,none⟩ (sN hs i).v).setCell ⟨g,j*2+1,none⟩ (.int .i64 (sN hs i).no)) (some g):=by
 have hn:n=hs.length:=by
  rcases hown.2 with ⟨h0,_⟩ | ⟨g',cap',cur,hv,_⟩
  ·cases h0
  ·simp only[Value.slice.injEq] at hv;exact hv.2.1
 subst hn;have r1:=World.ownsRow.stored hown (i*2) (sN hs j).v;have r2:=World.ownsRow.stored r1.1 (i*2+1) (.int .i64 (sN hs j).no);have r3:=World.ownsRow.stored r2.1 (j*2) (sN hs i).v;have r4:=World.ownsRow.stored r3.1 (j*2+1) (.int .i64 (sN hs i).no);have tr:∀ {a b c:World},a.grownBy b (some g)→b.grownBy c (some g)→a.grownBy c (some g):=fun h k =>
  ⟨k.os.trans h.os,k.tape.trans h.tape,k.output.trans h.output,nT h.size k.size,fun i hi hr=>(k.block i (Nat.lt_of_lt_of_le hi h.size) hr).trans (h.block i hi hr)⟩
 refine⟨?_,tr (tr (tr r1.2 r2.2) r3.2) r4.2⟩;have e:HV (swapS hs i j)=((((HV hs).set (i*2) (sN hs j).v).set (i*2+1) (.int .i64 (sN hs j).no)).set (j*2) (sN hs i).v).set (j*2+1) (.int .i64 (sN hs i).no):=by
  unfold swapS;rw[zoe _ j _ (by simpa using hj),zoe _ i _ hi]
 unfold OwnH;rw[e,zcp];exact r4.1
theorem swap_any(w:World)(base g n cap:Nat)(hs:List Src)(i j:Nat)(hown:OwnH w base (.slice (some ⟨g,0,none⟩) n cap) hs)(hi:i<hs.length)(hj:j<hs.length)(hsl:∀ s∈hs,∃ a n c,s.v=.slice a n c) :
 Calls Tryz.prog 184 #[.slice (some ⟨g,0,none⟩) n cap,.int .i64 i,.int .i64 j] w fun e w'=>e=.returned (.tuple #[])∧OwnH w' base (.slice (some ⟨g,0,none⟩) n cap) (swapS hs i j)∧w.grownBy w' (some g):=by
 obtain⟨g',cap',hv',hlc,hcm⟩:=zdR hown (by omega);simp only[Value.slice.injEq] at hv';obtain⟨-,hn,hcc⟩:=hv';rw[← hcc] at hlc hcm;have hso:=hown;unfold OwnH at hso;rw[hn] at hso;obtain⟨k1,k2⟩:=zgz hown i hi;obtain⟨k3,k4⟩:=zgz hown j hj;have f1:=World.ownsRow.frozenAt hso (i*2);have f2:=World.ownsRow.frozenAt hso (i*2+1);have f3:=World.ownsRow.frozenAt hso (j*2);have f4:=World.ownsRow.frozenAt hso (j*2+1);have R:=swap_row hown hi hj;obtain⟨a1,n1,c1,hva⟩:=hsl _ (zjJ hi);obtain⟨a2,n2,c2,hvb⟩:=hsl _ (zjJ hj);rw[hva] at k1 R;rw[hvb] at k3 R;generalize hs':swapS hs i j=hs2 at R;obtain⟨na,hna⟩:∃ na,na=(sN hs i).no:=⟨_,rfl⟩;obtain⟨nb,hnb⟩:∃ nb,nb=(sN hs j).no:=⟨_,rfl⟩;rw[← hna] at k2 R;rw[← hnb] at k4 R;have HR:Hid (_∧_):=R;have hic:i<n:=by omega
 have hjc:j<n:=by omega
 have hnc:n≤cap:=by omega
 unfold maxLen at hcm;by_cases hij:i=j
 ·subst hij;have e1:a2=a1∧n2=n1∧c2=c1:=by rw[hva] at hvb;simp only[Value.slice.injEq] at hvb;exact⟨hvb.1.symm,hvb.2.1.symm,hvb.2.2.symm⟩
  obtain⟨rfl,rfl,rfl⟩:=e1;obtain rfl:nb=na:=by rw[hna,hnb]
  clear hso hown hsl R hna hnb hva hvb hs' hn hcc hlc hi hj;go_enter Tryz.func184,Tryz.ntmps184
  go_wp2;go_region
  all_goals (go_end0;exact⟨rfl,HR.out.1,gr_dr HR.out.2⟩)
 ·have hji:¬ j=i:=fun e=>hij e.symm
  clear hso hown hsl R hna hnb hva hvb hs' hn hcc hlc hi hj;go_enter Tryz.func184,Tryz.ntmps184
  go_wp2;go_region
  all_goals (go_end0;exact⟨rfl,HR.out.1,gr_dr HR.out.2⟩)
where
 gr_dr {a w:World} {row:Option Nat} (h:a.grownBy w row):a.grownBy w.drew row:=⟨h.os,h.tape,h.output,h.size,h.block⟩
open Go.RowKit
theorem Hp.slices{w0 w:World}{sb:Nat}{v:Value}{hs:List Src}(h:Hp w0 w sb v hs):∀ s∈hs,∃ a n c,s.v=.slice a n c:=fun s hs=>by
 obtain⟨a,cap,hv,_⟩:=(h.rd s hs).1;exact⟨a,_,cap,hv⟩
theorem Hp.swapped{w0 w w':World}{sb g n cap:Nat}{hs hs2:List Src}(h:Hp w0 w sb (.slice (some ⟨g,0,none⟩) n cap) hs)(ho:OwnH w' w0.heap.size (.slice (some ⟨g,0,none⟩) n cap) hs2)(hg:w.grownBy w' (some g))(hp:hs2.Perm hs) :
 Hp w0 w' sb (.slice (some ⟨g,0,none⟩) n cap) hs2∧Hop w (.slice (some ⟨g,0,none⟩) n cap) sb w' (.slice (some ⟨g,0,none⟩) n cap):=by
 have hgs:g≠sb:=h.ne g rfl;have hgB:w0.heap.size≤g:=(oL h.own g rfl).1;refine⟨⟨h.bel.grown hg h.bel.size (fun k hk=>by cases hk;exact hgB),h.ge,(hg.block sb h.lt (fun e=>hgs (by simpa using e.symm))).trans h.box,ho,h.ne,fun s hs=>h.rd s (hp.mem_iff.1 hs),by rw[hp.length_eq];exact h.few⟩,⟨hg.size,fun k hk _ hv=>hg.block k hk (fun e=>hv (by rw[e];rfl)),fun _ h=>.inl h⟩⟩
theorem zob(w0 w:World)(sb:Nat)(v:Value)(hs:List Src)(i j:Nat)(h:Hp w0 w sb v hs)(hi:i<hs.length)(hj:j<hs.length) :
 Calls Tryz.prog 184 #[v,.int .i64 i,.int .i64 j] w fun e w'=>e=.returned (.tuple #[])∧Hp w0 w' sb v (swapS hs i j)∧Hop w v sb w' v:=by
 obtain⟨g,cap,hv,_,_⟩:=zdR h.own (by omega);have hown:=h.own;generalize hs.length=n at hv;subst hv;refine(swap_any w _ g n cap hs i j hown hi hj h.slices).mono ?_;rintro e w' ⟨he,ho,hg⟩;exact⟨he,h.swapped ho hg (zce hi hj)⟩
theorem zcJ(w0 w:World)(sb:Nat)(v:Value)(hs:List Src)(i j:Nat)(x y:Int)(L:Bool)(hx:x=(i:Int))(hy:y=(j:Int))(h:Hp w0 w sb v hs)(hi:i<hs.length)(hj:j<hs.length)(hL:lessS (sN hs i) (sN hs j)=L) :
 Calls Tryz.prog 181 #[v,.int .i64 x,.int .i64 y] w fun e w'=>e=.returned (.bool L)∧Below w.heap.size w w':=by
 subst hx;subst hy;subst hL;exact less_any w0 w sb v hs i j h hi hj
theorem zeH(w0 w:World)(sb:Nat)(v:Value)(hs:List Src)(i j:Nat)(x y:Int)(hx:x=(i:Int))(hy:y=(j:Int))(h:Hp w0 w sb v hs)(hi:i<hs.length)(hj:j<hs.length) :
 Calls Tryz.prog 184 #[v,.int .i64 x,.int .i64 y] w fun e w'=>e=.returned (.tuple #[])∧Hp w0 w' sb v (swapS hs i j)∧Hop w v sb w' v:=by
 subst hx;subst hy;exact zob w0 w sb v hs i j h hi hj
def zlC(w0 w:World)(sb:Nat)(v:Value)(hs:List Src)(e:Ending)(w':World):Prop :=
 ∃ hs',e=.returned (.tuple #[])∧Hp w0 w' sb v hs'∧hs'.Perm hs∧HP hs' hs'.length∧Hop w v sb w' v
theorem up_any(w0 w:World)(sb:Nat)(v:Value)(hs:List Src)(j:Nat)(h:Hp w0 w sb v hs)(hj:j<hs.length)(hu:upOk hs j) :
 Calls Tryz.prog 156 #[.iface 135 (.pointer (some ⟨sb,0,none⟩)),.int .i64 j] w fun e w'=>zlC w0 w sb v hs e w':=by
 have hf:=h.few;go_enter Tryz.func156,Tryz.ntmps156
 go_wp2;go_loopw [1] (fun jv wr=>∃ (jn:Nat) (hs1:List Src),jv=.int .i64 jn∧jn<hs1.length∧jn≤20∧Hp w0 wr sb v hs1∧Hid (hs1.Perm hs)∧Hid (upOk hs1 jn)∧Hop w v sb wr v) (fun jv _=>(intOf jv).toNat)
 case atStart=>exact⟨j,hs,rfl,hj,by omega,h,List.Perm.refl _,hu,Hop.refl _ _ _⟩
 case round =>
  obtain⟨jn,hs1,rfl,hj1,hj20,h1,HPM,HUO,hop⟩:=hrel;clear h hu hj;cases jn with
  | zero =>
   have HE:Hid (zlC w0 w sb v hs (.returned (.tuple #[])) wr):=⟨hs1,rfl,h1,HPM.out,up_zero HUO.out,hop⟩;clear h1 hop;go_wp2;go_end0
   exact HE.out
  | succ m =>
   obtain⟨i,hi⟩:∃ i,i=m / 2:=⟨_,rfl⟩;have hii:i<hs1.length:=(by omega);have him:i<m+1:=(by omega);have hpi:(m+1-1) / 2=i:=(by omega);have HI:Hid (i=m / 2):=hi;have hq:=zlL wr sb v h1.cell;cases hl:lessS (sN hs1 (m+1)) (sN hs1 i) with
   | true =>
    have HUO2:Hid (upOk (swapS hs1 i (m+1)) i):=by
     have:=up_step hj1 (by omega) HUO.out (by rw[hpi];exact hl);rw[hpi] at this;exact this
    have HPM2:Hid ((swapS hs1 i (m+1)).Perm hs):=(zce hii hj1).trans HPM.out;go_wp2_with fail
    refine(zcJ w0 _ sb v hs1 (m+1) i _ _ true ?e1 ?e2 h1 hj1 hii hl).mono ?_
    case e1=>omega
    case e2=>omega
    rintro e w2 ⟨rfl,hb2⟩;have h2:=h1.below hb2;have hop2:=hop.trans (Hop.below hb2);have hq2:=ziY w2 sb v h2.cell;clear h1 hop hb2 hq;go_wp2_with fail
    refine(zeH w0 _ sb v hs1 i (m+1) _ _ ?e3 ?e4 h2 hii hj1).mono ?_
    case e3=>omega
    case e4=>omega
    rintro e w3 ⟨rfl,h3,hop3⟩;have hop4:=hop2.trans hop3;clear h2 hop2 hop3 hq2;go_wp2;go_roundw
    case rel=>exact⟨i,_,by first | rfl | go_num | (congr 1;omega),by rw[zcp];exact hii,by omega,h3,HPM2,HUO2,hop4⟩
    case measure=>simp[intOf];omega
   | false =>
    go_wp2_with fail
    refine(zcJ w0 _ sb v hs1 (m+1) i _ _ false ?e1 ?e2 h1 hj1 hii hl).mono ?_
    case e1=>omega
    case e2=>omega
    rintro e w2 ⟨rfl,hb2⟩;have HE:Hid (zlC w0 w sb v hs (.returned (.tuple #[])) w2):=⟨hs1,rfl,h1.below hb2,HPM.out,up_stop HUO.out (by rw[hpi];exact hl),hop.trans (Hop.below hb2)⟩;clear h1 hop hb2 hq;go_wp2;go_end0
    exact HE.out
def zjU(w0 w:World)(sb:Nat)(v:Value)(hs:List Src)(n:Nat)(e:Ending)(w':World):Prop :=
 ∃ hs' b,e=.returned (.bool b)∧Hp w0 w' sb v hs'∧hs'.Perm hs∧(∀ k,n≤k→sN hs' k=sN hs k)∧HP hs' n∧Hop w v sb w' v
theorem down_any(w0 w:World)(sb:Nat)(v:Value)(hs:List Src)(n:Nat)(x:Int)(hx:x=(n:Int))(h:Hp w0 w sb v hs)(hn:n<hs.length)(hu:dnOk hs 0 n) :
 Calls Tryz.prog 157 #[.iface 135 (.pointer (some ⟨sb,0,none⟩)),.int .i64 0,.int .i64 x] w fun e w'=>zjU w0 w sb v hs n e w':=by
 subst hx;have hf:=h.few;go_enter Tryz.func157,Tryz.ntmps157
 go_wp2;go_loopw [7] (fun jv wr=>∃ (i:Nat) (hs1:List Src),jv=.int .i64 i∧i≤20∧i≤n∧n<hs1.length∧Hp w0 wr sb v hs1∧Hid (hs1.Perm hs)∧Hid (∀ k,n≤k→sN hs1 k=sN hs k)∧Hid (dnOk hs1 i n)∧Hop w v sb wr v) (fun jv _=>n-(intOf jv).toNat)
 case atStart=>exact⟨0,hs,rfl,by omega,by omega,hn,h,List.Perm.refl _,(fun k _=>rfl),hu,Hop.refl _ _ _⟩
 case round =>
  obtain⟨i,hs1,rfl,hi20,hin,hn1,h1,HPM,HTL,HUO,hop⟩:=hrel;clear h hu hn;by_cases hj:n≤2*i+1
  ·skip
   have HE:Hid (∀ b,zjU w0 w sb v hs n (.returned (.bool b)) wr):=fun b=>⟨hs1,b,rfl,h1,HPM.out,HTL.out,dn_end HUO.out hj,hop⟩
   have hj2:(n:Int)≤2*(i:Int)+1:=(by omega);clear h1 hop;go_wp2;go_ret;exact HE.out _
  ·skip
   have hj2:¬ (n:Int)≤2*(i:Int)+1:=(by omega);have hj3:¬ 2*(i:Int)+1<0:=(by omega);have hn20:n≤20:=(by have:=h1.few;omega);have hq:=zlL wr sb v h1.cell;by_cases hr:2*i+2<n
   ·have hr2:2*(i:Int)+1+1<(n:Int):=(by omega);cases hb:lessS (sN hs1 (2*i+2)) (sN hs1 (2*i+1)) with
    | true =>
     have HC:Hid (∀ k,k<n→k=2*i+1∨k=2*i+2→lessS (sN hs1 k) (sN hs1 (2*i+2))=false):=fun k _ hk=>by
      rcases hk with rfl | rfl
      ·exact zc3 hb
      ·exact zcO _ _
     go_wp2_with fail
     refine(zcJ w0 _ sb v hs1 (2*i+2) (2*i+1) _ _ true ?e1 ?e2 h1 (by omega) (by omega) hb).mono ?_
     case e1=>omega
     case e2=>omega
     rintro e w2 ⟨rfl,hb2⟩;have h2:=h1.below hb2;have hop2:=hop.trans (Hop.below hb2);have hq2:=zlL w2 sb v h2.cell;clear h1 hop hb2 hq;have hjl:2*i+2<hs1.length:=(by omega);have hil:i<hs1.length:=(by omega);cases hl:lessS (sN hs1 (2*i+2)) (sN hs1 i) with
     | true =>
      have HUO2:Hid (dnOk (swapS hs1 i (2*i+2)) (2*i+2) n):=zks (by omega) (by omega) (by omega) HUO.out HC.out hl;have HPM2:Hid ((swapS hs1 i (2*i+2)).Perm hs):=(zce hil hjl).trans HPM.out;have HTL2:Hid (∀ k,n≤k→sN (swapS hs1 i (2*i+2)) k=sN hs k):=fun k hk=>by rw[zep hil hjl,if_neg (by omega),if_neg (by omega)];exact HTL.out k hk
      go_wp2_with fail
      refine(zcJ w0 _ sb v hs1 (2*i+2) i _ _ true ?e1 ?e2 h2 hjl hil hl).mono ?_
      case e1=>omega
      case e2=>omega
      rintro e w5 ⟨rfl,hb5⟩;have h5:=h2.below hb5;have hop5:=hop2.trans (Hop.below hb5);have hq5:=ziY w5 sb v h5.cell;clear hb5 h2 hop2 hq2;go_wp2_with fail
      refine(zeH w0 _ sb v hs1 i (2*i+2) _ _ ?e3 ?e4 h5 hil hjl).mono ?_
      case e3=>omega
      case e4=>omega
      rintro e w6 ⟨rfl,h6,hop6⟩;have hop7:=hop5.trans hop6;clear h5 hop5 hop6 hq5;go_wp2;go_roundw
      case rel=>exact⟨2*i+2,_,by first | rfl | go_num | (congr 1;omega),by omega,by omega,by rw[zcp];exact hn1,h6,HPM2,HTL2,HUO2,hop7⟩
      case measure=>simp[intOf];omega
     | false =>
      go_wp2_with fail
      refine(zcJ w0 _ sb v hs1 (2*i+2) i _ _ false ?e1 ?e2 h2 hjl hil hl).mono ?_
      case e1=>omega
      case e2=>omega
      rintro e w5 ⟨rfl,hb5⟩;have HE:Hid (∀ b,zjU w0 w sb v hs n (.returned (.bool b)) w5):=fun b=>⟨hs1,b,rfl,h2.below hb5,HPM.out,HTL.out,zlb HUO.out HC.out hl,hop2.trans (Hop.below hb5)⟩
      clear hb5 h2 hop2 hq2;go_wp2;go_ret;exact HE.out _
    | false =>
     have HC:Hid (∀ k,k<n→k=2*i+1∨k=2*i+2→lessS (sN hs1 k) (sN hs1 (2*i+1))=false):=fun k _ hk=>by
      rcases hk with rfl | rfl
      ·exact zcO _ _
      ·exact hb
     go_wp2_with fail
     refine(zcJ w0 _ sb v hs1 (2*i+2) (2*i+1) _ _ false ?e1 ?e2 h1 (by omega) (by omega) hb).mono ?_
     case e1=>omega
     case e2=>omega
     rintro e w2 ⟨rfl,hb2⟩;have h2:=h1.below hb2;have hop2:=hop.trans (Hop.below hb2);have hq2:=zlL w2 sb v h2.cell;clear h1 hop hb2 hq;have hjl:2*i+1<hs1.length:=(by omega);have hil:i<hs1.length:=(by omega);cases hl:lessS (sN hs1 (2*i+1)) (sN hs1 i) with
     | true =>
      have HUO2:Hid (dnOk (swapS hs1 i (2*i+1)) (2*i+1) n):=zks (by omega) (by omega) (by omega) HUO.out HC.out hl;have HPM2:Hid ((swapS hs1 i (2*i+1)).Perm hs):=(zce hil hjl).trans HPM.out;have HTL2:Hid (∀ k,n≤k→sN (swapS hs1 i (2*i+1)) k=sN hs k):=fun k hk=>by rw[zep hil hjl,if_neg (by omega),if_neg (by omega)];exact HTL.out k hk
      go_wp2_with fail
      refine(zcJ w0 _ sb v hs1 (2*i+1) i _ _ true ?e1 ?e2 h2 hjl hil hl).mono ?_
      case e1=>omega
      case e2=>omega
      rintro e w5 ⟨rfl,hb5⟩;have h5:=h2.below hb5;have hop5:=hop2.trans (Hop.below hb5);have hq5:=ziY w5 sb v h5.cell;clear hb5 h2 hop2 hq2;go_wp2_with fail
      refine(zeH w0 _ sb v hs1 i (2*i+1) _ _ ?e3 ?e4 h5 hil hjl).mono ?_
      case e3=>omega
      case e4=>omega
      rintro e w6 ⟨rfl,h6,hop6⟩;have hop7:=hop5.trans hop6;clear h5 hop5 hop6 hq5;go_wp2;go_roundw
      case rel=>exact⟨2*i+1,_,by first | rfl | go_num | (congr 1;omega),by omega,by omega,by rw[zcp];exact hn1,h6,HPM2,HTL2,HUO2,hop7⟩
      case measure=>simp[intOf];omega
     | false =>
      go_wp2_with fail
      refine(zcJ w0 _ sb v hs1 (2*i+1) i _ _ false ?e1 ?e2 h2 hjl hil hl).mono ?_
      case e1=>omega
      case e2=>omega
      rintro e w5 ⟨rfl,hb5⟩;have HE:Hid (∀ b,zjU w0 w sb v hs n (.returned (.bool b)) w5):=fun b=>⟨hs1,b,rfl,h2.below hb5,HPM.out,HTL.out,zlb HUO.out HC.out hl,hop2.trans (Hop.below hb5)⟩
      clear hb5 h2 hop2 hq2;go_wp2;go_ret;exact HE.out _
   ·have hr2:¬ 2*(i:Int)+1+1<(n:Int):=(by omega);have HC:Hid (∀ k,k<n→k=2*i+1∨k=2*i+2→lessS (sN hs1 k) (sN hs1 (2*i+1))=false):=fun k hk0 hk=>by
     rcases hk with rfl | rfl
     ·exact zcO _ _
     ·omega
    have hjl:2*i+1<hs1.length:=(by omega);have hil:i<hs1.length:=(by omega);cases hl:lessS (sN hs1 (2*i+1)) (sN hs1 i) with
    | true =>
     have HUO2:Hid (dnOk (swapS hs1 i (2*i+1)) (2*i+1) n):=zks (by omega) (by omega) (by omega) HUO.out HC.out hl;have HPM2:Hid ((swapS hs1 i (2*i+1)).Perm hs):=(zce hil hjl).trans HPM.out;have HTL2:Hid (∀ k,n≤k→sN (swapS hs1 i (2*i+1)) k=sN hs k):=fun k hk=>by rw[zep hil hjl,if_neg (by omega),if_neg (by omega)];exact HTL.out k hk
     go_wp2_with fail
     refine(zcJ w0 _ sb v hs1 (2*i+1) i _ _ true ?e1 ?e2 h1 hjl hil hl).mono ?_
     case e1=>omega
     case e2=>omega
     rintro e w5 ⟨rfl,hb5⟩;have h5:=h1.below hb5;have hop5:=hop.trans (Hop.below hb5);have hq5:=ziY w5 sb v h5.cell;clear hb5 h1 hop hq;go_wp2_with fail
     refine(zeH w0 _ sb v hs1 i (2*i+1) _ _ ?e3 ?e4 h5 hil hjl).mono ?_
     case e3=>omega
     case e4=>omega
     rintro e w6 ⟨rfl,h6,hop6⟩;have hop7:=hop5.trans hop6;clear h5 hop5 hop6 hq5;go_wp2;go_roundw
     case rel=>exact⟨2*i+1,_,by first | rfl | go_num | (congr 1;omega),by omega,by omega,by rw[zcp];exact hn1,h6,HPM2,HTL2,HUO2,hop7⟩
     case measure=>simp[intOf];omega
    | false =>
     go_wp2_with fail
     refine(zcJ w0 _ sb v hs1 (2*i+1) i _ _ false ?e1 ?e2 h1 hjl hil hl).mono ?_
     case e1=>omega
     case e2=>omega
     rintro e w5 ⟨rfl,hb5⟩;have HE:Hid (∀ b,zjU w0 w sb v hs n (.returned (.bool b)) w5):=fun b=>⟨hs1,b,rfl,h1.below hb5,HPM.out,HTL.out,zlb HUO.out HC.out hl,hop.trans (Hop.below hb5)⟩
     clear hb5 h1 hop hq;go_wp2;go_ret;exact HE.out _
open Go.RowKit
theorem zdC{w:World}{ops:Array Oper}{o:Oper}{a:Act}{K:Act→World→Prop}{Q:Exit→Act→World→Prop}{E:Prop}(hgd:o.guard=none)(d:Nat)(hd:o.dst=some d)(s x:Operand)
 (ho:o.op=.call { callee:=.builtin .append,args:=#[s,x],argTypes:=#[137,137] }) (base:Nat) (v:Value) (b:Nat) (hs:List Src) (c:Src) (hv:a.eval s=v) (hx:a.eval x=.slice (some ⟨b,0,none⟩) 1 1) (hown:OwnH w base v hs) (hc:SrcAt w b 0 c) (hc1:c.v.oneCell'=true)
 (hl:hs.length≤1000000) (hbase:base≤w.heap.size)
 (h:∀ v' w',OwnH w' base v' (hs++[c])→w.grownBy w' v.ownBlock→(v'.ownBlock=v.ownBlock∨v'.ownBlock=some w.heap.size)→K (a.put (some d) v') w') :
 if Region.wanted o (yielded ops a.tmps)=true then Oper.wp Tryz.prog o a w K Q else E:=by
 have hw:Region.wanted o (yielded ops a.tmps)=true:=by simp[Region.wanted,hgd]
 rw[if_pos hw];obtain⟨i0,hi,hz0,hz1,hz2⟩:=info_parts Tryz.info163;obtain⟨v',w',hrun,r1,r2,_,r3⟩:=run_append_own_at (P:=Tryz.prog) w base 137 o.type 163 i0 _ 2 32 Tryz.underlying137 hi hz0 hz1 hz2 rfl (by decide) v hs.length (HV hs) hown ⟨b,0,none⟩ 1 1 (HCs c) rfl
  (by
   intro j u hj;match j,hj with
   | 0,hj=>simp[HCs] at hj;subst hj;simpa [Addr.add] using hc.1
   | 1,hj=>simp[HCs] at hj;subst hj;simpa [Addr.add] using hc.2)
  (by
   intro u hu;simp only[HCs,List.mem_cons,List.not_mem_nil,or_false] at hu;rcases hu with rfl | rfl
   ·exact hc1
   ·rfl) (by unfold maxLen;omega) (by omega) hbase
 have r1':OwnH w' base v' (hs++[c]):=by
  unfold OwnH;rw[zjs,HV_one,lA];exact r1
 unfold Oper.wp;simp[execOp,ho,resolve,invoke,builtin,hv,hx,hrun,Result.andThen];have h':=h v' w' r1' r2 r3;rw[← hd] at h';exact h'
theorem zkk(w:World)(s:Src)(t:TypeId):SrcAt (w.alloc (.cells #[s.v,.int .i64 s.no] t)) w.heap.size 0 s:=by
 constructor<;>simp[World.cell?_alloc_at]
theorem zoh{w:World}{b:Nat}{v u:Value}{t:TypeId}(h:w.heap[b]? = some (.cells #[v] t (0,0))):(w.setCell ⟨b,0,none⟩ u).heap[b]? = some (.cells #[u] t (0,0)):=by
 have:=heap_setCell_same w b 0 #[v] t u h;simpa using this
theorem zfh{w:World}{b:Nat}{v:Value}{t:TypeId}(h:w.heap[b]? = some (.cells #[v] t (0,0))):w.frozen? ⟨b,0,none⟩=false:=by simp[World.frozen?,h]
theorem zek(w:World)(x:Value):(Instr.typeAssert (.iface 163 x) 20 163 false).run Tryz.prog w=.ok x w:=by kernel_rfl
def PushPost(w0 w:World)(sb:Nat)(v:Value)(hs:List Src)(e:Ending)(w':World):Prop :=
 ∃ v',e=.returned (.tuple #[])∧Hp w0 w' sb v' hs∧Hop w v sb w' v'
theorem ze1{w w':World}{B:Nat}{v:Value}{hs:List Src}(h:OwnH w B v hs)(hb:∀ k,v.ownBlock=some k→w'.heap[k]? = w.heap[k]?):OwnH w' B v hs:=by
 refine⟨h.1,?_⟩;rcases h.2 with h2 | ⟨g,cap,cur,hv,hg,hh,r⟩
 ·exact .inl h2
 ·exact .inr ⟨g,cap,cur,hv,hg,by rw[hb g (by rw[hv];rfl)];exact hh,r⟩
theorem Hp.pushed{w0 w w1 w2:World}{sb:Nat}{v v':Value}{hs:List Src}{s:Src}(h:Hp w0 w sb v hs)(b1:Below w.heap.size w w1)(ho:OwnH w2 w0.heap.size v' (hs++[s]))(hg:w1.grownBy w2 v.ownBlock)(hv:v'.ownBlock=v.ownBlock∨v'.ownBlock=some w1.heap.size)
 (hr:RdE w0 s.v s.es) (hne:s.es≠[]) (hf:hs.length<20):Hp w0 (w2.setCell ⟨sb,0,none⟩ v') sb v' (hs++[s])∧Hop w v sb (w2.setCell ⟨sb,0,none⟩ v') v':=by
 have h1:=h.below b1;have hvs:∀ k,v'.ownBlock=some k→k≠sb:=fun k hk=>by
  rcases hv with e | e
  ·exact h.ne k (by rw[← e];exact hk)
  ·rw[e] at hk;have:=Option.some.inj hk;have:=h1.lt;omega
 have hbox:w2.heap[sb]? = some (.cells #[v] 137 (0,0)):=(hg.block sb h1.lt (fun e=>h.ne sb e.symm rfl)).trans h1.box;have bel2:Below w0.heap.size w0 w2:=h1.bel.grown hg h1.bel.size (fun k hk=>(oL h1.own k hk).1);refine⟨⟨bel2.setCell h.ge _,h.ge,zoh hbox,ze1 ho (fun k hk=>heap_setCell_other w2 ⟨sb,0,none⟩ k v' (fun e=>hvs k hk (by simpa using e))),hvs,fun x hx=>?_,by rw[lA];simp;omega⟩,⟨?_,fun k hk hks hkv=>?_,fun k hk=>?_⟩⟩
 ·rcases List.mem_append.1 hx with hx | hx
  ·exact h.rd x hx
  ·rw[List.mem_singleton.1 hx];exact⟨hr,hne⟩
 ·have:=b1.size;have:=hg.size;simp;omega
 ·rw[heap_setCell_other w2 ⟨sb,0,none⟩ k v' (fun e=>hks (by simpa using e))];rw[hg.block k (Nat.lt_of_lt_of_le hk b1.size) (fun e=>hkv e.symm)];exact b1.block k hk
 ·rcases hv with e | e
  ·exact .inl (by rw[← e];exact hk)
  ·rw[e] at hk;have:=Option.some.inj hk;have:=b1.size;exact .inr (by omega)
theorem push_any(w0 w:World)(sb:Nat)(v:Value)(hs:List Src)(s:Src)(h:Hp w0 w sb v hs)(hr:RdE w0 s.v s.es)(hne:s.es≠[])(hf:hs.length<20) :
 Calls Tryz.prog 183 #[.pointer (some ⟨sb,0,none⟩),.iface 163 (.agg #[s.v,.int .i64 s.no])] w fun e w'=>PushPost w0 w sb v (hs++[s]) e w':=by
 obtain⟨sv,ses,no⟩:=s;obtain⟨sa,sc,hsv,-⟩:=id hr;simp only at hsv;obtain⟨sn,hsn⟩:∃ sn,sn=ses.length:=⟨_,rfl⟩;rw[← hsn] at hsv;subst hsv;obtain⟨a,cap,hv,-⟩:=zfW h.own;obtain⟨n,hn⟩:∃ n,n=hs.length:=⟨_,rfl⟩;rw[← hn] at hv;subst hv;have HH:Hid (Hp w0 w sb (.slice a n cap) hs):=h;have hce:=h.cell;have hfz:=zfh h.box;have HPU:Hid (∀ w1 w2 v',Below w.heap.size w w1→OwnH w2 w0.heap.size v' (hs++[⟨.slice sa sn sc,ses,no⟩])→w1.grownBy w2 (Value.slice a n cap).ownBlock→(v'.ownBlock=(Value.slice a n cap).ownBlock∨v'.ownBlock=some w1.heap.size) →
  (∃ cc,w2.cell? ⟨sb,0,none⟩=some cc)∧w2.frozen? ⟨sb,0,none⟩=false∧Hp w0 (w2.setCell ⟨sb,0,none⟩ v') sb v' (hs++[⟨.slice sa sn sc,ses,no⟩])∧Hop w (.slice a n cap) sb (w2.setCell ⟨sb,0,none⟩ v') v'):=fun w1 w2 v' b1 b2 b3 b4=>by
  have h1:=h.below b1;have hbox:w2.heap[sb]? = some (.cells #[.slice a n cap] 137 (0,0)):=(b3.block sb h1.lt (fun e=>h.ne sb e.symm rfl)).trans h1.box;exact⟨⟨.slice a n cap,by simp[World.cell?,hbox]⟩,zfh hbox,h.pushed b1 b2 b3 b4 hr hne hf⟩
 have HB:Hid (w0.heap.size≤w.heap.size):=h.bel.size;have hta:=fun W=>zek W (.agg #[.slice sa sn sc,.int .i64 no])
 have HF:Hid (hs.length≤1000000):=by unfold Hid;omega
 clear hne hf hr hn hsn h;go_enter Tryz.func183,Tryz.ntmps183
 go_wp2_with fail
 refine brg (S:=fun _=>True) trivial (fun hH=>?_);refine zax 0 4 hH ?_;refine zax 1 5 hH ?_;refine zax 2 6 hH ?_;refine zax 4 8 hH ?_;refine zax 5 9 hH ?_;refine wpAnyH_ready (rs:=[3,6]) (by kernel_rfl) (by simp) ?_;refine arc (fun K hK=>?_) ?_
 ·go_simp;refine hK.out _ _ trivial (fun hH=>?_);clear hK K;try simp only[Act.put,sA,sZ,sS]
  refine rdy 6 (fun K hK=>?_);go_simp;refine hK.out _ _ trivial (fun hH=>?_);clear hK K;try simp only[Act.put,sA,sZ,sS]
  have b1:Below w.heap.size w (w.drew.alloc (.cells #[.slice sa sn sc,.int .i64 no] 163)):=((Below.refl w.heap.size w).drew).alloc (nR _) _;have hoV:OwnH (w.drew.alloc (.cells #[.slice sa sn sc,.int .i64 no] 163)) w0.heap.size (.slice a n cap) hs:=HH.out.own.below b1;have hsV:SrcAt (w.drew.alloc (.cells #[.slice sa sn sc,.int .i64 no] 163)) w.heap.size 0 ⟨.slice sa sn sc,ses,no⟩:=zkk w.drew ⟨.slice sa sn sc,ses,no⟩ _;have hbV:w0.heap.size≤(w.drew.alloc (.cells #[.slice sa sn sc,.int .i64 no] 163)).heap.size:=nT HB.out b1.size;clear hce hfz;try simp only[World.drew_alloc] at b1 hoV hsV hbV
  refine rdy 7 (fun K hK=>?_);refine zdC rfl 11 rfl (.tmp 7) (.tmp 10) rfl w0.heap.size _ _ hs ⟨.slice sa sn sc,ses,no⟩ rfl rfl hoV hsV rfl HF.out hbV ?_;intro v2 w2 ho2 hg2 hv2;obtain⟨⟨cc,hcc⟩,hfz2,hp2,hop2⟩:=HPU.out _ w2 v2 b1 ho2 hg2 hv2;obtain⟨a2,c2,hva,-⟩:=zfW ho2;generalize (hs++[(⟨.slice sa sn sc,ses,no⟩:Src)]).length=n2 at hva;subst hva;clear hoV hsV hbV ho2 hg2 hv2 b1;refine hK.out _ _ trivial (fun hH=>?_);clear hK K;try simp only[Act.put,sA,sZ,sS]
  refine zax 8 12 hH ?_;refine rdy 9 (fun K hK=>?_);go_simp;refine hK.out _ _ trivial (fun hH=>?_);clear hK K;try simp only[Act.put,sA,sZ,sS]
  refine dne ?_;go_end0
  exact⟨_,rfl,hp2,hop2⟩
 ·refine AllReadyH.cons rfl (fun K hK=>?_) AllReadyH.nil;go_simp;refine hK.out _ _ trivial (fun hH=>?_);clear hK K;try simp only[Act.put,sA,sZ,sS]
  have hce2:=((ze w (.cells #[.slice sa sn sc,.int .i64 no] 163)).cell (World.block_lt_of_cell? w _ hce)).trans hce;refine rdy 3 (fun K hK=>?_);go_simp;refine hK.out _ _ trivial (fun hH=>?_);clear hK K;try simp only[Act.put,sA,sZ,sS]
  clear hce2;have b1:Below w.heap.size w (w.drew.alloc (.cells #[.slice sa sn sc,.int .i64 no] 163)):=((Below.refl w.heap.size w).drew).alloc (nR _) _;have hoV:OwnH (w.drew.alloc (.cells #[.slice sa sn sc,.int .i64 no] 163)) w0.heap.size (.slice a n cap) hs:=HH.out.own.below b1;have hsV:SrcAt (w.drew.alloc (.cells #[.slice sa sn sc,.int .i64 no] 163)) w.heap.size 0 ⟨.slice sa sn sc,ses,no⟩:=zkk w.drew ⟨.slice sa sn sc,ses,no⟩ _;have hbV:w0.heap.size≤(w.drew.alloc (.cells #[.slice sa sn sc,.int .i64 no] 163)).heap.size:=nT HB.out b1.size;clear hce hfz;try simp only[World.drew_alloc] at b1 hoV hsV hbV
  refine rdy 7 (fun K hK=>?_);refine zdC rfl 11 rfl (.tmp 7) (.tmp 10) rfl w0.heap.size _ _ hs ⟨.slice sa sn sc,ses,no⟩ rfl rfl hoV hsV rfl HF.out hbV ?_;intro v2 w2 ho2 hg2 hv2;obtain⟨⟨cc,hcc⟩,hfz2,hp2,hop2⟩:=HPU.out _ w2 v2 b1 ho2 hg2 hv2;obtain⟨a2,c2,hva,-⟩:=zfW ho2;generalize (hs++[(⟨.slice sa sn sc,ses,no⟩:Src)]).length=n2 at hva;subst hva;clear hoV hsV hbV ho2 hg2 hv2 b1;refine hK.out _ _ trivial (fun hH=>?_);clear hK K;try simp only[Act.put,sA,sZ,sS]
  refine zax 8 12 hH ?_;refine rdy 9 (fun K hK=>?_);go_simp;refine hK.out _ _ trivial (fun hH=>?_);clear hK K;try simp only[Act.put,sA,sZ,sS]
  refine dne ?_;go_end0
  exact⟨_,rfl,hp2,hop2⟩
theorem znx{w:World}{B g n cap:Nat}{hs:List Src}(h:OwnH w B (.slice (some ⟨g,0,none⟩) n cap) hs)(m:Nat)(hm:m≤hs.length):OwnH w B (.slice (some ⟨g,0,none⟩) m cap) (hs.take m):=by
 have hl:(hs.take m).length=m:=by rw[List.length_take];omega
 refine⟨by rw[zeD],?_⟩;rcases h.2 with ⟨h2,_⟩ | ⟨g',cap',cur,hv,hg,hh,h1,h3,h4,h5⟩
 ·cases h2
 ·simp only[Value.slice.injEq,Option.some.injEq,Addr.mk.injEq,and_true] at hv;obtain⟨rfl,_,rfl⟩:=hv;refine .inr ⟨g,cap,cur,by rw[hl],hg,hh,by rw[hl];omega,h3,h4,?_⟩;rw[hl];have e:HV hs=HV (hs.take m)++HV (hs.drop m):=by rw[← zjs,List.take_append_drop]
  have e2:(cur.toList.take (hs.length*2)).take (m*2)=(HV hs).take (m*2):=by rw[h5]
  rw[List.take_take,Nat.min_eq_left (by omega)] at e2;rw[e2,e,List.take_append_of_le_length (by rw[zeD,hl];exact nR _),List.take_of_length_le (by rw[zeD,hl];exact nR _)]
def PopPost(w0 w:World)(sb:Nat)(v:Value)(hs:List Src)(s:Src)(e:Ending)(w':World):Prop :=
 ∃ v',e=.returned (.iface 163 (.agg #[s.v,.int .i64 s.no]))∧Hp w0 w' sb v' hs∧Hop w v sb w' v'
theorem pop_any(w0 w:World)(sb:Nat)(v:Value)(hs:List Src)(n:Nat)(h:Hp w0 w sb v hs)(hn:hs.length=n+1) :
 Calls Tryz.prog 182 #[.pointer (some ⟨sb,0,none⟩)] w fun e w'=>PopPost w0 w sb v (hs.take n) (sN hs n) e w':=by
 obtain⟨g,cap,hv,hlc,hcm⟩:=zdR h.own (by omega);rw[hn] at hv hlc;subst hv;obtain⟨k1,k2⟩:=zgz h.own n (by omega);obtain⟨sa,sn,sc,hsv⟩:=h.slices _ (zjJ (show n<hs.length by omega));have hce:=h.cell;have HPO:Hid (∀ w1,Below w.heap.size w w1→w1.cell? ⟨sb,0,none⟩=some (.slice (some ⟨g,0,none⟩) (n+1) cap)∧w1.frozen? ⟨sb,0,none⟩=false∧Hp w0 (w1.setCell ⟨sb,0,none⟩ (.slice (some ⟨g,0,none⟩) n cap)) sb (.slice (some ⟨g,0,none⟩) n cap) (hs.take n)∧Hop w (.slice (some ⟨g,0,none⟩) (n+1) cap) sb (w1.setCell ⟨sb,0,none⟩ (.slice (some ⟨g,0,none⟩) n cap)) (.slice (some ⟨g,0,none⟩) n cap)):=fun w1 b1=>by
  have h1:=h.below b1;have hgs:=h.ne g rfl;refine⟨h1.cell,zfh h1.box,⟨h1.bel.setCell h.ge _,h.ge,zoh h1.box,ze1 (znx h1.own n (by omega)) (fun k hk=>heap_setCell_other w1 ⟨sb,0,none⟩ k _ (fun e=>hgs (by have:=Option.some.inj hk;simp at this e;omega))),fun k hk=>h.ne k hk,fun s hs=>h.rd s (List.mem_of_mem_take hs),by rw[List.length_take];have:=h.few;omega⟩,⟨by have:=b1.size;simp;omega,fun k hk hks _=>?_,fun k hk=>.inl hk⟩⟩;rw[heap_setCell_other w1 ⟨sb,0,none⟩ k _ (fun e=>hks (by simpa using e))];exact b1.block k hk
 obtain⟨s,hs0⟩:∃ s,s=sN hs n:=⟨_,rfl⟩;rw[← hs0] at k1 k2 hsv ⊢;obtain⟨no,hno⟩:∃ no,no=s.no:=⟨_,rfl⟩;have HE:Hid (Ending.returned (.iface 163 (.agg #[.slice sa sn sc,.int .i64 no]))=.returned (.iface 163 (.agg #[s.v,.int .i64 s.no]))):=by unfold Hid;rw[hsv,hno]
 rw[hsv] at k1;rw[← hno] at k2;generalize hs.take n=hs2 at HPO ⊢;unfold maxLen at hcm;have hn20:n≤20:=by have:=h.few;omega
 have hsl:=h.lt;have hne1:¬ w.heap.size=sb:=by omega
 have hne2:¬ sb=w.heap.size:=by omega
 obtain⟨hce1,hfz1,hp1,hop1⟩:=HPO.out _ (ze w (.cells #[.slice sa sn sc,.int .i64 no] 163));obtain⟨_,_,hp0,hop0⟩:=HPO.out w (Below.refl _ _);have HP1:Hid (_∧_):=⟨hp0.below (ze _ (.cells #[.slice sa sn sc,.int .i64 no] 163)),hop0.trans (Hop.below (ze _ (.cells #[.slice sa sn sc,.int .i64 no] 163)))⟩;clear hs0 hno hsv h hn HPO hp1 hop1 hp0 hop0;go_enter Tryz.func182,Tryz.ntmps182
 go_wp2;go_ret;exact⟨_,HE.out,HP1.out.1,HP1.out.2⟩
end Go.Proofs.YtjlnchhgkfnldaaGreat
