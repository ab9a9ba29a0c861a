import Derived.Test.YtannfbpohhnnkaaGreatDoorG29
import Derived.Deep.RegionLaw
import Derived.Lib.SliceRun
import Derived.RangeFuncNested
import Derived.RangeFuncBound
import Derived.RangeFuncCalls
import Derived.RangeFuncLeaves
import Derived.RangeFuncBox
import Derived.Shelf.Abstract
import Derived.Shelf.RegionOpen
import Derived.OwnWalkIn
import Derived.TacticsInMore
import Derived.LoopNIn
import Derived.LoopIn
import Derived.Deep.RegionHeld3
namespace Go.Proofs.YtannfbpohhnnkaaGreatDoor
set_option maxHeartbeats 16000000
set_option maxRecDepth 100000
open Go.RowKit
def zw(T:Tre)(xs:List Wri):Tre:=xs.foldl put1 T
def zx(T:Tre)(xs:List Wri):Bool:=zC xs&&decide (T.seq+(xs.length:Int)≤1000000)&&decide (T.mem.length+xs.length≤300)
theorem zc0(T:Tre){xs:List Wri}{k:Nat}(hk:k<xs.length):zw T (xs.take (k+1))=put1 (zw T (xs.take k)) (nthW xs k):=by
 unfold zw;rw[List.take_succ_eq_append_getElem hk,List.foldl_append,zdE hk];rfl
theorem zfM(T:Tre)(xs:List Wri):(zw T xs).seq=T.seq+(xs.length:Int):=by
 unfold zw;induction xs generalizing T with
 | nil=>simp
 | cons a r ih =>
  rw[List.foldl_cons,ih,List.length_cons];show T.seq+1+(r.length:Int)=T.seq+((r.length+1:Nat):Int);omega
theorem zfF(T:Tre)(xs:List Wri):(zw T xs).mem.length=T.mem.length+xs.length:=by
 unfold zw;induction xs generalizing T with
 | nil=>simp
 | cons a r ih =>
  rw[List.foldl_cons,ih,List.length_cons];show (insE T.mem (wriE a (T.seq+1))).length+r.length=T.mem.length+(r.length+1);rw[zek];omega
theorem zcS(T:Tre)(xs:List Wri):(zw T xs).young=T.young∧(zw T xs).old=T.old∧(zw T xs).snaps=T.snaps:=by
 unfold zw;induction xs generalizing T with
 | nil=>exact⟨rfl,rfl,rfl⟩
 | cons a r ih=>rw[List.foldl_cons];exact ih (put1 T a)
theorem zgS{T:Tre}(h:TreeP T):∀ {xs:List Wri},xs.all wriOk=true→T.seq+(xs.length:Int)≤1000000→T.mem.length+xs.length≤300→TreeP (zw T xs):=by
 intro xs;unfold zw;induction xs generalizing T with
 | nil=>intro _ _ _;exact h
 | cons a r ih =>
  intro h1 h2 h3;rw[List.all_cons,Bool.and_eq_true] at h1;rw[List.length_cons] at h2 h3;rw[List.foldl_cons];refine ih (zjH h h1.1 (by omega) (by omega)) h1.2 ?_ ?_
  ·show T.seq+1+(r.length:Int)≤1000000;omega
  ·show (insE T.mem (wriE a (T.seq+1))).length+r.length≤300;rw[zek];omega
theorem zic{T:Tre}(h:TreeP T)(x:Wri):putOk T.mem (wriE x (T.seq+1))=(wriOk x&&decide (T.seq<1000000)&&decide (T.mem.length<300)):=by
 rw[Bool.eq_iff_iff];constructor
 ·intro hp;simp only[putOk,Bool.and_eq_true,Bool.not_eq_true',decide_eq_false_iff_not] at hp;obtain⟨⟨⟨hs,he⟩,hn⟩,-⟩:=hp;have hl:=zZ hs;have he2:=he;unfold okE at he2;simp only[wriE,Bool.and_eq_true] at he2;have hq:T.seq+1≤1000000:=of_decide_eq_true he2.2;have hw:wriOk x=true:=by
   unfold wriOk;unfold okE at he ⊢;simp only[wriE,Bool.and_eq_true] at he ⊢;exact⟨⟨he.1.1,decide_eq_true (by omega)⟩,decide_eq_true (by omega)⟩
  rw[hw,decide_eq_true (show T.seq<1000000 by omega),decide_eq_true (show T.mem.length<300 by omega)];rfl
 ·intro hp;simp only[Bool.and_eq_true,decide_eq_true_eq] at hp;obtain⟨⟨hw,hs⟩,hl⟩:=hp;have he:okE (wriE x (T.seq+1))=true:=zmW hw (by have:=h.seq0;omega) (by omega);simp only[putOk,Bool.and_eq_true,Bool.not_eq_true',decide_eq_false_iff_not];refine⟨⟨⟨h.mem,he⟩,by omega⟩,?_⟩;cases hk:hasKS T.mem (wriE x (T.seq+1)) with
  | false=>rfl
  | true =>
   unfold hasKS at hk;rw[List.any_eq_true] at hk;obtain⟨y,hy,hyk⟩:=hk;have h1:=((zaG _ _).1 hyk).2;have h2:=h.top T.mem List.mem_cons_self y hy;simp only[wriE] at h1;omega
open Go.RowKit
def zcD(w:World)(b B:Nat)(vy vo vs:Value)(M:List Ent)(q:Int)(ok:Bool)(e:Ending)(w':World):Prop :=
 e=.returned (.bool ok)∧(∃ vm',BoxTr w' b vm' vy vo q vs∧OwnE w' B vm' M)∧Touch [b] w w'
theorem zgK{w:World}{B b t s n:Nat}{vm vy vo vs v:Value}{q:Int}{xs:List Value}(h:BoxTr w b vm vy vo q vs)(ho:w.ownsRow B t s v n xs)(ht:t≠34):∀ k,v.ownBlock=some k→b≠k:=by
 intro k hk e;subst e;rcases ho.2 with ⟨hv,_⟩ | ⟨g,cap,cur,hv,_,hg,_⟩
 ·rw[hv] at hk;cases hk
 ·rw[hv] at hk;obtain rfl:g=b:=Option.some.inj hk;unfold BoxTr at h;rw[h] at hg;injection hg with hg
  injection hg with _ h2
  exact ht h2.symm
theorem zlP(T:Tre)(vm vy vo vs:Value)(b B:Nat)(v:Value)(xs:List Wri)(w:World)(hb:BoxTr w b vm vy vo T.seq vs)(hm:OwnE w B vm T.mem)(hB:B≤w.heap.size)(ht:TreeP T)(hr:RdW w v xs)(hrt:∀ w',Touch [b] w w'→RdW w' v xs)(hf:∀ x∈xs,FitsW x) :
 Calls Tryz.prog 106 #[.pointer (some ⟨b,0,none⟩),v] w fun e w'=>zcD w b B vy vo vs (if zx T xs=true then (zw T xs).mem else T.mem) (if zx T xs=true then (zw T xs).seq else T.seq) (zx T xs) e w':=by
 obtain⟨M,hM⟩:∃ M,M=if zx T xs=true then (zw T xs).mem else T.mem:=⟨_,rfl⟩
 obtain⟨Q0,hQ0⟩:∃ Q0,Q0=if zx T xs=true then (zw T xs).seq else T.seq:=⟨_,rfl⟩
 obtain⟨ok,hok⟩:∃ ok,ok=zx T xs:=⟨_,rfl⟩;rw[← hM,← hQ0,← hok];have HM0:Hid (M=if zx T xs=true then (zw T xs).mem else T.mem):=hM;have HQ0:Hid (Q0=if zx T xs=true then (zw T xs).seq else T.seq):=hQ0;have HOK:Hid (ok=zx T xs):=hok;clear hM hQ0 hok;have HBT:Hid (Calls Tryz.prog 123 #[v] w fun e w'=>e=.returned (.bool (zC xs))∧Below w.heap.size w w'):=zhK v xs w hr hf;obtain⟨a,cap,hv,hl,hmx,_⟩:=id hr;unfold maxLen at hmx;obtain⟨n,hn⟩:∃ n,n=xs.length:=⟨_,rfl⟩;rw[← hn] at hv hl;have HN:Hid (n=xs.length):=hn;have HRT:Hid (∀ w',Touch [b] w w'→RdW w' v xs):=hrt;have HTP:Hid (TreeP T):=ht;have hq0:=ht.seq0;have hq1:=ht.seq1;have hml:=zZ ht.mem;subst hv;clear hn hf hrt hr;obtain⟨am,cm,hvm,hlm,hmm,-⟩:=id hm.rd;unfold maxLen at hmm;obtain⟨mn,hmn⟩:∃ mn,mn=T.mem.length:=⟨_,rfl⟩;rw[← hmn] at hvm hlm hml;have HMN:Hid (mn=T.mem.length):=hmn;clear hmn;subst hvm;obtain⟨sq,hsq⟩:∃ sq,sq=T.seq:=⟨_,rfl⟩;rw[← hsq] at hb hq0 hq1;have HSQ:Hid (sq=T.seq):=hsq;clear hsq;have NOT:Hid (zx T xs=false→∀ w',Below w.heap.size w w'→zcD w b B vy vo vs M Q0 ok (.returned (.bool false)) w'):=fun h w' hw=>by
  rw[HM0.out,HQ0.out,HOK.out,h];exact⟨rfl,⟨.slice am mn cm,by rw[if_neg (by simp),← HSQ.out];exact hb.on hw,by rw[if_neg (by simp)];exact hm.below hw⟩,Touch.of_below hw⟩
 cases hbo:zC xs with
 | false =>
  have NO:Hid (zx T xs=false):=by unfold Hid zx;rw[hbo];rfl
  rw[hbo] at HBT;go_enter Tryz.func106,Tryz.ntmps106
  go_wp2_with fail
  refine HBT.out.mono ?_;rintro e w1 ⟨rfl,hb1⟩;have END:=NOT.out NO.out w1 hb1;have END2:Hid (zcD _ _ _ _ _ _ _ _ _ _ _):=END;clear END HBT hb1 NOT;go_wp2;go_ret;exact END2.out
 | true =>
  have hn20:n≤20:=by
   unfold zC at hbo;rw[Bool.and_eq_true,decide_eq_true_eq] at hbo;have:=HN.out;omega
  have HALL:Hid (xs.all wriOk=true):=by unfold zC at hbo;rw[Bool.and_eq_true] at hbo;exact hbo.2
  rw[hbo] at HBT;by_cases h1:1000000<sq+(n:Int)
  ·have NO:Hid (zx T xs=false):=by unfold Hid zx;rw[hbo,decide_eq_false (by rw[← HN.out,← HSQ.out];omega)];rfl
   go_enter Tryz.func106,Tryz.ntmps106
   go_wp2_with fail
   refine HBT.out.mono ?_;rintro e w1 ⟨rfl,hb1⟩;have END2:Hid (zcD _ _ _ _ _ _ _ _ _ _ _):=NOT.out NO.out w1 hb1;obtain⟨y0,y1,y2,y3,y4,-⟩:=(hb.on hb1).facts;clear HBT hb1 NOT;go_wp2;go_ret;exact END2.out
  by_cases h2:300<mn+n
  ·have NO:Hid (zx T xs=false):=by unfold Hid zx;rw[decide_eq_false (show ¬ (T.mem.length+xs.length≤300) by rw[← HN.out,← HMN.out];omega),Bool.and_false]
   have h2':(300:Int)<(mn:Int)+(n:Int):=by omega
   go_enter Tryz.func106,Tryz.ntmps106
   go_wp2_with fail
   refine HBT.out.mono ?_;rintro e w1 ⟨rfl,hb1⟩;have END2:Hid (zcD _ _ _ _ _ _ _ _ _ _ _):=NOT.out NO.out w1 hb1;obtain⟨y0,y1,y2,y3,y4,-⟩:=(hb.on hb1).facts;clear HBT hb1 NOT;go_wp2;go_ret;exact END2.out
  have YES:Hid (zx T xs=true):=by unfold Hid zx;rw[hbo,decide_eq_true (by rw[← HN.out,← HSQ.out];omega),decide_eq_true (by rw[← HN.out,← HMN.out];omega)];rfl
  have h2':¬ (300:Int)<(mn:Int)+(n:Int):=by omega
  have HM1:Hid (M=(zw T xs).mem):=by unfold Hid;rw[HM0.out,if_pos YES.out]
  have HQ1:Hid (Q0=(zw T xs).seq):=by unfold Hid;rw[HQ0.out,if_pos YES.out]
  have HOK1:Hid (ok=true):=by unfold Hid;rw[HOK.out,YES.out]
  clear NOT HM0 HQ0 HOK;go_enter Tryz.func106,Tryz.ntmps106
  go_wp2_with fail
  refine HBT.out.mono ?_;rintro e w1 ⟨rfl,hb1⟩;have zb1:=hb.on hb1;have hm1:=hm.below hb1;have T1:Touch [b] w w1:=Touch.of_below hb1;obtain⟨y0,y1,y2,y3,y4,-⟩:=zb1.facts;clear HBT hb1;go_wp2;clear y0 y1 y2 y3 y4;go_loopw [6] (fun i wr=>∃ (k:Nat) (vm':Value) (q:Int),k≤n∧i=.int .i64 k∧Hid (BoxTr wr b vm' vy vo q vs)∧Hid (q=(zw T (xs.take k)).seq)∧Hid (OwnE wr B vm' (zw T (xs.take k)).mem)∧Hid (Touch [b] w wr)) (fun i _=>n-(intOf i).toNat)
  case atStart=>exact⟨0,_,sq,Nat.zero_le _,rfl,zb1,HSQ.out,hm1,T1⟩
  case round =>
   obtain⟨k,vm',q,hk,rfl,ZB,HQ,HM,HT⟩:=hrel;clear zb1 hm1 T1 hb hm;by_cases hlt:k<n
   ·have hkl:k<xs.length:=by rw[← HN.out];exact hlt
    have hkc:k<cap:=by omega
    obtain⟨c,off,rfl,hc⟩:=(HRT.out wr HT.out).at HN.out k hkl;have HSN:Hid (zw T (xs.take (k+1))=put1 (zw T (xs.take k)) (nthW xs k)):=zc0 T hkl;have HLN:Hid ((zw T (xs.take k)).mem.length≤300):=by
     unfold Hid;rw[zfF,List.length_take,← HMN.out,← HN.out];omega
    have hqb:0≤q∧q<1000000:=by
     have:=HQ.out;rw[zfM,List.length_take,← HSQ.out,← HN.out] at this;omega
    obtain⟨hq2,hq3⟩:=hqb;generalize hU:zw T (xs.take k)=U at HQ HM HSN HLN;generalize nthW xs k=x at hc HSN;clear hU hkl;have hwl:=hc.lt;obtain⟨c0,c1,c2⟩:=id hc;obtain⟨au,cu,hvu,-⟩:=id HM.out.rd;obtain⟨un,hun⟩:∃ un,un=U.mem.length:=⟨_,rfl⟩;rw[← hun] at hvu;subst hvu;clear hun;have hbl:=ZB.out.lt;have hx1:=zd1 wr x 77;have bb:=za wr (.cells #[.string x.key,.string x.val,.bool x.gone] 77);have zb2:=ZB.out.on bb;have ss:(wr.setCell ⟨b,3,none⟩ (.int .i64 (q+1))).heap.size=wr.heap.size:=by simp
    have zs:=ziv ZB.out (q+1);have hms:OwnE (wr.setCell ⟨b,3,none⟩ (.int .i64 (q+1))) B (.slice au un cu) U.mem:=zg HM.out (zgK ZB.out HM.out (by decide));have bs:=za (wr.setCell ⟨b,3,none⟩ (.int .i64 (q+1))) (.cells #[.string x.key,.string x.val,.bool x.gone] 77);have zb3:=zs.on bs;have hm3:=hms.below bs;have T3:Touch [b] w ((wr.setCell ⟨b,3,none⟩ (.int .i64 (q+1))).alloc (.cells #[.string x.key,.string x.val,.bool x.gone] 77)):=(HT.out.trans (Touch.set (by simp))).trans (Touch.of_below bs);have x3:BoxW ((wr.setCell ⟨b,3,none⟩ (.int .i64 (q+1))).alloc (.cells #[.string x.key,.string x.val,.bool x.gone] 77)) wr.heap.size x:=by rw[← ss];exact zd1 _ x _
    obtain⟨y0,y1,y2,y3,y4,g0,g1,g2,g3,g4⟩:=zb2.facts;have s3:wr.heap.size<((wr.setCell ⟨b,3,none⟩ (.int .i64 (q+1))).alloc (.cells #[.string x.key,.string x.val,.bool x.gone] 77)).heap.size:=by simp
    have hBW:B≤((wr.setCell ⟨b,3,none⟩ (.int .i64 (q+1))).alloc (.cells #[.string x.key,.string x.val,.bool x.gone] 77)).heap.size:=by have:=HT.out.size;simp;omega
    clear zs hms bs ss;clear ZB HM HT hx1 bb zb2 hc;go_wp2_with fail
    generalize (wr.setCell ⟨b,3,none⟩ (.int .i64 (q+1))).alloc (.cells #[.string x.key,.string x.val,.bool x.gone] 77)=W3 at zb3 hm3 T3 x3 s3 hBW ⊢;clear y0 y1 y2 y3 y4 g0 g1 g2 g3 g4 c0 c1 c2;obtain⟨y0,y1,y2,y3,y4,g0,g1,g2,g3,g4⟩:=zb3.facts;refine wp_region_noPanic ?_;refine wp_region_held_drew (S:=fun w'=>w'.cell? ⟨b,3,none⟩=some (.int .i64 (q+1))∧w'.cell? ⟨wr.heap.size,0,none⟩=some (.string x.key)∧w'.cell? ⟨wr.heap.size,1,none⟩=some (.string x.val)∧w'.cell? ⟨wr.heap.size,2,none⟩=some (.bool x.gone)) (by kernel_rfl) ⟨y3,x3⟩ (fun hH=>?_);have hwb:wr.heap.size≠b:=by omega
    have dd:Below W3.heap.size W3 W3.drew:=(Below.refl _ W3).drew;have zbV:=zb3.on dd;have hmV:=hm3.below dd;have TV:=T3.trans (Touch.of_below dd);have xV:BoxW W3.drew wr.heap.size x:=x3;have sV:wr.heap.size<W3.drew.heap.size:=s3;have hBV:B≤W3.drew.heap.size:=hBW;clear zb3 hm3 T3 x3 s3 hBW dd y0 y1 y2 y3 y4 g0 g1 g2 g3 g4;revert hH zbV hmV TV xV sV hBV;generalize W3.drew=V;intro hH zbV hmV TV xV sV hBV;obtain⟨y0,y1,y2,y3,y4,g0,g1,g2,g3,g4⟩:=zbV.facts;refine kA 0 50 hH ?_;refine kA 1 51 hH ?_;refine kA 2 52 hH ?_;refine kA 3 53 hH ?_;refine kA 5 55 hH ?_;refine kA 6 56 hH ?_;refine kA 7 57 hH ?_;refine kA 8 58 hH ?_;refine kA 9 59 hH ?_;refine kA 10 60 hH ?_;refine kA 11 61 hH ?_;refine kA 12 62 hH ?_;refine kA 13 63 hH ?_;refine kA 14 64 hH ?_;refine kA 15 65 hH ?_;refine rdy 4 (fun K hK=>?_);go_simp;refine hK.out _ _ hH (fun hH2=>?_);clear hK K hH;try simp only[Act.put,sA,sZ,sS]
    refine rdy 16 (fun K hK=>?_);go_simp;refine(zqw (.slice au un cu) U.mem (wriE x (q+1)) _ hmV.rd (by have:=HLN.out;omega)).mono ?_;rintro e w5 ⟨u,rfl,hu,hb5⟩;have zb5:=zbV.on hb5;have T5:=TV.trans (Touch.of_below hb5);have x5:BoxW w5 wr.heap.size x:=⟨(hb5.cell (p:=⟨wr.heap.size,0,none⟩) sV).trans xV.1,(hb5.cell (p:=⟨wr.heap.size,1,none⟩) sV).trans xV.2.1,(hb5.cell (p:=⟨wr.heap.size,2,none⟩) sV).trans xV.2.2⟩;have hu5:OwnE w5 B u (insE U.mem (wriE x (q+1))):=OwnE.mono hu hBV;obtain⟨av,cv,hvv,-⟩:=id hu.rd;generalize (insE U.mem (wriE x (q+1))).length=vn at hvv;subst hvv;obtain⟨k0,k1,k2,k3,k4,l0,l1,l2,l3,l4⟩:=zb5.facts;refine hK.out _ _ ⟨k3,x5⟩ (fun hH3=>?_);clear hK K hH2 zbV hmV TV xV hu hb5 y0 y1 y2 y3 y4 g0 g1 g2 g3 g4;try simp only[Act.put,sA,sZ,sS]
    refine kA 17 67 hH3 ?_;refine kA 18 68 hH3 ?_;have zb6:=zbe zb5 (.slice av vn cv);have hm6:OwnE (w5.setCell ⟨b,0,none⟩ (.slice av vn cv)) B (.slice av vn cv) (insE U.mem (wriE x (q+1))):=zg hu5 (zgK zb5 hu5 (by decide));have T6:Touch [b] w (w5.setCell ⟨b,0,none⟩ (.slice av vn cv)):=T5.trans (Touch.set (by simp));have x6:BoxW (w5.setCell ⟨b,0,none⟩ (.slice av vn cv)) wr.heap.size x:=⟨(World.cell?_setCell_other _ _ _ _ (by intro e;have e2:=congrArg Addr.block e;simp only at e2;omega)).trans x5.1,(World.cell?_setCell_other _ _ _ _ (by intro e;have e2:=congrArg Addr.block e;simp only at e2;omega)).trans x5.2.1,(World.cell?_setCell_other _ _ _ _ (by intro e;have e2:=congrArg Addr.block e;simp only at e2;omega)).trans x5.2.2⟩;have hM6:Hid (OwnE (w5.setCell ⟨b,0,none⟩ (.slice av vn cv)) B (.slice av vn cv) (zw T (xs.take (k+1))).mem):=by
     unfold Hid;rw[HSN.out];show OwnE _ B _ (insE U.mem (wriE x (U.seq+1)));rw[← HQ.out];exact hm6
    have hQ6:Hid (q+1=(zw T (xs.take (k+1))).seq):=by unfold Hid;rw[HSN.out,HQ.out];rfl
    obtain⟨-,-,-,p3,-⟩:=zb6.facts;refine rdy 19 (fun K hK=>?_);go_simp;refine hK.out _ _ ⟨p3,x6⟩ (fun hH4=>?_);clear hK K hH3 hH4 x6 p3 k0 k1 k2 k3 k4 l0 l1 l2 l3 l4 x5 hm6 zb5 T5 hu5;refine dne ?_;generalize w5.setCell ⟨b,0,none⟩ (.slice av vn cv)=W6 at zb6 T6 hM6 ⊢;go_wp2;go_roundw
    case rel=>exact⟨k+1,_,q+1,by omega,by go_num,zb6,hQ6,hM6,T6⟩
    case measure=>simp[intOf];omega
   ·have hke:k=n:=by omega
    have END:Hid (zcD w b B vy vo vs M Q0 ok (.returned (.bool true)) wr):=by
     have e:xs.take k=xs:=by rw[hke,HN.out,List.take_length]
     have h1:=HQ.out;have h2:=HM.out;rw[e] at h1 h2;rw[HM1.out,HQ1.out,HOK1.out,← h1];exact⟨rfl,⟨_,ZB.out,h2⟩,HT.out⟩
    clear hke ZB HQ HM HT;go_wp2;go_ret;exact END.out
open Go.RowKit
open Go.RowKit
open Go.RowKit
open Go.RowKit Go.Shelf
attribute [local go_sem] Oper.semAt_some
abbrev RT (w:World):={ t:TV // RdI w t.vb t.T.bits∧RdS w t.vk t.T.blocks∧∀ s∈t.T.blocks,s.size≤1000000000 }
def KpT(n₀:Nat)(W W':World):Prop:=Below n₀ W W'∧∀ (k:Nat) (cs:Array Value) (fz:Nat×Nat),W.heap[k]? = some (.cells cs 32 fz)→W'.heap[k]? = W.heap[k]?
theorem KpT.trans{n₀:Nat}{A B C:World}(h:KpT n₀ A B)(k:KpT n₀ B C):KpT n₀ A C :=
 ⟨h.1.trans k.1,fun i cs fz hi=>(k.2 i cs fz ((h.2 i cs fz hi).trans hi)).trans (h.2 i cs fz hi)⟩
theorem KpT.putObj{n₀:Nat}{w:World}(hB:n₀≤w.heap.size)(W:World)(l:Nat)(o o':Obj)(hl:w.heap.size≤l)(ho:W.heap[l]? = some o)(hc:o.isCells=false)(hw:o.isWalk=false):KpT n₀ W (W.putObj l o'):=by
 refine⟨belowK_b hB W l o o' hl ho hc hw,fun k cs fz hk=>World.putObj_heap_other (fun e=>?_)⟩;subst e;rw[ho] at hk;cases hk;cases hc
theorem KpT.alloc{n₀:Nat}{W:World}(h:n₀≤W.heap.size)(o:Obj):KpT n₀ W (W.alloc o) :=
 ⟨(Below.refl n₀ W).alloc h o,fun k _ _ hk=>Below.heap_alloc W o k (Array.getElem?_eq_some_iff.1 hk).1⟩
theorem rt_nth{w:World}{zs:List (RT w)}{k:Nat}(h:k<zs.length):nthT (zs.map (·.1)) k=(zs[k]).1:=by rw[zak (by simpa using h)];simp
theorem lv_cells{w:World}{G:Nat}{vy vo:Value}(h:w.heap[G]? = some (.cells #[vy,vo] 32 (0,0))):w.cell? ⟨G,0,none⟩=some vy∧w.cell? ⟨G,1,none⟩=some vo:=by
 constructor<;>simp[World.cell?,h]
theorem znu{α:Type}{zs:List α}{k:Nat}(h:k<zs.length)(pre:List α):pre++zs.take (k+1)=(pre++zs.take k)++[zs[k]]:=by
 rw[List.take_succ_eq_append_getElem h,List.append_assoc]
theorem zoj{α:Type}{zs:List α}{k:Nat}(h:k<zs.length)(_:List α):zs.take (k+1)=zs.take k++[zs[k]]:=List.take_succ_eq_append_getElem h
theorem znW(w0:World)(n:Nat)(hn:1≤n)(l Bn:Nat)(vy vo:Value)(ys os:List (RT w0))(J Jx:List (RT w0)→World→Prop)
 (hY:∀ pre x W,J pre W→pre.length<ys.length+os.length→YieldAt Fence.wide (n-1) Tryz.prog l #[.agg #[.string x.1.T.first,.string x.1.T.last,x.1.vb,x.1.vk]] W fun e W' =>
  (e=.returned (.bool true)∧J (pre++[x]) W'∧KpT w0.heap.size W W')∨(e=.returned (.bool false)∧Jx (pre++[x]) W'))
 (W:World) (hJ:AbidesFrom W.heap.size J) (h1:W.cell? ⟨Bn,1,none⟩=some vy) (h2:W.cell? ⟨Bn,2,none⟩=some vo) (hry:RdTs w0 vy (ys.map (·.1))) (hro:RdTs w0 vo (os.map (·.1))) (hb:Below w0.heap.size w0 W) (h0:J [] W) :
 CallsIn Fence.wide n Tryz.prog 201 #[.func (.yield l) #[] #[],.pointer (some ⟨Bn,0,none⟩)] W fun e W'=>(∃ v,e=.returned v) ∧
  ((∃ zs,zs=ys++os∧J zs W')∨(∃ pre,pre <+: ys++os∧Jx pre W')):=by
 obtain⟨ay,cy,hvy,hly,hmy,-⟩:=id hry;obtain⟨ao,co,hvo,hlo,hmo,-⟩:=id hro;rw[List.length_map] at hvy hly hvo hlo;obtain⟨yn,hyn⟩:∃ yn,yn=ys.length:=⟨_,rfl⟩;obtain⟨on,hon⟩:∃ on,on=os.length:=⟨_,rfl⟩;have HYN:Hid (yn=ys.length):=hyn;have HON:Hid (on=os.length):=hon;rw[← hyn] at hvy hly hY;rw[← hon] at hvo hlo hY;subst hvy;subst hvo;unfold maxLen at hmy hmo;have HY:Hid (∀ pre x W,J pre W→pre.length<yn+on→_):=hY;have HJ:Hid (AbidesFrom W.heap.size J):=hJ;have hJ1:J [] (W.alloc (.cells #[.slice ay yn cy,.slice ao on co] 32)):=hJ [] W _ none h0 (World.grownBy_alloc W _ none) (fun r e=>by cases e);have hb1:Below w0.heap.size w0 (W.alloc (.cells #[.slice ay yn cy,.slice ao on co] 32)):=hb.alloc hb.size _;have hG:(W.alloc (.cells #[.slice ay yn cy,.slice ao on co] 32)).heap[W.heap.size]? = some (.cells #[.slice ay yn cy,.slice ao on co] 32 (0,0)):=World.alloc_heap_new W _;clear hyn hon hY hJ h0;refine callsIn_of_wp Tryz.func201 rfl trivial ?_ rfl;simp only[Tryz.ntmps201,List.size_toArray,List.length_cons,List.length_nil,Nat.reduceAdd,Nat.reduceSub,Array.replicate_succ,Array.replicate_zero,List.push_toArray,List.append_toArray,List.nil_append,List.cons_append];gi_wp2
 gi_loopw [13] (fun i wr=>∃ j:Nat,j≤2∧i=.int .i64 j∧J (if j=0 then [] else if j=1 then ys else ys++os) wr∧wr.heap[W.heap.size]? = some (.cells #[.slice ay yn cy,.slice ao on co] 32 (0,0))∧Below w0.heap.size w0 wr∧W.heap.size≤wr.heap.size) (fun i _=>2-(intOf i).toNat)
 case atStart=>exact⟨0,Nat.zero_le _,rfl,hJ1,hG,hb1,by simp⟩
 case round =>
  obtain⟨j,hj,rfl,hJs,hGs,hbs,hWs⟩:=hrel;clear hJ1 hb1 hG hb h1 h2;obtain⟨g0,g1⟩:=lv_cells hGs;obtain rfl | rfl | rfl:j=0∨j=1∨j=2:=by omega
  ·gi_wp2
   gi_loopw [19] (fun i wr=>∃ k:Nat,k≤yn∧i=.int .i64 k∧J (ys.take k) wr∧wr.heap[W.heap.size]? = some (.cells #[.slice ay yn cy,.slice ao on co] 32 (0,0))∧Below w0.heap.size w0 wr∧W.heap.size≤wr.heap.size) (fun i _=>yn-(intOf i).toNat)
   case atStart=>exact⟨0,Nat.zero_le _,rfl,by simpa using hJs,hGs,hbs,hWs⟩
   case round =>
    clear hJs hGs hbs g0 g1 hWs;obtain⟨k,hk,rfl,hJs,hGs,hbs,hWs⟩:=hrel;by_cases hlt:k<yn
    ·have hkl:k<ys.length:=by rw[← HYN.out];exact hlt
     obtain⟨b,off,rfl,hc,-,-⟩:=(hry.below hbs).at k (by rw[List.length_map];exact hkl);rw[rt_nth hkl] at hc;obtain⟨x,hx⟩:∃ x,x=ys[k]:=⟨_,rfl⟩;rw[← hx] at hc;have HTK:Hid (ys.take (k+1)=(ys.take k)++[x]):=by rw[hx];exact zoj hkl []
     have hlen:(ys.take k).length<yn+on:=by
      have h1:=HYN.out;have h2:=HON.out;simp;omega
     have HPF:Hid ((ys.take k)++[x] <+: ys++os):=by
      rw[← HTK.out];exact(List.take_prefix _ _).trans (List.prefix_append _ _)
     obtain⟨c0,c1,c2,c3⟩:=id hc;have hkc:k<cy:=by omega
     have hYx:=fun W hJ=>HY.out (ys.take k) x W hJ hlen
     obtain⟨ab,cb,hvb,-⟩:=id x.2.1;obtain⟨ak,ck,hvk,-⟩:=id x.2.2.1;generalize x.1.T.bits.length=bn at hvb;generalize x.1.T.blocks.length=kn at hvk;rw[hvb] at c2 hYx;rw[hvk] at c3 hYx;have hJ2:=HJ.out _ wr _ none hJs (World.grownBy_alloc wr (.cells #[.string x.1.T.first,.string x.1.T.last,.slice ab bn cb,.slice ak kn ck] 118) none) (fun r e=>by cases e);have hb2:=hbs.alloc hbs.size (.cells #[.string x.1.T.first,.string x.1.T.last,.slice ab bn cb,.slice ak kn ck] 118);have hG2:=(Below.heap_alloc wr (.cells #[.string x.1.T.first,.string x.1.T.last,.slice ab bn cb,.slice ak kn ck] 118) _ (Array.getElem?_eq_some_iff.1 hGs).1).trans hGs;have hs2:W.heap.size≤(wr.alloc (.cells #[.string x.1.T.first,.string x.1.T.last,.slice ab bn cb,.slice ak kn ck] 118)).heap.size:=by simp;omega
     obtain⟨fn,tmps,assign,body,hy,hR⟩:=hYx _ hJ2;have HR:Hid (RoundIn _ _ _ _ _ _ _ _ _ _):=hR;clear hR hx hkl hJs hGs hbs hWs hJ2 hc hlen hYx hvb hvk;gi_wp2
     refine HR.out.mono ?_;rintro e W3 (⟨rfl,hJ3,hk3⟩ | ⟨rfl,hJx3⟩)
     ·have hG3:=(hk3.2 _ _ _ hG2).trans hG2;have hb3:=hb2.trans hk3.1;have hs3:W.heap.size≤W3.heap.size:=Nat.le_trans hs2 (by have:=(Array.getElem?_eq_some_iff.1 hG3).1;exact Nat.le_of_lt_succ (Nat.lt_succ_of_le (Nat.le_trans (Nat.le_refl _) hk3.1.size)));rw[← HTK.out] at hJ3;clear HR hy hk3 hG2 hb2 hs2 c0 c1 c2 c3;gi_wp2
      go_roundw
      case rel=>exact⟨k+1,by omega,by go_num,hJ3,hG3,hb3,hs3⟩
      case measure=>simp[intOf];omega
     ·clear HR hy;gi_wp2
      refine bodyPost_ret (results_none rfl _ _ _) rfl ?_;exact⟨⟨_,rfl⟩,.inr ⟨_,HPF.out,hJx3⟩⟩
    ·have hke:k=yn:=by omega
     rw[hke,HYN.out,List.take_length] at hJs;clear hke;gi_wp2
     go_roundw
     case rel=>exact⟨1,by omega,by go_num,hJs,hGs,hbs,hWs⟩
     case measure=>simp[intOf]
  ·gi_wp2
   gi_loopw [19] (fun i wr=>∃ k:Nat,k≤on∧i=.int .i64 k∧J (ys++os.take k) wr∧wr.heap[W.heap.size]? = some (.cells #[.slice ay yn cy,.slice ao on co] 32 (0,0))∧Below w0.heap.size w0 wr∧W.heap.size≤wr.heap.size) (fun i _=>on-(intOf i).toNat)
   case atStart=>exact⟨0,Nat.zero_le _,rfl,by simpa using hJs,hGs,hbs,hWs⟩
   case round =>
    clear hJs hGs hbs g0 g1 hWs;obtain⟨k,hk,rfl,hJs,hGs,hbs,hWs⟩:=hrel;by_cases hlt:k<on
    ·have hkl:k<os.length:=by rw[← HON.out];exact hlt
     obtain⟨b,off,rfl,hc,-,-⟩:=(hro.below hbs).at k (by rw[List.length_map];exact hkl);rw[rt_nth hkl] at hc;obtain⟨x,hx⟩:∃ x,x=os[k]:=⟨_,rfl⟩;rw[← hx] at hc;have HTK:Hid (ys++os.take (k+1)=(ys++os.take k)++[x]):=by rw[hx];exact znu hkl ys
     have hlen:(ys++os.take k).length<yn+on:=by
      have h1:=HYN.out;have h2:=HON.out;simp;omega
     have HPF:Hid ((ys++os.take k)++[x] <+: ys++os):=by
      rw[← HTK.out];exact List.prefix_append_right_inj ys |>.2 (List.take_prefix _ _)
     obtain⟨c0,c1,c2,c3⟩:=id hc;have hkc:k<co:=by omega
     have hYx:=fun W hJ=>HY.out (ys++os.take k) x W hJ hlen
     obtain⟨ab,cb,hvb,-⟩:=id x.2.1;obtain⟨ak,ck,hvk,-⟩:=id x.2.2.1;generalize x.1.T.bits.length=bn at hvb;generalize x.1.T.blocks.length=kn at hvk;rw[hvb] at c2 hYx;rw[hvk] at c3 hYx;have hJ2:=HJ.out _ wr _ none hJs (World.grownBy_alloc wr (.cells #[.string x.1.T.first,.string x.1.T.last,.slice ab bn cb,.slice ak kn ck] 118) none) (fun r e=>by cases e);have hb2:=hbs.alloc hbs.size (.cells #[.string x.1.T.first,.string x.1.T.last,.slice ab bn cb,.slice ak kn ck] 118);have hG2:=(Below.heap_alloc wr (.cells #[.string x.1.T.first,.string x.1.T.last,.slice ab bn cb,.slice ak kn ck] 118) _ (Array.getElem?_eq_some_iff.1 hGs).1).trans hGs;have hs2:W.heap.size≤(wr.alloc (.cells #[.string x.1.T.first,.string x.1.T.last,.slice ab bn cb,.slice ak kn ck] 118)).heap.size:=by simp;omega
     obtain⟨fn,tmps,assign,body,hy,hR⟩:=hYx _ hJ2;have HR:Hid (RoundIn _ _ _ _ _ _ _ _ _ _):=hR;clear hR hx hkl hJs hGs hbs hWs hJ2 hc hlen hYx hvb hvk;gi_wp2
     refine HR.out.mono ?_;rintro e W3 (⟨rfl,hJ3,hk3⟩ | ⟨rfl,hJx3⟩)
     ·have hG3:=(hk3.2 _ _ _ hG2).trans hG2;have hb3:=hb2.trans hk3.1;have hs3:W.heap.size≤W3.heap.size:=Nat.le_trans hs2 (by have:=(Array.getElem?_eq_some_iff.1 hG3).1;exact Nat.le_of_lt_succ (Nat.lt_succ_of_le (Nat.le_trans (Nat.le_refl _) hk3.1.size)));rw[← HTK.out] at hJ3;clear HR hy hk3 hG2 hb2 hs2 c0 c1 c2 c3;gi_wp2
      go_roundw
      case rel=>exact⟨k+1,by omega,by go_num,hJ3,hG3,hb3,hs3⟩
      case measure=>simp[intOf];omega
     ·clear HR hy;gi_wp2
      refine bodyPost_ret (results_none rfl _ _ _) rfl ?_;exact⟨⟨_,rfl⟩,.inr ⟨_,HPF.out,hJx3⟩⟩
    ·have hke:k=on:=by omega
     rw[hke,HON.out,List.take_length] at hJs;clear hke;gi_wp2
     go_roundw
     case rel=>exact⟨2,by omega,by go_num,hJs,hGs,hbs,hWs⟩
     case measure=>simp[intOf]
  ·gi_wp2
   go_end0
   exact⟨⟨_,rfl⟩,.inl ⟨_,rfl,hJs⟩⟩
theorem zn6(X:TrX)(w:World) :
 Calls Tryz.prog 152 #[.agg #[X.vm,X.vy,X.vo,.int .i64 X.seq,X.vs]] w fun e w'=>e=.returned (.func (.func 201) #[] #[.pointer (some ⟨w.heap.size,0,none⟩)])∧w'=w.alloc (.cells #[X.vm,X.vy,X.vo,.int .i64 X.seq,X.vs] 34):=by
 go_enter Tryz.func152,Tryz.ntmps152
 go_wp2;go_ret;exact⟨rfl,rfl⟩
theorem zkb(w0:World)(n:Nat)(hn:1≤n)(Bn:Nat)(vy vo:Value)(ys os:List (RT w0))(w:World)(hBn:Bn<w.heap.size)(h0:w0.heap.size≤w.heap.size)(c1:w.cell? ⟨Bn,1,none⟩=some vy)(c2:w.cell? ⟨Bn,2,none⟩=some vo)(hry:RdTs w0 vy (ys.map (·.1)))(hro:RdTs w0 vo (os.map (·.1)))(hb:Below w0.heap.size w0 w) :
 SeqStopsK Fence.wide n Tryz.prog 201 #[.pointer (some ⟨Bn,0,none⟩)] (fun x:RT w0=>#[.agg #[.string x.1.T.first,.string x.1.T.last,x.1.vb,x.1.vk]]) (KpT w0.heap.size) (fun zs=>zs=ys++os) (fun pre=>pre <+: ys++os) (ys.length+os.length) w:=fun l J Jx W hW hJ _ hY h1 =>
 znW w0 n hn l Bn vy vo ys os J Jx hY W hJ ((hW.cell (p:=⟨Bn,1,none⟩) hBn).trans c1) ((hW.cell (p:=⟨Bn,2,none⟩) hBn).trans c2) hry hro (hb.trans (hW.mono h0)) h1
def newAt(l:List Ent)(x:Ent):Bool:=match seenL l x.key 1000000 with
 | some y=>decide (y.seq<x.seq)
 | none=>true
def newIn(mem l:List Ent):Bool:=mem.all (newAt l)
theorem zid{l:List Ent}{x:Ent}(h:seenL l x.key 1000000=none):newAt l x=true:=by unfold newAt;rw[h]
theorem zio{l:List Ent}{x y:Ent}(h:seenL l x.key 1000000=some y):newAt l x=decide (y.seq<x.seq):=by unfold newAt;rw[h]
theorem zkX{l:List Ent}(hl:okL l=true)(x:Ent):newAt l x=true↔∀ y∈l,x.key=y.key→y.seq<x.seq:=by
 have ho:=((za0 _).1 hl).2.1;have hs:Sr l:=ziu hl;have up:∀ y∈l,y.seq≤1000000:=fun y hy=>by
  have:=ho y hy;simp only[okE,Bool.and_eq_true,decide_eq_true_eq] at this;exact this.2
 cases h:seenL l x.key 1000000 with
 | none =>
  rw[zid h];rw[zqx] at h;simp only[true_iff];intro y hy hk;exact absurd (up y hy) (h y hy hk.symm)
 | some e =>
  rw[zio h,decide_eq_true_eq];rw[seen_iff hs] at h;obtain⟨g1,g2,g3,g4⟩:=h;constructor
  ·intro hlt y hy hk;have:=g4 y hy hk.symm (up y hy);omega
  ·intro hall;exact hall e g1 g2.symm
theorem zkl{mem l:List Ent}(hl:okL l=true):newIn mem l=true↔∀ x∈mem,∀ y∈l,x.key=y.key→y.seq<x.seq:=by
 unfold newIn;rw[List.all_eq_true];exact⟨fun h x hx=>(zkX hl x).1 (h x hx),fun h x hx=>(zkX hl x).2 (h x hx)⟩
theorem newIn_no{mem l:List Ent}{i:Nat}(hi:i<mem.length)(h:newAt l (nth mem i)=false):newIn mem l=false:=by
 unfold newIn;rw[List.all_eq_false];exact⟨nth mem i,by rw[zE hi];exact List.getElem_mem hi,by rw[h];simp⟩
theorem zqQ{mem l:List Ent}(h:∀ i,i<mem.length→newAt l (nth mem i)=true):newIn mem l=true:=by
 unfold newIn;rw[List.all_eq_true];intro x hx;obtain⟨i,hi,rfl⟩:=List.getElem_of_mem hx;rw[← zE hi];exact h i hi
def past(ls:List (List Ent))(q:Int):Bool:=ls.all (fun l=>l.all (fun e=>decide (e.seq≤q)))
def tabOk(mem:List Ent)(t:Tbl):Bool:=zA t&&newIn mem (zp t)
def zbT(T:Tre):Bool:=decide (T.young.length≤6)&&decide (T.old.length≤1)&&decide (0≤T.seq)&&decide (T.seq≤1000000)&&(decide (T.snaps.length≤10)&&zao T.seq T.snaps)&&okL T.mem
def zf8(T:Tre):Bool:=past (lsT T) T.seq&&decide ((zk (lsT T)).length=lenS (lsT T))
theorem zmN(T:Tre):zai T=(zbT T&&(T.young++T.old).all (tabOk T.mem)&&zf8 T):=by
 rw[Bool.eq_iff_iff,zcl];simp only[zbT,zf8,tabOk,past,Bool.and_eq_true,decide_eq_true_eq,List.all_eq_true];constructor
 ·intro h;refine⟨⟨⟨⟨⟨⟨⟨h.young,h.old⟩,h.seq0⟩,h.seq1⟩,h.few,h.snaps⟩,h.mem⟩,fun t ht=>⟨h.full t ht,?_⟩⟩,fun l hl e he=>h.top l hl e he,(zdT (ze7 h.mem)).2 h.apart⟩;rw[zkl (zab (h.full t ht)).1];exact fun x hx=>h.newer x hx _ (List.mem_map.2 ⟨t,ht,rfl⟩)
 ·rintro ⟨⟨⟨⟨⟨⟨⟨h1,h2⟩,h3⟩,h4⟩,h5,h6⟩,h7⟩,h8⟩,h9,h10⟩;refine⟨h7,h1,h2,fun t ht=>(h8 t ht).1,(zdT (ze7 h7)).1 h10,h3,h4,h5,h6,h9,fun x hx l hl=>?_⟩;obtain⟨t,ht,rfl⟩:=List.mem_map.1 hl;have:=h8 t ht;exact(zkl (zab this.1).1).1 this.2 x hx
theorem zd9{T:Tre}(h:zbT T=false):zai T=false:=by rw[zmN,h];rfl
theorem unp_tab{T:Tre}{t:Tbl}(ht:t∈T.young++T.old)(h:tabOk T.mem t=false):zai T=false:=by
 rw[zmN];have:(T.young++T.old).all (tabOk T.mem)=false:=by
  rw[List.all_eq_false];exact⟨t,ht,by rw[h];simp⟩
 rw[this];simp
theorem zmO{T:Tre}(h:zf8 T=false):zai T=false:=by rw[zmN,h];simp
theorem unp_yes{T:Tre}(h1:zbT T=true)(h2:∀ t∈T.young++T.old,tabOk T.mem t=true)(h3:zf8 T=true):zai T=true:=by
 rw[zmN,h1,h3,List.all_eq_true.2 h2];rfl
def unpL(T:Tre):List (List Ent):=if zai T=true then lsT T else []
theorem zmP{T:Tre}(h:zai T=true):unpL T=lsT T:=if_pos h
theorem unpL_no{T:Tre}(h:zai T=false):unpL T=[]:=if_neg (by rw[h];simp)
end Go.Proofs.YtannfbpohhnnkaaGreatDoor
