import Derived.Test.YtannfbpohhnnkaaGreatDoorG16
import Derived.BigQuiet
import Derived.Deep.RegionWith
namespace Go.Proofs.YtannfbpohhnnkaaGreatDoor
set_option maxHeartbeats 16000000
set_option maxRecDepth 100000
open Go.RowKit
theorem zoG{a b:Int}(h:a=b):Ending.returned (.int .i64 a)=.returned (.int .i64 b):=by rw[h]
theorem zho(va vb:Value)(xs:List Int)(w:World)(ha:RdI w va xs)(hb:RdI w vb xs) :
 Calls Tryz.prog 76 #[va,vb] w fun e w'=>e=.returned (.bool true)∧∃ n,w'=w.drewN n:=by
 obtain⟨aa,ca,hva,hla,hma,_⟩:=id ha;obtain⟨ab,cb,hvb,hlb,hmb,_⟩:=id hb;subst hva;subst hvb;unfold maxLen at hma hmb;have hne:((xs.length:Int) != (xs.length:Int))=false:=by simp
 go_enter Tryz.func76,Tryz.ntmps76
 go_wp2;go_loopw [5] (fun i wr=>∃ k:Nat,k≤xs.length∧i=.int .i64 k∧∃ n,wr=w.drewN n) (fun i _=>xs.length-(intOf i).toNat)
 case atStart=>exact⟨0,Nat.zero_le _,rfl,0,rfl⟩
 case round =>
  obtain⟨k,hk,rfl,n,rfl⟩:=hrel;by_cases hlt:k<xs.length
  ·obtain⟨b1,o1,rfl,c1⟩:=(ha.drewN n).at k hlt;obtain⟨b2,o2,rfl,c2⟩:=(hb.drewN n).at k hlt;generalize xs[k]=x at c1 c2;have hd:(x != x)=false:=by simp
   go_wp2_with fail
   refine wp_region_noPanic ?_;refine wp_region_held_drew (S:=fun w'=>w'.cell? ⟨b1,o1+k,none⟩=some (.int .i64 x)∧w'.cell? ⟨b2,o2+k,none⟩=some (.int .i64 x)) (by kernel_rfl) ⟨c1,c2⟩ (fun hH=>?_);refine kA 0 17 hH ?_;refine kA 1 18 hH ?_;refine kA 2 19 hH ?_;refine kA 3 20 hH ?_;refine kA 4 21 hH ?_;refine kA 5 22 hH ?_;refine kA 6 23 hH ?_;refine kA 7 24 hH ?_;refine kA 8 25 hH ?_;refine dne ?_;go_wp2;go_roundw
   case rel=>exact⟨k+1,by omega,by go_num,n+1,rfl⟩
   case measure=>simp[intOf];omega
  ·have hlt2:¬ (k:Int)<(xs.length:Int):=by omega
   go_wp2;go_ret;exact⟨rfl,n,rfl⟩
def zae(k n:Nat):List Int:=(List.range n).map fun i=>((k+i:Nat):Int)
theorem za8(k n:Nat):(zae k n).length=n:=by simp[zae]
theorem zla(k n:Nat):zae k (n+1)=zae k n++[((k+n:Nat):Int)]:=by simp[zae,List.range_succ]
theorem zn2(k n i:Nat)(h:i<(zae k n).length):(zae k n)[i]=((k+i:Nat):Int):=by simp[zae]
theorem zno(k i:Nat)(bs:List Int)(h:i<bs.length):(zae k i++bs.drop i).set i ((k+i:Nat):Int)=zae k (i+1)++bs.drop (i+1):=by
 have hl:=za8 k i;rw[List.set_append_right _ _ (by omega),hl,Nat.sub_self,List.drop_eq_getElem_cons h,List.set_cons_zero,zla,List.append_assoc,List.singleton_append]
theorem zj7(v:Value)(bs:List Int)(base k:Nat)(w:World)(hk:k+bs.length≤1073741824)(hown:OwnI w base v bs) :
 Calls Tryz.prog 82 #[v,.int .i64 (k:Int)] w fun e w'=>e=.returned (.int .i64 ((k+bs.length:Nat):Int))∧OwnI w' base v (zae k bs.length)∧w.grownBy w' v.ownBlock:=by
 rcases hown.2 with ⟨rfl,h0⟩ | ⟨g,cap,cur,hv,hb,hg,hn,hc,_⟩
 ·have:bs=[]:=List.length_eq_zero_iff.1 h0;subst this;go_enter Tryz.func82,Tryz.ntmps82
  go_wp2;refine wp_loop_rounds 1 ?_;rw[rounds_succ];go_wp2;go_ret;exact⟨by simp,hown,⟨rfl,rfl,rfl,Nat.le_refl _,fun _ _ _=>rfl⟩⟩
 ·subst hv;unfold maxLen at hc;have hgr:w.grownBy w (some g):=⟨rfl,rfl,rfl,Nat.le_refl _,fun _ _ _=>rfl⟩;have ho0:w.ownsRow base 2 1 (.slice (some ⟨g,0,none⟩) bs.length cap) bs.length (IV (zae k 0++bs.drop 0)):=by have h:=hown;unfold OwnI at h;simpa [zae] using h
  clear hg;go_enter Tryz.func82,Tryz.ntmps82
  go_wp2;go_loopw [1,5] (fun kk i wr=>∃ j:Nat,j≤bs.length∧i=.int .i64 j∧kk=.int .i64 ((k+j:Nat):Int)∧wr.ownsRow base 2 1 (.slice (some ⟨g,0,none⟩) bs.length cap) bs.length (IV (zae k j++bs.drop j))∧w.grownBy wr (some g)) (fun _ i _=>bs.length-(intOf i).toNat)
  case atStart=>exact⟨0,Nat.zero_le _,rfl,rfl,ho0,hgr⟩
  case round =>
   obtain⟨j,hj,rfl,rfl,ho,hgw⟩:=hrel;clear ho0 hgr;have hll:(zae k j++bs.drop j).length=bs.length:=by rw[List.length_append,za8,List.length_drop];omega
   by_cases hlt:j<bs.length
   ·have hc2:=(ho.cellAt j (by omega)).trans (zmk _ j (by omega));have hf:=ho.frozenAt j;have R1:=(ho.stored j (.int .i64 ((k+j:Nat):Int))).1;rw[← IV_set,zno k j bs hlt] at R1;have R2:w.grownBy (wr.setCell ⟨g,j,none⟩ (.int .i64 ((k+j:Nat):Int))) (some g):=⟨hgw.os,hgw.tape,hgw.output,by simpa using hgw.size,fun i hi hr=>by rw[heap_setCell_other wr ⟨g,j,none⟩ i _ (fun e=>hr (by simp[e]))];exact hgw.block i hi hr⟩;generalize (zae k j++bs.drop j)[j]=old at hc2;have H1:Hid (World.ownsRow _ _ _ _ _ _ _):=R1;obtain⟨kj,hkj⟩:∃ kj:Nat,kj=k+j:=⟨_,rfl⟩;rw[← hkj] at H1 R2 ⊢;have hkj2:kj≤1073741824:=by omega
    have HKJ:Hid (kj=k+j):=hkj;clear ho R1 hgw hll hkj;go_wp2;go_roundw
    case rel=>exact⟨j+1,by omega,by go_num,by have:=HKJ.out;simp;omega,H1.out,R2⟩
    case measure=>simp[intOf];omega
   ·have hje:j=bs.length:=by omega
    have hlt2:¬ (j:Int)<(bs.length:Int):=by omega
    have H1:Hid (OwnI wr base (.slice (some ⟨g,0,none⟩) bs.length cap) (zae k bs.length)):=by
     rw[hje,List.drop_eq_nil_of_le (Nat.le_refl _),List.append_nil] at ho;unfold Hid OwnI;rw[za8];exact ho
    have HE:Hid (k+j=k+bs.length):=by rw[hje];rfl
    clear ho hll hje;go_wp2;go_ret;exact⟨zoG (by have:=HE.out;omega),H1.out,hgw⟩
theorem zkO(v:Value)(n k:Nat)(w:World)(hk:k+n≤1073741824)(hr:RdI w v (zae k n)) :
 Calls Tryz.prog 85 #[v,.int .i64 (k:Int)] w fun e w'=>e=.returned (.int .i64 ((k+n:Nat):Int))∧w'=w:=by
 obtain⟨a,cap,hv,hl,hm,_⟩:=id hr;rw[za8] at hv hl;subst hv;unfold maxLen at hm;go_enter Tryz.func85,Tryz.ntmps85
 go_wp2;go_loopw [1,5] (fun kk i wr=>∃ j:Nat,j≤n∧i=.int .i64 j∧kk=.int .i64 ((k+j:Nat):Int)∧wr=w) (fun _ i _=>n-(intOf i).toNat)
 case atStart=>exact⟨0,Nat.zero_le _,rfl,rfl,rfl⟩
 case round =>
  obtain⟨j,hj,rfl,rfl,hwr⟩:=hrel;obtain rfl:=hwr.symm;by_cases hlt:j<n
  ·obtain⟨b,off,rfl,hc⟩:=hr.at j (by rw[za8];exact hlt);rw[zn2] at hc;obtain⟨kj,hkj⟩:∃ kj:Nat,kj=k+j:=⟨_,rfl⟩;rw[← hkj] at hc ⊢;have hkj2:kj≤1073741824:=by omega
   have hd:((kj:Int) != (kj:Int))=false:=by simp
   have HKJ:Hid (kj=k+j):=hkj;clear hkj;go_wp2;go_roundw
   case rel=>exact⟨j+1,by omega,by go_num,by have:=HKJ.out;simp;omega,trivial⟩
   case measure=>simp[intOf];omega
  ·have hje:j=n:=by omega
   have hlt2:¬ (j:Int)<(n:Int):=by omega
   have HE:Hid (k+j=k+n):=by rw[hje];rfl
   clear hje;go_wp2;go_ret;exact⟨zoG (by have:=HE.out;omega),rfl⟩
open Go.RowKit
theorem zkE(va vb:Value)(bs:List ByteArray)(w:World)(ha:RdS w va bs)(hb:RdS w vb bs) :
 Calls Tryz.prog 157 #[va,vb] w fun e w'=>e=.returned (.bool true)∧∃ q,w'=w.drewN q:=by
 obtain⟨aa,ca,rfl,hla,hma,hA⟩:=ha;obtain⟨ab,cb,rfl,hlb,hmb,hB⟩:=hb;unfold maxLen at hma hmb;have hne:((bs.length:Int) != (bs.length:Int))=false:=by simp
 rcases hA with rfl | ⟨ba,offa,rfl,hA⟩
 ·go_enter Tryz.func157,Tryz.ntmps157
  go_wp2;refine wp_loop_rounds 1 ?_;rw[rounds_succ];go_wp2;go_ret;exact⟨rfl,0,rfl⟩
 ·rcases hB with rfl | ⟨bb,offb,rfl,hB⟩
  ·go_enter Tryz.func157,Tryz.ntmps157
   go_wp2;refine wp_loop_rounds 1 ?_;rw[rounds_succ];go_wp2;go_ret;exact⟨rfl,0,rfl⟩
  ·go_enter Tryz.func157,Tryz.ntmps157
   go_wp2;go_loopw [5] (fun i wr=>∃ k:Nat,k≤bs.length∧i=.int .i64 k∧∃ q,wr=w.drewN q) (fun i _=>bs.length-(intOf i).toNat)
   case atStart=>exact⟨0,Nat.zero_le _,rfl,0,rfl⟩
   case round =>
    obtain⟨k,hk,rfl,q,rfl⟩:=hrel;by_cases hlt:k<bs.length
    ·have h1:=hA k hlt;have h2:=hB k hlt;clear hA hB;go_wp2;go_quiet (fail)
     go_wp2;go_roundw
     case rel=>exact⟨k+1,by omega,by go_num,_,rfl⟩
     case measure=>simp[intOf];omega
    ·go_wp2;go_ret;exact⟨rfl,q,rfl⟩
def zaJ(k n:Nat):List ByteArray:=(List.range n).map fun i=>mk (k+i)
theorem zay(k n:Nat):(zaJ k n).length=n:=by simp[zaJ]
theorem zlE(k n:Nat):zaJ k (n+1)=zaJ k n++[mk (k+n)]:=by simp[zaJ,List.range_succ]
theorem zn7(k n i:Nat)(h:i<(zaJ k n).length):(zaJ k n)[i]=mk (k+i):=by simp[zaJ]
theorem znJ(k i:Nat)(bs:List ByteArray)(h:i<bs.length):(zaJ k i++bs.drop i).set i (mk (k+i))=zaJ k (i+1)++bs.drop (i+1):=by
 rw[zlE,List.set_append_right _ _ (by rw[zay];omega),zay,Nat.sub_self,List.drop_eq_getElem_cons h,List.set_cons_zero];simp
theorem zk9{w wr w1:World}{g:Nat}{u:Value}{j:Nat}(hg:w.grownBy wr (some g))(hb:Below wr.heap.size wr w1):w.grownBy (w1.setCell ⟨g,j,none⟩ u) (some g) :=
 ⟨hb.os.trans hg.os,hb.tape.trans hg.tape,hb.output.trans hg.output,by have:=hg.size;have:=hb.size;simp;omega,fun k hk hr=>by
  rw[heap_setCell_other w1 ⟨g,j,none⟩ k u (fun e=>hr (by simp[e])),hb.block k (by have:=hg.size;omega)];exact hg.block k hk hr⟩
theorem zg4(a:World)(row:Option Nat):a.grownBy a row:=⟨rfl,rfl,rfl,Nat.le_refl _,fun _ _ _=>rfl⟩
theorem zoM(v:Value)(bs:List ByteArray)(base k:Nat)(w:World)(hk0:0<k)(hk:k+bs.length≤4194304)(hown:OwnS w base v bs) :
 Calls Tryz.prog 121 #[v,.int .i64 k] w fun e w'=>e=.returned (.int .i64 ((k+bs.length:Nat):Int))∧OwnS w' base v (zaJ k bs.length)∧w.grownBy w' v.ownBlock:=by
 obtain⟨g,cap,hv⟩ | ⟨hv,h0⟩:(∃ g cap,v=.slice (some ⟨g,0,none⟩) bs.length cap)∨(v=.slice none 0 0∧bs=[]):=by
  rcases hown.2 with ⟨rfl,h0⟩ | ⟨g,cap,cur,rfl,_⟩
  ·exact .inr ⟨rfl,List.length_eq_zero_iff.1 h0⟩
  ·exact .inl ⟨g,cap,rfl⟩
 ·subst hv;go_enter Tryz.func121,Tryz.ntmps121
  go_wp2;go_loopw [1,5] (fun kk i wr=>∃ j:Nat,j≤bs.length∧i=.int .i64 j∧kk=.int .i64 ((k:Int)+(j:Int))∧OwnS wr base (.slice (some ⟨g,0,none⟩) bs.length cap) (zaJ k j++bs.drop j)∧w.grownBy wr (some g)) (fun _ i _=>bs.length-(intOf i).toNat)
  case atStart=>exact⟨0,Nat.zero_le _,rfl,by simp,by simpa [zaJ] using hown,zg4 _ _⟩
  case round =>
   obtain⟨j,hj,rfl,rfl,ho,hg⟩:=hrel;have hlen:(zaJ k j++bs.drop j).length=bs.length:=by simp[zay];omega
   by_cases hlt:j<bs.length
   ·go_wp2_with fail
    refine(zaA _ (k+j) _ (by omega) (by omega) (by omega)).mono ?_;rintro e1 w1 ⟨rfl,hb1⟩;have ho1:=ho.below hb1;have ho':w1.ownsRow base 9 1 (.slice (some ⟨g,0,none⟩) bs.length cap) bs.length (SV (zaJ k j++bs.drop j)):=by have h:=ho1;unfold OwnS at h;rwa [hlen] at h
    have hc:=(ho'.cellAt j (by omega)).trans (zpX _ j (by omega));have hf:=ho'.frozenAt j;have R1:OwnS (w1.setCell ⟨g,j,none⟩ (.string (mk (k+j)))) base (.slice (some ⟨g,0,none⟩) bs.length cap) (zaJ k (j+1)++bs.drop (j+1)):=by
     have h:=(ho'.stored j (.string (mk (k+j)))).1;rw[← SV_set,znJ k j bs hlt] at h;have hl:(zaJ k (j+1)++bs.drop (j+1)).length=bs.length:=by simp[zay];omega
     unfold OwnS;rw[hl];exact h
    have R2:w.grownBy (w1.setCell ⟨g,j,none⟩ (.string (mk (k+j)))) (some g):=zk9 hg hb1;clear ho ho' ho1 hg hb1;go_wp2;go_roundw
    case rel=>exact⟨j+1,by omega,by go_num,by go_num,R1,R2⟩
    case measure=>simp[intOf];omega
   ·have hje:j=bs.length:=by omega
    subst hje;go_wp2;go_ret;exact⟨by simp,by simpa using ho,hg⟩
 ·subst hv;subst h0;go_enter Tryz.func121,Tryz.ntmps121
  go_wp2;refine wp_loop_rounds 1 ?_;rw[rounds_succ];go_wp2;go_ret;exact⟨rfl,hown,zg4 _ _⟩
theorem zpN(v:Value)(n k:Nat)(w:World)(hk0:0<k)(hk:k+n≤4194304)(hr:RdS w v (zaJ k n)) :
 Calls Tryz.prog 122 #[v,.int .i64 k] w fun e w'=>e=.returned (.int .i64 ((k+n:Nat):Int))∧Below w.heap.size w w':=by
 obtain⟨a,cap,hv,hl,hm,hA⟩:=hr;rw[zay] at hv hl;subst hv;by_cases h0:n=0
 ·subst h0;go_enter Tryz.func122,Tryz.ntmps122
  go_wp2;refine wp_loop_rounds 1 ?_;rw[rounds_succ];go_wp2;go_ret;exact⟨rfl,Below.refl _ _⟩
 ·obtain⟨b,off,rfl,hc⟩:∃ b off,a=some ⟨b,off,none⟩∧∀ i,i<n→w.cell? ⟨b,off+i,none⟩=some (.string (mk (k+i))):=by
   rcases hA with h | ⟨b,off,ha,hc⟩
   ·have:=congrArg List.length h;rw[zay] at this;exact absurd this h0
   ·refine⟨b,off,ha,fun i hi=>?_⟩;have h:=hc i (by rw[zay];exact hi);rw[zn7] at h;exact h
  clear hA;go_enter Tryz.func122,Tryz.ntmps122
  go_wp2;go_loopw [1,5] (fun kk i wr=>∃ j:Nat,j≤n∧i=.int .i64 j∧kk=.int .i64 ((k:Int)+(j:Int))∧Below w.heap.size w wr) (fun _ i _=>n-(intOf i).toNat)
  case atStart=>exact⟨0,Nat.zero_le _,rfl,by simp,Below.refl _ _⟩
  case round =>
   obtain⟨j,hj,rfl,rfl,hb⟩:=hrel;by_cases hlt:j<n
   ·have h1:wr.cell? ⟨b,off+j,none⟩=some (.string (mk (k+j))):=by rw[hb.cell (World.block_lt_of_cell? w _ (hc j hlt))];exact hc j hlt
    have hlt2:=World.block_lt_of_cell? wr _ h1;clear hc;go_wp2;go_region_with (go_at_call 53;refine(zaA _ (k+j) _ (by omega) (by omega) (by omega)).mono ?_;rintro e w' ⟨rfl,hb'⟩;have h2:w'.cell? ⟨b,off+j,none⟩=some (.string (mk (k+j))):=(hb'.cell (by simpa using hlt2)).trans (by simpa using h1);have hbw:Below w.heap.size w w':=(Below.drew hb).trans (hb'.mono (by simpa using hb.size)))
    all_goals
     clear hb h1;go_wp2;go_roundw
     case rel=>exact⟨j+1,by omega,by go_num,by go_num,by assumption⟩
     case measure=>simp[intOf];omega
   ·have hje:j=n:=by omega
    subst hje;go_wp2;go_ret;exact⟨by simp,hb⟩
open Go.RowKit
open Go.RowKit
theorem zjA(T:Tbl)(vb1 vk1 vb2 vk2:Value)(w:World)(hi1:RdI w vb1 T.bits)(hk1:RdS w vk1 T.blocks)(hi2:RdI w vb2 T.bits)(hk2:RdS w vk2 T.blocks) :
 Calls Tryz.prog 114 #[.agg #[.string T.first,.string T.last,vb1,vk1],.agg #[.string T.first,.string T.last,vb2,vk2]] w fun e w'=>e=.returned (.bool true)∧Below w.heap.size w w':=by
 have t0:=zcA w T vb1 vk1 118;have b0:=za w (.cells #[.string T.first,.string T.last,vb1,vk1] 118);have t1:=t0.below (za _ (.cells #[.string T.first,.string T.last,vb2,vk2] 118));have u1:=zcA (w.alloc (.cells #[.string T.first,.string T.last,vb1,vk1] 118)) T vb2 vk2 118;have b1:=b0.alloc b0.size (.cells #[.string T.first,.string T.last,vb2,vk2] 118);rw[show (w.alloc (.cells #[.string T.first,.string T.last,vb1,vk1] 118)).heap.size=w.heap.size+1 by simp] at u1;obtain⟨d0,d1,d2,d3⟩:=id t1;obtain⟨e0,e1,e2,e3⟩:=id u1;clear t0 b0;go_enter Tryz.func114,Tryz.ntmps114
 go_wp2_with fail
 generalize (w.alloc (.cells #[.string T.first,.string T.last,vb1,vk1] 118)).alloc (.cells #[.string T.first,.string T.last,vb2,vk2] 118)=W1 at t1 u1 b1 ⊢;clear d0 d1 d2 d3 e0 e1 e2 e3;refine(zho vb1 vb2 T.bits _ (hi1.below b1) (hi2.below b1)).mono ?_;rintro e w2 ⟨rfl,n2,rfl⟩;have t2:TblAt (W1.drewN n2) w.heap.size T vb1 vk1:=t1;have u2:TblAt (W1.drewN n2) (w.heap.size+1) T vb2 vk2:=u1;have b2:=below_drewN b1 n2;generalize W1.drewN n2=W2 at t2 u2 b2 ⊢;obtain⟨d0,d1,d2,d3⟩:=id t2;obtain⟨e0,e1,e2,e3⟩:=id u2;clear t1 u1 b1;go_wp2_with fail
 refine(zkE vk1 vk2 T.blocks _ (hk1.below b2) (hk2.below b2)).mono ?_;rintro e w3 ⟨rfl,n3,rfl⟩;have b3:=below_drewN b2 n3;go_wp2;go_ret;exact⟨rfl,b3⟩
end Go.Proofs.YtannfbpohhnnkaaGreatDoor
